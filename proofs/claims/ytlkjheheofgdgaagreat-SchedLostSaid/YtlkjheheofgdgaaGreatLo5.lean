/-
  Texts put together: WdEx2, WdWF, WdWF2, WdWF3, WdWF4, WdGets, WdCln, WdNew, WdWld, SdA, SdB, RdM, SdInv, SdQ, SdNear, RowG3, Nums, Get, Back, Ints, Bld, Recs, RecsIn, WSrc1.
-/
import Derived.Test.YtlkjheheofgdgaaGreatLo4
import Derived.Test.YtlkjheheofgdgaaGreatLo3
import Derived.Test.YtlkjheheofgdgaaGreatLo2
import Derived.Test.YtlkjheheofgdgaaGreatLo1
import Derived.WalkKit
import Derived.IntWalk
import Derived.Lib.BitFns
import Derived.OpenShut
import Derived.ProofKit
import Derived.Lib.Builder
import Derived.Deep.SlicePairs
import Derived.Lib.SmallJoins
import Derived.Test.YtlkjheheofgdgaaGreatRows
set_option maxRecDepth 100000
set_option maxHeartbeats 16000000
set_option linter.unusedSimpArgs false
set_option linter.unusedVariables false
open Go Go.RowKit
namespace Go.Proofs.YtlkjheheofgdgaaGreat
structure Sx (W:Wd) (x:yq):Prop where
 sel:x.1=16→Hu W x
 rnd:x.1=21→1≤x.2.2.1∧x.2.2.1<9223372036854775808
theorem JE {w0 w:World}{p:Nat}{T:List Value}{d:Dq}{W:Wd}{R:List zv}{F:Nat}{fst cap:Array Value}{Qd:Int→List zv→Prop}{Qp:Ending→List zv→Prop}(h:yL w0 w p T d W [] R)(hgo:d.go=false)(ok:Sx W d.x)
  (en:∀(args:Array Value) (w:World),(callFunc F args).run Tryz.prog w=.ok (.enter F args) w) (hd:1≤xJ W d.x→Xm w0 p T W F fst cap (Vi d.x) (xJ W d.x:Int) R Qd Qp) :
  Calls Tryz.prog 99 #[.pointer (some ⟨d.q,0,none⟩),.func (.func F) fst cap] w fun r w'=>(xJ W d.x=0∧r=.returned (.tuple #[])∧yL w0 w' p T d W [] R)∨(1≤xJ W d.x∧T4 w0 p T d W Qd Qp r w'):=by
 by_cases h1:d.x.1=21
 ·have hB:=ok.rnd h1
  have e:(xJ W d.x:Int)=d.x.2.2.1:=by unfold xJ;rw[if_pos h1];omega
  have e1:1≤xJ W d.x:=by omega
  have ek:Vi d.x=4:=by unfold Vi;rw[if_pos h1]
  have hd2:=hd e1;rw[e,ek] at hd2;exact(LY h h1 hgo hB en hd2).mono (fun r w' hh=>.inr ⟨e1,hh⟩)
 ·by_cases h2:d.x.1=16
  ·have e:xJ W d.x=(enF (goesN W.Ns W.Cs) 0 (W.yK d.x)).length:=by unfold xJ;rw[if_neg h1,if_pos h2]
   have ek:Vi d.x=3:=by unfold Vi;rw[if_neg h1]
   rw[e,ek] at hd;rw[e];exact IB h h2 (ok.sel h2) _ rfl en (fun h3 _=>hd h3)
  ·have e:xJ W d.x=0:=by unfold xJ;rw[if_neg h1,if_neg h2]
   refine(GS h (.func (.func F) fst cap) h1 h2).mono (fun r w' hh=>.inl ⟨e,hh.1,?_⟩)
   rw[hh.2];exact h
theorem Tl {W:Wd}{x:yq}(ok:Sx W x)(h:xJ W x=0)(v:Int):xP W x v=(0,false):=by
 unfold xJ at h;unfold xP;split at h
 ·rename_i h1;have:=ok.rnd h1;omega
 ·rename_i h1
  rw[if_neg h1];split at h
  ·rename_i h2;rw[if_pos h2,if_pos h]
  ·rename_i h2;rw[if_neg h2]
def Gq (w0:World)(p:Nat)(T:List Value)(W:Wd)(g:Nat)(R:List zv)(Qd:Int→List zv→Prop)(Qp:Ending→List zv→Prop)(r:Ending)(w':World):Prop :=
 (∃v R' D' ra rc,(xJ W ((W.ins g).getD (0,0,0,0))=0∧R'=R∨1≤xJ W ((W.ins g).getD (0,0,0,0))∧Qd v R') ∧
  r=.returned (.agg #[.bool (zR W g v).2.1,.slice ra (zR W g v).2.2.length rc])∧D'.fits (zR W g v).1∧Own w0 w' (zd 1 ra rc (zR W g v).2.2.length (zt (zR W g v).2.2)::(zj p (zR W g v).1 D' T++R'))) ∨
 (∃D' chain R',r=.panicked chain∧1≤xJ W ((W.ins g).getD (0,0,0,0))∧Qp r R'∧D'.fits W∧Own w0 w' (zj p W D' T++R'))
structure KG (W:Wd) (g:Nat):Prop where
 lets:W.lets (g:Int)
 next:Qo W g
 ask:Sx W ((W.ins g).getD (0,0,0,0))
 E7:∀v,G9 W g (xP W ((W.ins g).getD (0,0,0,0)) v).1 (xP W ((W.ins g).getD (0,0,0,0)) v).2
 after:∀v,g<(zR W g v).1.gs.length∧1≤((zR W g v).1.g g).n∧((zR W g v).1.g g).n≤16
theorem Uo {W:Wd}{g:Nat}(h:W.lets (g:Int))(v:Int):zR W g v =
  ((doM W g (W.ins g) (xP W ((W.ins g).getD (0,0,0,0)) v).1 (xP W ((W.ins g).getD (0,0,0,0)) v).2).end_,Xr (doM W g (W.ins g) (xP W ((W.ins g).getD (0,0,0,0)) v).1 (xP W ((W.ins g).getD (0,0,0,0)) v).2).end_ g ((W.ins g).getD (0,0,0,0)),(doM W g (W.ins g) (xP W ((W.ins g).getD (0,0,0,0)) v).1 (xP W ((W.ins g).getD (0,0,0,0)) v).2).rd):=by
 unfold zR;rw[if_pos h];rfl
theorem Kc {w0 w:World}{p:Nat}{T:List Value}{W:Wd}{D:Wa}{R:List zv}{F:Nat}{fst cap:Array Value}{Qd:Int→List zv→Prop}{Qp:Ending→List zv→Prop}(h:Own w0 w (zj p W D T++R))(hf:D.fits W)(g:Nat)(ok:KG W g)
  (en:∀(args:Array Value) (w:World),(callFunc F args).run Tryz.prog w=.ok (.enter F args) w) (hd:1≤xJ W ((W.ins g).getD (0,0,0,0))→Xm w0 p T W F fst cap (Vi ((W.ins g).getD (0,0,0,0))) (xJ W ((W.ins g).getD (0,0,0,0)):Int) R Qd Qp) :
  Calls Tryz.prog 85 #[.pointer (some ⟨p,0,none⟩),.int .i64 (g:Int),.func (.func F) fst cap] w fun r w'=>Gq w0 p T W g R Qd Qp r w':=by
 obtain⟨hl,hn,hak,hdo,haf⟩:=ok;obtain⟨x,hx⟩:∃x,x=(W.ins g).getD (0,0,0,0):=⟨_,rfl⟩
 refine(Kt h hf g hl hn (.func (.func F) fst cap)
  (Qa:=fun v go R'=>∃dv,(v,go)=xP W x dv∧(xJ W x=0∧R'=R∨1≤xJ W x∧Qd dv R'))
  (Qp:=fun r R'=>1≤xJ W x∧Qp r R') (fun q b w1 hD=>?_) (fun q v go R' R2 w1 hq hD=>?_) (fun v go R' hq=>?_)).mono (fun r w' hh=>?_)
 ·have hm:=JE (F:=F) (fst:=fst) (cap:=cap) hD rfl (by show Sx W ((W.ins g).getD (0,0,0,0));exact hak) en (fun h1=>(hd h1).more (ze b [.bool false,.slice none 0 0]))
  refine hm.mono (fun r w' hh=>?_)
  have ex:(Yo W q g).x=x:=hx.symm
  rw[ex] at hh;rcases hh with⟨h0,rfl,h2⟩|⟨h1,⟨v,R2,rfl,⟨R',rfl,hq⟩,h2⟩|⟨ch,R2,rfl,⟨R',rfl,hq⟩,h2⟩⟩
  ·exact .inl ⟨0,false,R,rfl,⟨0,(Tl (by rw[hx];exact hak) h0 0).symm,.inl ⟨h0,rfl⟩⟩,h2⟩
  ·rw[ex] at h2
   exact .inl ⟨_,_,R',rfl,⟨v,rfl,.inr ⟨h1,hq⟩⟩,h2⟩
  ·exact .inr ⟨ch,R',rfl,⟨h1,hq⟩,h2⟩
 ·obtain⟨dv,he,-⟩:=hq
  have ok:=hdo dv;rw[←hx,←he] at ok;exact GU q g v go ok hD
 ·obtain⟨dv,he,-⟩:=hq
  have ha:=haf dv;rw[Uo hl,←hx,←he] at ha;exact ha
 ·rcases hh with⟨v,go,R',D',ra,rc,h1,⟨dv,he,hq⟩,h2,h3⟩|⟨D',ch,R',h1,⟨h2,h3⟩,h4,h5⟩
  ·refine .inl ⟨dv,R',D',ra,rc,by rw[←hx];exact hq,?_⟩
   rw[Uo hl,←hx,←he];rw[←hx] at h1;exact⟨h1,h2,h3⟩
  ·exact .inr ⟨D',ch,R',h1,by rw[←hx];exact h2,h3,h4,h5⟩
structure Y4 (nf nc nk nl n:Nat) (x:yq):Prop where
 op:0≤x.1∧x.1≤22
 pure:x.1≤8→Vb x
 j7:x.1=7→0≤x.2.1∧x.2.1<(n:Int)
 j8:x.1=8→0≤x.2.2.1∧x.2.2.1<(n:Int)
 o9:x.1=9∨x.1=11→(0≤x.2.1∧x.2.1<(nf:Int))∧(0≤x.2.2.1∧x.2.2.1<8)∧(0≤x.2.2.2∧x.2.2.2<8)
 o10:x.1=10∨x.1=17∨x.1=20→0≤x.2.1∧x.2.1<8
 o13:x.1=13→(0≤x.2.1∧x.2.1<(nc:Int))∧(0≤x.2.2.1∧x.2.2.1<8)
 o14:x.1=14→(0≤x.2.1∧x.2.1<(nc:Int))∧(0≤x.2.2.1∧x.2.2.1<8)∧(0≤x.2.2.2∧x.2.2.2<8)
 o15:x.1=15→0≤x.2.1∧x.2.1<(nc:Int)
 o16:x.1=16→(0≤x.2.1∧1≤x.2.2.1∧x.2.1+x.2.2.1≤(nk:Int))∧(0≤x.2.2.2∧x.2.2.2<8)
 o18:x.1=18∨x.1=19→0≤x.2.1∧x.2.1<(nl:Int)
 o21:x.1=21→(0≤x.2.1∧x.2.1<8)∧1≤x.2.2.1∧x.2.2.1<1099511627776
theorem KK {nf nc nk nl n:Nat}{x:yq}(h0:0≤x.1)(h:goodB nf nc nk (nl:Int) n x=some true):Y4 nf nc nk nl n x:=by
 obtain⟨o,a,b,c⟩:=x;obtain⟨k,rfl⟩:∃k:Nat,o=(k:Int):=⟨o.toNat,by simp only at h0;omega⟩
 have hk:k≤22:=by
  rcases Nat.lt_or_ge 22 k with h1|h1
  ·exfalso
   obtain⟨j,rfl⟩:∃j,k=23+j:=⟨k-23,by omega⟩
   unfold goodB at h;simp only[Int.toNat_natCast] at h;split at h<;>first|omega|cases h
  ·exact h1
 have hkk:k=0∨k=1∨k=2∨k=3∨k=4∨k=5∨k=6∨k=7∨k=8∨k=9∨k=10∨k=11∨k=12∨k=13∨k=14∨k=15∨k=16∨k=17∨k=18∨k=19∨k=20∨k=21∨k=22:=by omega
 clear hk h0;rcases hkk with rfl|rfl|rfl|rfl|rfl|rfl|rfl|rfl|rfl|rfl|rfl|rfl|rfl|rfl|rfl|rfl|rfl|rfl|rfl|rfl|rfl|rfl|rfl
 all_goals
  simp only[goodB,xz,Int.toNat_natCast,Option.some.injEq,Bool.and_eq_true,decide_eq_true_eq,beq_iff_eq] at h;refine⟨?_,fun _=>?_,fun _=>?_,fun _=>?_,fun _=>?_,fun _=>?_,fun _=>?_,fun _=>?_,fun _=>?_,fun _=>?_,fun _=>?_,fun _=>?_⟩
  all_goals (simp only[Vb] at *;omega)
structure GW (fs:List (List yq)) (G:Gt):Prop where
 n:1≤G.n∧G.n≤16
 len:G.z.length=G.n*11
 fr:∀i,i<G.n→(0≤G.z.getD (i*11) 0∧G.z.getD (i*11) 0<(fs.length:Int))∧(0≤G.z.getD (i*11+1) 0∧G.z.getD (i*11+1) 0≤((fs.getD (G.z.getD (i*11) 0).toNat []).length:Int))∧0≤G.z.getD (i*11+10) 0∧G.z.getD (i*11+10) 0<8
structure PW (fs:List (List yq)) (ks:List Zm) (nc nl:Nat):Prop where
 f:1≤fs.length∧fs.length≤1000
 fl:∀l∈fs,l.length≤900
 ins:∀l∈fs,∀x∈l,0≤x.1∧goodB fs.length nc ks.length (nl:Int) l.length x=some true
 kl:ks.length≤800
 ck:Ua nc ks
 nc:nc≤1000
 nl:nl≤1000
def X3 (W:Wd)(w:Wt):Prop:=(0≤w.1∧w.1<(W.gs.length:Int))∧(W.g w.1.toNat).st=2∧∃x,W.Zi (W.g w.1.toNat).fn ((W.g w.1.toNat).pc-1)=some x∧(x.1=13∨x.1=14∨x.1=16)∧0≤w.2.1∧w.2.1<((W.yK x).length:Int)
def N1 (W:Wd)(i:Nat)(g:Int):Prop:=(W.g g.toNat).st=2∧∃x,W.Zi (W.g g.toNat).fn ((W.g g.toNat).pc-1)=some x∧x.1=18∧x.2.1=(i:Int)
def I9 (W:Wd)(x:It):Prop:=(0≤x.id∧x.id<(W.gs.length:Int))∧(W.g x.id.toNat).st=3∧(0≤x.at_∧x.at_≤1099511627776)∧0≤x.seq∧x.seq<(W.nx:Int)
def Xp (B:Nat)(W:Wd)(C:Ch):Prop:=C.buf.length≤16∧C.S.length≤B∧C.R.length≤B∧(∀w∈C.S,X3 W w)∧∀w∈C.R,X3 W w
def MF (B:Nat)(W:Wd)(i:Nat)(L:List Int):Prop:=L.length≤B∧(∀g∈L,0≤g∧g<(W.gs.length:Int))∧L.tail.Nodup∧∀g∈L.tail,N1 W i g
structure WF (B:Nat) (W:Wd):Prop where
 p:PW W.fs W.ks W.Cs.length W.Ls.length
 ns:W.Ns.length=W.Cs.length∧∀N∈W.Ns,N≤16
 g1:1≤W.gs.length∧W.gs.length≤100
 gw:∀G∈W.gs,GW W.fs G
 cs:∀C∈W.Cs,Xp B W C
 ls:∀i L,W.Ls[i]?=some L→MF B W i L
 hp:W.hp.length≤B∧(W.hp.map (·.id)).Nodup∧(∀x∈W.hp,I9 W x)∧XQ W.hp
 nx:W.nx≤B
 clock:W.clock≤B
 out:W.out.length≤1000
theorem Xp.mono {B C:Nat}{W:Wd}{c:Ch}(h:Xp B W c)(hb:B≤C):Xp C W c:=⟨h.1,Nat.le_trans h.2.1 hb,Nat.le_trans h.2.2.1 hb,h.2.2.2⟩
theorem WF.mono {B C:Nat}{W:Wd}(h:WF B W)(hb:B≤C):WF C W :=
 ⟨h.p,h.ns,h.g1,h.gw,fun c hc=>(h.cs c hc).mono hb,fun i L hL=>⟨Nat.le_trans (h.ls i L hL).1 hb,(h.ls i L hL).2⟩,⟨Nat.le_trans h.hp.1 hb,h.hp.2⟩,Nat.le_trans h.nx hb,Nat.le_trans h.clock hb,h.out⟩
theorem WF.at {B:Nat}{W:Wd}(h:WF B W){j:Nat}(hj:j<W.gs.length):GW W.fs (W.g j):=h.gw _ (List.mem_of_getElem? (Wd.WW hj))
def Kept (W:Wd)(gs':List Gt):Prop:=W.gs.length≤gs'.length∧∀j,j<W.gs.length→((W.g j).st=2∨(W.g j).st=3)→(gs'.getD j g0).st=(W.g j).st∧(gs'.getD j g0).fn=(W.g j).fn∧(gs'.getD j g0).pc=(W.g j).pc
theorem X3.kept {W:Wd}{gs':List Gt}{w:Wt}(h:X3 W w)(k:Kept W gs'):X3 { W with gs:=gs' } w:=by
 obtain⟨h1,h2,x,h3,h4⟩:=h;obtain⟨e1,e2,e3⟩:=k.2 w.1.toNat (by omega) (.inl h2)
 refine⟨⟨h1.1,by have:=k.1;show w.1<(gs'.length:Int);omega⟩,by show(gs'.getD w.1.toNat g0).st=2;rw[e1];exact h2,x,?_,h4⟩
 show W.Zi (gs'.getD w.1.toNat g0).fn ((gs'.getD w.1.toNat g0).pc-1)=some x
 rw[e2,e3];exact h3
theorem N1.kept {W:Wd}{gs':List Gt}{i:Nat}{g:Int}(h:N1 W i g)(hg:0≤g∧g<(W.gs.length:Int))(k:Kept W gs'):N1 { W with gs:=gs' } i g:=by
 obtain⟨h2,x,h3,h4⟩:=h;obtain⟨e1,e2,e3⟩:=k.2 g.toNat (by omega) (.inl h2)
 refine⟨by show(gs'.getD g.toNat g0).st=2;rw[e1];exact h2,x,?_,h4⟩
 show W.Zi (gs'.getD g.toNat g0).fn ((gs'.getD g.toNat g0).pc-1)=some x
 rw[e2,e3];exact h3
theorem I9.kept {W:Wd}{gs':List Gt}{x:It}(h:I9 W x)(k:Kept W gs'):I9 { W with gs:=gs' } x:=by
 obtain⟨h1,h2,h3⟩:=h;obtain⟨e1,-,-⟩:=k.2 x.id.toNat (by omega) (.inr h2)
 exact⟨⟨h1.1,by have:=k.1;show x.id<(gs'.length:Int);omega⟩,by show(gs'.getD x.id.toNat g0).st=3;rw[e1];exact h2,h3⟩
theorem WF.EW {B:Nat}{W:Wd}(h:WF B W)(gs':List Gt)(k:Kept W gs')(h2:gs'.length≤100)(h3:∀G∈gs',GW W.fs G):WF B { W with gs:=gs' } :=
 ⟨h.p,h.ns,⟨Nat.le_trans h.g1.1 k.1,h2⟩,h3,
  fun C hC=>⟨(h.cs C hC).1,(h.cs C hC).2.1,(h.cs C hC).2.2.1,fun w hw=>((h.cs C hC).2.2.2.1 w hw).kept k,fun w hw=>((h.cs C hC).2.2.2.2 w hw).kept k⟩,
  fun i L hL=>⟨(h.ls i L hL).1,fun g hg=>⟨((h.ls i L hL).2.1 g hg).1,by have h1:=k.1;have h2:=((h.ls i L hL).2.1 g hg).2;show g<(gs'.length:Int);omega⟩,(h.ls i L hL).2.2.1,fun g hg=>((h.ls i L hL).2.2.2 g hg).kept ((h.ls i L hL).2.1 g (List.mem_of_mem_tail hg)) k⟩,
  ⟨h.hp.1,h.hp.2.1,fun x hx=>(h.hp.2.2.1 x hx).kept k,h.hp.2.2.2⟩,h.nx,h.clock,h.out⟩
theorem mem_set {α:Type}{l:List α}{i:Nat}{x y:α}(h:y∈l.set i x):y∈l∨y=x:=List.mem_or_eq_of_mem_set h
theorem WF.ye {B:Nat}{W:Wd}(h:WF B W){g:Nat}(hs:(W.g g).st≠2∧(W.g g).st≠3){G:Gt}(hG:GW W.fs G):WF B (W.ye g G):=by
 refine h.EW _ ⟨by simp,fun j hj hst=>?_⟩ (by simpa using h.g1.2) (fun G' hG'=>?_)
 ·have hne:g≠j:=fun e=>by subst e;rcases hst with h1|h1<;>simp_all
  rw[List.getD_eq_getElem?_getD,List.getElem?_set_ne hne,←List.getD_eq_getElem?_getD]
  exact⟨rfl,rfl,rfl⟩
 ·rcases mem_set hG' with h1|h1
  ·exact h.gw _ h1
  ·rw[h1];exact hG
theorem WF.JK {B:Nat}{W:Wd}(h:WF B W){g:Nat}{G:Gt}(hG:GW W.fs G)(e:G.st=(W.g g).st∧G.fn=(W.g g).fn∧G.pc=(W.g g).pc):WF B (W.ye g G):=by
 refine h.EW _ ⟨by simp,fun j hj hst=>?_⟩ (by simpa using h.g1.2) (fun G' hG'=>?_)
 ·by_cases hne:g=j
  ·subst hne
   rw[List.getD_eq_getElem?_getD,List.getElem?_set_self hj]
   exact e
  ·rw[List.getD_eq_getElem?_getD,List.getElem?_set_ne hne,←List.getD_eq_getElem?_getD]
   exact⟨rfl,rfl,rfl⟩
 ·rcases mem_set hG' with h1|h1
  ·exact h.gw _ h1
  ·rw[h1];exact hG
theorem getD_set_ne {l:List Int}{i j:Nat}{v:Int}(h:i≠j):(l.set i v).getD j 0=l.getD j 0:=by
 rw[List.getD_eq_getElem?_getD,List.getElem?_set_ne h,←List.getD_eq_getElem?_getD]
theorem Vs {l:List Int}{i:Nat}{v:Int}(h:i<l.length):(l.set i v).getD i 0=v:=by
 rw[List.getD_eq_getElem?_getD,List.getElem?_set_self h];rfl
theorem GW.ES {fs:List (List yq)}{G:Gt}(h:GW fs G)(i k:Nat)(hk:k<8)(v:Int):GW fs { G with z:=G.z.set (i*11+2+k) v }:=by
 refine⟨h.n,by simpa using h.len,fun j hj=>?_⟩
 show(0≤(G.z.set (i*11+2+k) v).getD (j*11) 0∧_)∧_
 simp only
 rw[getD_set_ne (by omega),getD_set_ne (by omega),getD_set_ne (by omega)]
 exact h.fr j hj
theorem Gt.L8 (G:Gt)(k v:Int)(hk:0≤k∧k<8):(G.put k v).fn=G.fn∧(G.put k v).pc=G.pc∧(G.put k v).st=G.st∧(G.put k v).n=G.n:=by
 refine⟨?_,?_,rfl,rfl⟩
 ·show(G.z.set (G.o+2+k.toNat) v).getD G.o 0=G.z.getD G.o 0
  rw[getD_set_ne (by omega)]
 ·show(G.z.set (G.o+2+k.toNat) v).getD (G.o+1) 0=G.z.getD (G.o+1) 0
  rw[getD_set_ne (by omega)]
theorem GW.put {fs:List (List yq)}{G:Gt}(h:GW fs G)(k v:Int)(hk:0≤k∧k<8):GW fs (G.put k v):=h.ES (G.n-1) k.toNat (by omega) v
theorem Wq {W:Wd}{g:Nat}{G:Gt}(h:¬g<W.gs.length):W.ye g G=W:=by
 unfold Wd.ye;rw[List.set_eq_of_length_le (by omega)]
theorem WF.put {B:Nat}{W:Wd}(h:WF B W)(g:Nat)(k v:Int)(hk:0≤k∧k<8):WF B (W.put g k v):=by
 by_cases hg:g<W.gs.length
 ·have e:=Gt.L8 (W.g g) k v hk
  exact h.JK ((h.at hg).put k v hk) ⟨e.2.2.1,e.1,e.2.1⟩
 ·unfold Wd.put;rw[Wq hg];exact h
theorem WF.L0 {B:Nat}{W:Wd}(h:WF B W)(Cs':List Ch)(hl:Cs'.length=W.Cs.length)(hc:∀C∈Cs',Xp B W C):WF B { W with Cs:=Cs' }:=by
 refine⟨?_,⟨by rw[hl];exact h.ns.1,h.ns.2⟩,h.g1,h.gw,hc,h.ls,h.hp,h.nx,h.clock,h.out⟩
 show PW W.fs W.ks Cs'.length W.Ls.length
 rw[hl];exact h.p
theorem WF.zW {B:Nat}{W:Wd}(h:WF B W)(i:Int){C:Ch}(hC:Xp B W C):WF B (W.zW i C) :=
 h.L0 _ (by simp) (fun D hD=>by rcases mem_set hD with h1|h1;exact h.cs _ h1;rw[h1];exact hC)
theorem XE {g:Int}{l:List Wt}{w:Wt}(h:w∈yP g l):w∈l∧w.1≠g:=by
 unfold yP at h;rw[List.mem_filter] at h;refine⟨h.1,fun e=>?_⟩
 have:=h.2
 rw[e] at this;simp at this
theorem Xp.leave {B:Nat}{W:Wd}{C:Ch}(h:Xp B W C)(g:Int):Xp B W (R9 g C) :=
 ⟨h.1,Nat.le_trans (Tp _ _) h.2.1,Nat.le_trans (Tp _ _) h.2.2.1,fun w hw=>h.2.2.2.1 w (XE hw).1,fun w hw=>h.2.2.2.2 w (XE hw).1⟩
theorem WF.leave {B:Nat}{W:Wd}(h:WF B W)(g:Int):WF B (W.leave g) :=
 h.L0 _ (by simp) (fun C hC=>by obtain⟨D,hD,rfl⟩:=List.mem_map.1 hC;exact(h.cs D hD).leave g)
theorem WF.Se {B:Nat}{W:Wd}(h:WF B W)(g:Nat)(G:Gt)(hG:GW W.fs G)(hc:∀C∈W.Cs,(∀w∈C.S,w.1≠(g:Int))∧∀w∈C.R,w.1≠(g:Int))(hl:∀(i:Nat) (L:List Int),W.Ls[i]?=some L→(g:Int)∉L.tail)(hh:∀x∈W.hp,x.id≠(g:Int)):WF B (W.ye g G):=by
 have key:∀j:Int,0≤j→j≠(g:Int)→(W.ye g G).g j.toNat=W.g j.toNat:=fun j h0 hj=>by
  show((W.gs.set g G).getD j.toNat g0)=W.gs.getD j.toNat g0
  rw[List.getD_eq_getElem?_getD,List.getElem?_set_ne (by omega),←List.getD_eq_getElem?_getD]
 have hlen:(W.ye g G).gs.length=W.gs.length:=by show(W.gs.set g G).length=_;simp
 have hw:∀w,w.1≠(g:Int)→X3 W w→X3 (W.ye g G) w:=fun w hne hw=>by
  obtain⟨h1,h2,x,h3,h4⟩:=hw;refine⟨by rw[hlen];exact h1,by rw[key _ h1.1 hne];exact h2,x,?_,h4⟩
  show W.Zi ((W.ye g G).g w.1.toNat).fn (((W.ye g G).g w.1.toNat).pc-1)=some x
  rw[key _ h1.1 hne];exact h3
 refine⟨h.p,h.ns,by rw[hlen];exact h.g1,fun G' hG'=>?_,fun C hC=>?_,fun i L hL=>?_,?_,h.nx,h.clock,h.out⟩
 ·rcases mem_set hG' with h1|h1
  ·exact h.gw _ h1
  ·rw[h1];exact hG
 ·obtain⟨a,b,c,d,e⟩:=h.cs C hC
  obtain⟨f1,f2⟩:=hc C hC;exact⟨a,b,c,fun w hw'=>hw w (f1 w hw') (d w hw'),fun w hw'=>hw w (f2 w hw') (e w hw')⟩
 ·obtain⟨a,b,c,d⟩:=h.ls i L hL
  refine⟨a,fun g' hg'=>by rw[hlen];exact b g' hg',c,fun g' hg'=>?_⟩
  have hne:g'≠(g:Int):=fun e=>hl i L hL (by rw[←e];exact hg')
  have h0:=(b g' (List.mem_of_mem_tail hg')).1
  obtain⟨h2,x,h3,h4⟩:=d g' hg';refine⟨by rw[key _ h0 hne];exact h2,x,?_,h4⟩
  show W.Zi ((W.ye g G).g g'.toNat).fn (((W.ye g G).g g'.toNat).pc-1)=some x
  rw[key _ h0 hne];exact h3
 ·refine⟨h.hp.1,h.hp.2.1,fun x hx=>?_,h.hp.2.2.2⟩
  obtain⟨h1,h2,h3⟩:=h.hp.2.2.1 x hx;exact⟨by rw[hlen];exact h1,by rw[key _ h1.1 (hh x hx)];exact h2,h3⟩
theorem WF.VZ {B:Nat}{W:Wd}(h:WF B W){fn pc:Int}{x:yq}(hx:W.Zi fn pc=some x):Y4 W.fs.length W.Cs.length W.ks.length W.Ls.length (W.fs.getD fn.toNat []).length x∧0≤pc∧pc<((W.fs.getD fn.toNat []).length:Int):=by
 unfold Wd.Zi at hx;split at hx
 ·cases hx
 ·rename_i h0
  have hl:=(List.getElem?_eq_some_iff.1 hx).1
  have hm:=List.mem_of_getElem? hx
  have hf:W.fs.getD fn.toNat []∈W.fs:=by
   rw[List.getD_eq_getElem?_getD] at hm ⊢
   cases e:W.fs[fn.toNat]? with
   | none=>rw[e] at hm;simp at hm
   | some l=>exact List.mem_of_getElem? e
  obtain⟨h1,h2⟩:=h.p.ins _ hf x hm;exact⟨KK h1 h2,by omega,by omega⟩
theorem Y4.Nc {W:Wd}{n:Nat}{x:yq}(h:Y4 W.fs.length W.Cs.length W.ks.length W.Ls.length n x)(hx:x.1=13∨x.1=14∨x.1=16):QN W x:=by
 rcases hx with e|e|e
 ·exact .inl e
 ·exact .inr (.inl e)
 ·exact .inr (.inr ⟨e,(h.o16 e).1⟩)
theorem Y4.VX {W:Wd}{n:Nat}{x:yq}(h:Y4 W.fs.length W.Cs.length W.ks.length W.Ls.length n x)(hx:x.1=13∨x.1=14∨x.1=16)(hk:Ua W.Cs.length W.ks):Ua W.Cs.length (W.yK x):=by
 unfold Wd.yK;rcases hx with e|e|e
 ·rw[if_pos e]
  obtain⟨a,b⟩:=h.o13 e;intro k hk;simp only[List.mem_cons,List.not_mem_nil,or_false] at hk;subst hk
  exact⟨.inr (.inl rfl),a.1,fun _=>a.2,b.1,b.2⟩
 ·rw[if_neg (by omega),if_pos e]
  obtain⟨a,b,-⟩:=h.o14 e;intro k hk;simp only[List.mem_cons,List.not_mem_nil,or_false] at hk;subst hk
  exact⟨.inl rfl,a.1,fun _=>a.2,b.1,b.2⟩
 ·rw[if_neg (by omega),if_neg (by omega)]
  exact fun k hk'=>hk k (List.mem_of_mem_drop (List.mem_of_mem_take hk'))
theorem Y4.MM {W:Wd}{n:Nat}{x:yq}(h:Y4 W.fs.length W.Cs.length W.ks.length W.Ls.length n x)(hx:x.1=13∨x.1=14∨x.1=16):1≤(W.yK x).length∧(W.yK x).length≤W.ks.length+1:=by
 unfold Wd.yK;rcases hx with e|e|e
 ·rw[if_pos e];simp
 ·rw[if_neg (by omega),if_pos e];simp
 ·rw[if_neg (by omega),if_neg (by omega),List.length_take,List.length_drop]
  have:=(h.o16 e).1
  omega
def XK (W:Wd)(w:Wt):Prop:=(0≤w.1∧w.1<(W.gs.length:Int))∧((W.g w.1.toNat).st=2→∃x,W.Zi (W.g w.1.toNat).fn ((W.g w.1.toNat).pc-1)=some x∧(x.1=13∨x.1=14∨x.1=16)∧0≤w.2.1∧w.2.1<((W.yK x).length:Int))
theorem X3.LS {W:Wd}{w:Wt}(h:X3 W w):XK W w:=⟨h.1,fun _=>h.2.2⟩
theorem WF.lim {B:Nat}{W:Wd}(h:WF B W)(hB:B≤90000):RI 100000 W.Cs:=fun C hC=>⟨by have:=(h.cs C hC).1;omega,by have:=(h.cs C hC).2.1;omega,by have:=(h.cs C hC).2.2.1;omega⟩
theorem WF.L6 {B:Nat}{W:Wd}(h:WF B W){n:Nat}{x:yq}(hx:Y4 W.fs.length W.Cs.length W.ks.length W.Ls.length n x)(ho:x.1=13∨x.1=14∨x.1=16)(w:Wt)(hg:0≤w.1∧w.1<(W.gs.length:Int))(hj:0≤w.2.1∧w.2.1<((W.yK x).length:Int)):WC W x w:=by
 have hG:=h.at (j:=w.1.toNat) (by omega)
 refine⟨hx.Nc ho,by have:=h.p.kl;omega,hg,by have:=h.g1.2;omega,hG.n,hj,fun c hc e=>?_,fun e=>?_⟩
 ·have:=hx.VX ho h.p.ck c hc
  exact⟨this.2.2.2.1,this.2.2.2.2⟩
 ·rcases e with e|e
  ·exact(hx.o14 e).2.2
  ·exact(hx.o16 e).2
theorem WF.J2 {B:Nat}{W:Wd}(h:WF B W)(hB:B≤90000){w:Wt}(hw:XK W w):Li W w:=by
 refine⟨hw.1,by have:=h.g1.2;omega,fun hs=>?_,h.lim hB,by have:=h.p.nc;omega⟩
 obtain⟨x,h1,h2,h3⟩:=hw.2 hs;obtain⟨h4,h5,h6⟩:=h.VZ h1;have hG:=h.at (j:=w.1.toNat) (by have:=hw.1;omega)
 have hf:=hG.fr ((W.g w.1.toNat).n-1) (by have:=hG.n;omega)
 refine⟨x,h1,h.L6 h4 h2 w hw.1 h3,hf.1.1,?_⟩
 have h7:=hf.2.1.2;have hm:(W.fs.getD (W.g w.1.toNat).fn.toNat []).length≤900:=by
  rw[List.getD_eq_getElem?_getD]
  cases e:W.fs[(W.g w.1.toNat).fn.toNat]? with
  | none=>simp
  | some l=>exact h.p.fl l (List.mem_of_getElem? e)
 have h8:(W.g w.1.toNat).pc≤((W.fs.getD (W.g w.1.toNat).fn.toNat []).length:Int):=h7
 omega
theorem WF.fin {B:Nat}{W:Wd}(h:WF B W){x:yq}{w:Wt}(ok:WC W x w)(s:Bool):WF B (W.fin x w s):=by
 unfold Wd.fin;have hc:=ok.c ((W.yK x).getD w.2.1.toNat (1,0,0)) (by
  have hj:=ok.j;rw[List.getD_eq_getElem?_getD,List.getElem?_eq_getElem (by omega)]
  exact List.getElem_mem _)
 have h1:WF B (if((W.yK x).getD w.2.1.toNat (1,0,0)).1=0 then W.put w.1.toNat ((W.yK x).getD w.2.1.toNat (1,0,0)).2.2 w.2.2 else W):=by
  split
  ·rename_i e;exact h.put _ _ _ (hc e)
  ·exact h
 simp only
 split
 ·rename_i e;exact h1.put _ _ _ (ok.r (.inr e))
 ·split
  ·rename_i e;exact h1.put _ _ _ (ok.r (.inl e))
  ·exact h1
theorem Ql (W:Wd)(g j:Nat)(k v:Int)(hk:0≤k∧k<8):((W.put g k v).g j).st=(W.g j).st∧((W.put g k v).g j).fn=(W.g j).fn∧((W.put g k v).g j).pc=(W.g j).pc∧((W.put g k v).g j).n=(W.g j).n:=by
 by_cases hg:g<W.gs.length
 ·unfold Wd.put
  rw[Wd.Yn _ _ _ _ hg];split
  ·rename_i e;subst e
   have e:=Gt.L8 (W.g g) k v hk
   exact⟨e.2.2.1,e.1,e.2.1,e.2.2.2⟩
  ·exact⟨rfl,rfl,rfl,rfl⟩
 ·unfold Wd.put;rw[Wq hg];exact⟨rfl,rfl,rfl,rfl⟩
theorem GZ {W:Wd}{x:yq}{w:Wt}(ok:WC W x w)(s:Bool)(j:Nat):((W.fin x w s).g j).st=(W.g j).st∧((W.fin x w s).g j).fn=(W.g j).fn∧((W.fin x w s).g j).pc=(W.g j).pc∧((W.fin x w s).g j).n=(W.g j).n:=by
 unfold Wd.fin;have hc:=ok.c ((W.yK x).getD w.2.1.toNat (1,0,0)) (by
  have hj:=ok.j;rw[List.getD_eq_getElem?_getD,List.getElem?_eq_getElem (by omega)]
  exact List.getElem_mem _)
 have tr:∀{A C D:Gt},(A.st=C.st∧A.fn=C.fn∧A.pc=C.pc∧A.n=C.n)→(C.st=D.st∧C.fn=D.fn∧C.pc=D.pc∧C.n=D.n)→(A.st=D.st∧A.fn=D.fn∧A.pc=D.pc∧A.n=D.n):=fun⟨a,b,c,d⟩ ⟨e,f,g,h⟩=>⟨a.trans e,b.trans f,c.trans g,d.trans h⟩
 have h1:∀j,((if((W.yK x).getD w.2.1.toNat (1,0,0)).1=0 then W.put w.1.toNat ((W.yK x).getD w.2.1.toNat (1,0,0)).2.2 w.2.2 else W).g j).st=(W.g j).st∧((if((W.yK x).getD w.2.1.toNat (1,0,0)).1=0 then W.put w.1.toNat ((W.yK x).getD w.2.1.toNat (1,0,0)).2.2 w.2.2 else W).g j).fn=(W.g j).fn∧((if((W.yK x).getD w.2.1.toNat (1,0,0)).1=0 then W.put w.1.toNat ((W.yK x).getD w.2.1.toNat (1,0,0)).2.2 w.2.2 else W).g j).pc=(W.g j).pc∧((if((W.yK x).getD w.2.1.toNat (1,0,0)).1=0 then W.put w.1.toNat ((W.yK x).getD w.2.1.toNat (1,0,0)).2.2 w.2.2 else W).g j).n=(W.g j).n:=fun j=>by
  split
  ·rename_i e;exact Ql _ _ _ _ _ (hc e)
  ·exact⟨rfl,rfl,rfl,rfl⟩
 simp only
 split
 ·rename_i e;exact tr (Ql _ _ _ _ _ (ok.r (.inr e))) (h1 j)
 ·split
  ·rename_i e;exact tr (Ql _ _ _ _ _ (ok.r (.inl e))) (h1 j)
  ·exact h1 j
theorem UE (W:Wd)(x:yq)(w:Wt)(s:Bool):(W.fin x w s).fs=W.fs∧(W.fin x w s).ks=W.ks∧(W.fin x w s).Cs=W.Cs∧(W.fin x w s).Ls=W.Ls∧(W.fin x w s).hp=W.hp∧(W.fin x w s).gs.length=W.gs.length∧(W.fin x w s).Ns=W.Ns:=by
 unfold Wd.fin Wd.put Wd.ye;simp only
 split<;>split<;>(try split)<;>simp
theorem WF.VB {B:Nat}{W:Wd}(h:WF B W)(hB:B≤90000)(rd:List Int){w:Wt}(hw:XK W w)(s:Bool) :
  WF B (goOnM W rd w s).1∧(goOnM W rd w s).1.gs.length=W.gs.length∧(goOnM W rd w s).1.fs=W.fs∧(goOnM W rd w s).1.ks=W.ks∧(goOnM W rd w s).1.Cs.length=W.Cs.length∧(goOnM W rd w s).1.Ls.length=W.Ls.length ∧
  (∀j:Nat,(j:Int)≠w.1→((goOnM W rd w s).1.g j).st=(W.g j).st∧((goOnM W rd w s).1.g j).fn=(W.g j).fn∧((goOnM W rd w s).1.g j).pc=(W.g j).pc)∧(((goOnM W rd w s).1.g w.1.toNat).st≠2):=by
 unfold goOnM;simp only
 by_cases hs:(W.g w.1.toNat).st=2
 ·rw[if_pos hs]
  have gk:=h.J2 hB hw;obtain⟨x,h1,h2,h3⟩:=hw.2 hs;rw[h1];simp only
  obtain⟨x',h1',ok,-⟩:=gk.ins hs;rw[h1] at h1';cases h1'
  have hf:=h.fin ok s;obtain⟨e1,e2,e3,e4,e5,e6,e7⟩:=UE W x w s;have hst:=GZ ok s;have hl:=hf.leave w.1;have hg:w.1.toNat<W.gs.length:=by have:=hw.1;omega
  have hwn:((w.1.toNat:Nat):Int)=w.1:=by have:=hw.1;omega
  generalize hX:(W.fin x w s).leave w.1=X at *
  have eX:X.gs=(W.fin x w s).gs∧X.fs=W.fs∧X.ks=W.ks∧X.Ls=W.Ls∧X.hp=W.hp∧X.Cs=W.Cs.map (R9 w.1):=by rw[←hX];exact⟨rfl,e1,e2,e4,e5,by show List.map _ _=_;rw[e3]⟩
  have hXg:∀j,X.g j=(W.fin x w s).g j:=fun j=>by unfold Wd.g;rw[eX.1]
  have hXl:X.gs.length=W.gs.length:=by rw[eX.1,e6]
  have hgX:=hl.at (j:=w.1.toNat) (by rw[hXl];exact hg)
  refine⟨?_,by unfold Wd.zU Wd.ye;simp[hXl],eX.2.1,eX.2.2.1,by show X.Cs.length=_;rw[eX.2.2.2.2.2];simp,by show X.Ls.length=_;rw[eX.2.2.2.1],fun j hj=>?_,?_⟩
  ·refine hl.Se w.1.toNat _ ⟨hgX.n,hgX.len,hgX.fr⟩ (fun C hC=>?_) (fun i L hL hm=>?_) (fun y hy e=>?_)
   ·rw[eX.2.2.2.2.2] at hC
    obtain⟨D,-,rfl⟩:=List.mem_map.1 hC;rw[hwn];exact⟨fun w' hw'=>(XE hw').2,fun w' hw'=>(XE hw').2⟩
   ·rw[hwn] at hm
    rw[eX.2.2.2.1] at hL;obtain⟨-,y,hy,hy18,-⟩:=(h.ls i L hL).2.2.2 _ hm
    rw[h1] at hy;cases hy
    omega
   ·rw[eX.2.2.2.2.1] at hy
    rw[hwn] at e;obtain⟨-,h3',-⟩:=h.hp.2.2.1 y hy;rw[e,hs] at h3'
    omega
  ·unfold Wd.zU
   rw[Wd.Yn _ _ _ _ (by rw[hXl];exact hg),if_neg (by omega),hXg]
   exact⟨(hst j).1,(hst j).2.1,(hst j).2.2.1⟩
  ·unfold Wd.zU
   rw[Wd.Yn _ _ _ _ (by rw[hXl];exact hg),if_pos rfl]
   simp
 ·rw[if_neg hs]
  exact⟨h,rfl,rfl,rfl,rfl,rfl,fun _ _=>⟨rfl,rfl,rfl⟩,hs⟩
structure YL (W V:Wd):Prop where
 fs:V.fs=W.fs
 ks:V.ks=W.ks
 Ns:V.Ns=W.Ns
 cl:V.Cs.length=W.Cs.length
 ll:V.Ls.length=W.Ls.length
 gl:W.gs.length≤V.gs.length
theorem YL.refl (W:Wd):YL W W:=⟨rfl,rfl,rfl,rfl,rfl,Nat.le_refl _⟩
theorem YL.trans {A B C:Wd}(h:YL A B)(k:YL B C):YL A C:=⟨k.fs.trans h.fs,k.ks.trans h.ks,k.Ns.trans h.Ns,k.cl.trans h.cl,k.ll.trans h.ll,Nat.le_trans h.gl k.gl⟩
theorem Us {W V:Wd}(h:V.ks=W.ks)(x:yq):V.yK x=W.yK x:=by unfold Wd.yK;rw[h]
theorem Kb {W V:Wd}(h:V.fs=W.fs)(fn pc:Int):V.Zi fn pc=W.Zi fn pc:=by unfold Wd.Zi;rw[h]
abbrev Yf (W:Wd) (n:Nat) (x:yq):Prop:=Y4 W.fs.length W.Cs.length W.ks.length W.Ls.length n x
theorem Y4.Ey {W V:Wd}{n:Nat}{x:yq}(h:Yf W n x)(f:YL W V):Yf V n x:=by
 unfold Yf;rw[f.fs,f.cl,f.ks,f.ll];exact h
theorem Ut {B:Nat}{W:Wd}(h:WF B W)(hB:B≤90000)(rd:List Int){w:Wt}(hw:XK W w)(s:Bool):YL W (goOnM W rd w s).1:=by
 obtain⟨-,h1,h2,h3,h4,h5,-⟩:=h.VB hB rd hw s;refine⟨h2,h3,?_,h4,h5,by omega⟩
 unfold goOnM;simp only
 split
 ·split
  ·rename_i x hx
   obtain⟨-,-,-,-,-,-,e⟩:=UE W x w s;exact e
  ·rfl
 ·rfl
theorem ZX (W:Wd)(i:Int)(C:Ch):YL W (W.zW i C):=⟨rfl,rfl,rfl,by unfold Wd.zW;simp,rfl,Nat.le_refl _⟩
theorem PV (W:Wd)(x:yq)(w:Wt)(s:Bool):YL W (W.fin x w s):=by
 obtain⟨a,b,c,d,e,f,g⟩:=UE W x w s;exact⟨a,b,g,by rw[c],by rw[d],by omega⟩
theorem Z4 (W:Wd)(g:Nat)(G:Gt):YL W (W.ye g G):=⟨rfl,rfl,rfl,rfl,rfl,by unfold Wd.ye;simp⟩
theorem TY (W:Wd)(g:Nat)(k v:Int):YL W (W.put g k v):=Z4 _ _ _
theorem Vh {W:Wd}{i:Int}(h:0≤i∧i<(W.Cs.length:Int)):W.ch i∈W.Cs:=by
 have e:i=((i.toNat:Nat):Int):=by omega
 rw[e];exact List.mem_of_getElem? (Wd.U9 (by omega))
theorem RQ {B:Nat}{W:Wd}{C:Ch}(h:Xp B W C)(N:Nat)(hN:N≤16)(v:Int):Xp B W (mSend N C v).1∧((mSend N C v).2.2.1=true→X3 W (mSend N C v).2.1):=by
 obtain⟨h1,h2,h3,h4,h5⟩:=h;unfold mSend;split
 ·exact⟨⟨h1,h2,h3,h4,h5⟩,fun e=>by cases e⟩
 ·split
  ·rename_i x t e
   rw[e] at h3 h5;refine⟨⟨h1,h2,by simp at h3;show t.length≤B;omega,h4,fun w hw=>h5 w (by simp[hw])⟩,fun _=>h5 x (by simp)⟩
  ·rename_i e
   split
   ·exact⟨⟨by simp;omega,h2,by rw[e];simp,h4,fun w hw=>by simp only[e] at hw;cases hw⟩,fun e=>by cases e⟩
   ·exact⟨⟨h1,h2,h3,h4,h5⟩,fun e=>by cases e⟩
theorem SX {B:Nat}{W:Wd}{C:Ch}(h:Xp B W C):Xp B W (mRecv C).1∧((mRecv C).2.1.2.2.2=true→X3 W (mRecv C).2.1.2.2.1):=by
 obtain⟨h1,h2,h3,h4,h5⟩:=h;unfold mRecv;split
 ·rename_i x t e
  rw[e] at h2 h4;have ht:t.length≤B:=by simp at h2;omega
  have ht2:∀w∈t,X3 W w:=fun w hw=>h4 w (by simp[hw])
  split
  ·rename_i y b e2
   refine⟨⟨?_,ht,h3,ht2,h5⟩,fun _=>h4 x (by simp)⟩
   have:=congrArg List.length e2
   simp at this;show b.length≤16;omega
  ·exact⟨⟨by simp,ht,h3,ht2,h5⟩,fun _=>h4 x (by simp)⟩
 ·split
  ·rename_i y b e2
   refine⟨⟨?_,by simp,h3,fun w hw=>by simp at hw,h5⟩,fun e=>by cases e⟩
   rw[e2] at h1;simp at h1;show b.length≤16;omega
  ·exact⟨⟨h1,h2,h3,h4,h5⟩,fun e=>by cases e⟩
theorem Hs {B:Nat}{W:Wd}(h:WF B W)(i:Nat):W.Ns.getD i 0≤16:=by
 rw[List.getD_eq_getElem?_getD]
 cases e:W.Ns[i]? with
 | none=>simp
 | some N=>exact h.ns.2 N (List.mem_of_getElem? e)
def Y7 (B:Nat)(W:Wd)(d:Dd):Prop:=WF B d.W∧YL W d.W
theorem WF.send {B:Nat}{W:Wd}(h:WF B W)(hB:B≤90000)(rd:List Int){g:Nat}(hg:g<W.gs.length){n:Nat}{x:yq}(hx:Yf W n x)(ho:x.1=13∨x.1=14∨x.1=16){c:Zm}(hc:c∈W.yK x)(h1:c.1=1){place:Int}(hp:0≤place∧place<((W.yK x).length:Int)) :
  Pn W rd g x c place∧∀d,Yy W rd g x c place=some d→Y7 B W d:=by
 have hk:=hx.VX ho h.p.ck c hc;have c0:0≤c.2.1∧c.2.1<(W.Cs.length:Int):=⟨hk.2.1,hk.2.2.1 (by omega)⟩
 have hC:=h.cs _ (Vh c0)
 have hr:=RQ hC (W.Ns.getD c.2.1.toNat 0) (Hs h _) ((W.g g).rg c.2.2)
 have hW1:=h.zW c.2.1 hr.1;have hY:∀rd',WF B (if(mSend (W.Ns.getD c.2.1.toNat 0) (W.ch c.2.1) ((W.g g).rg c.2.2)).2.2.1 then goOnM (W.zW c.2.1 (mSend (W.Ns.getD c.2.1.toNat 0) (W.ch c.2.1) ((W.g g).rg c.2.2)).1) rd' (mSend (W.Ns.getD c.2.1.toNat 0) (W.ch c.2.1) ((W.g g).rg c.2.2)).2.1 true else(W.zW c.2.1 (mSend (W.Ns.getD c.2.1.toNat 0) (W.ch c.2.1) ((W.g g).rg c.2.2)).1,rd')).1 ∧
   YL W (if(mSend (W.Ns.getD c.2.1.toNat 0) (W.ch c.2.1) ((W.g g).rg c.2.2)).2.2.1 then goOnM (W.zW c.2.1 (mSend (W.Ns.getD c.2.1.toNat 0) (W.ch c.2.1) ((W.g g).rg c.2.2)).1) rd' (mSend (W.Ns.getD c.2.1.toNat 0) (W.ch c.2.1) ((W.g g).rg c.2.2)).2.1 true else(W.zW c.2.1 (mSend (W.Ns.getD c.2.1.toNat 0) (W.ch c.2.1) ((W.g g).rg c.2.2)).1,rd')).1:=fun rd'=>by
  split
  ·rename_i e
   have hw:XK (W.zW c.2.1 (mSend (W.Ns.getD c.2.1.toNat 0) (W.ch c.2.1) ((W.g g).rg c.2.2)).1) (mSend (W.Ns.getD c.2.1.toNat 0) (W.ch c.2.1) ((W.g g).rg c.2.2)).2.1:=(hr.2 e).LS
   exact⟨(hW1.VB hB rd' hw true).1,(ZX W _ _).trans (Ut hW1 hB rd' hw true)⟩
  ·exact⟨hW1,ZX W _ _⟩
 have hF:∀rd' w,w.1=(g:Int)→w.2.1=place→WC (if(mSend (W.Ns.getD c.2.1.toNat 0) (W.ch c.2.1) ((W.g g).rg c.2.2)).2.2.1 then goOnM (W.zW c.2.1 (mSend (W.Ns.getD c.2.1.toNat 0) (W.ch c.2.1) ((W.g g).rg c.2.2)).1) rd' (mSend (W.Ns.getD c.2.1.toNat 0) (W.ch c.2.1) ((W.g g).rg c.2.2)).2.1 true else(W.zW c.2.1 (mSend (W.Ns.getD c.2.1.toNat 0) (W.ch c.2.1) ((W.g g).rg c.2.2)).1,rd')).1 x w:=fun rd' w e1 e2=>by
  obtain⟨y1,y2⟩:=hY rd';exact y1.L6 (hx.Ey y2) ho w (by rw[e1];have:=y2.gl;omega) (by rw[Us y2.ks,e2];exact hp)
 refine⟨⟨c0,by have:=h.p.nc;omega,⟨hk.2.2.2.1,hk.2.2.2.2⟩,h.lim hB,fun e=>hW1.J2 hB (hr.2 e).LS,fun _=>hF rd _ rfl rfl⟩,fun d hd=>?_⟩
 unfold Yy at hd;simp only at hd
 split at hd
 ·cases hd;exact⟨h,YL.refl _⟩
 ·split at hd
  ·cases hd
   obtain⟨y1,y2⟩:=hY rd;exact⟨y1.fin (hF rd _ rfl rfl) false,y2.trans (PV _ _ _ _)⟩
  ·cases hd
theorem WF.recv {B:Nat}{W:Wd}(h:WF B W)(hB:B≤90000)(rd:List Int){g:Nat}(hg:g<W.gs.length){n:Nat}{x:yq}(hx:Yf W n x)(ho:x.1=13∨x.1=14∨x.1=16){c:Zm}(hc:c∈W.yK x)(h1:c.1≠2){place:Int}(hp:0≤place∧place<((W.yK x).length:Int)) :
  PC W rd g x c place∧∀d,YA W rd g x c place=some d→Y7 B W d:=by
 have hk:=hx.VX ho h.p.ck c hc;have c0:0≤c.2.1∧c.2.1<(W.Cs.length:Int):=⟨hk.2.1,hk.2.2.1 h1⟩
 have hC:=h.cs _ (Vh c0)
 have hr:=SX hC;have hW1:=h.zW c.2.1 hr.1;have hY:∀rd',WF B (if(mRecv (W.ch c.2.1)).2.1.2.2.2 then goOnM (W.zW c.2.1 (mRecv (W.ch c.2.1)).1) rd' (mRecv (W.ch c.2.1)).2.1.2.2.1 false else(W.zW c.2.1 (mRecv (W.ch c.2.1)).1,rd')).1∧YL W (if(mRecv (W.ch c.2.1)).2.1.2.2.2 then goOnM (W.zW c.2.1 (mRecv (W.ch c.2.1)).1) rd' (mRecv (W.ch c.2.1)).2.1.2.2.1 false else(W.zW c.2.1 (mRecv (W.ch c.2.1)).1,rd')).1:=fun rd'=>by
  split
  ·rename_i e
   have hw:XK (W.zW c.2.1 (mRecv (W.ch c.2.1)).1) (mRecv (W.ch c.2.1)).2.1.2.2.1:=(hr.2 e).LS
   exact⟨(hW1.VB hB rd' hw false).1,(ZX W _ _).trans (Ut hW1 hB rd' hw false)⟩
  ·exact⟨hW1,ZX W _ _⟩
 have hF:∀rd' w,w.1=(g:Int)→w.2.1=place→WC (if(mRecv (W.ch c.2.1)).2.1.2.2.2 then goOnM (W.zW c.2.1 (mRecv (W.ch c.2.1)).1) rd' (mRecv (W.ch c.2.1)).2.1.2.2.1 false else(W.zW c.2.1 (mRecv (W.ch c.2.1)).1,rd')).1 x w:=fun rd' w e1 e2=>by
  obtain⟨y1,y2⟩:=hY rd';exact y1.L6 (hx.Ey y2) ho w (by rw[e1];have:=y2.gl;omega) (by rw[Us y2.ks,e2];exact hp)
 refine⟨⟨c0,by have:=h.p.nc;omega,h.lim hB,fun e=>hW1.J2 hB (hr.2 e).LS,fun _=>hF rd _ rfl rfl⟩,fun d hd=>?_⟩
 unfold YA at hd;simp only at hd
 split at hd
 ·cases hd
  obtain⟨y1,y2⟩:=hY rd;exact⟨y1.fin (hF rd _ rfl rfl) _,y2.trans (PV _ _ _ _)⟩
 ·cases hd
theorem PZ {W:Wd}{x:yq}{place:Int}(hp:0≤place∧place<((W.yK x).length:Int)):(W.yK x).getD place.toNat (1,0,0)∈W.yK x:=by
 rw[List.getD_eq_getElem?_getD,List.getElem?_eq_getElem (by omega)]
 exact List.getElem_mem _
theorem WF.Fu {B:Nat}{W:Wd}(h:WF B W)(hB:B≤90000)(rd:List Int){g:Nat}(hg:g<W.gs.length){n:Nat}{x:yq}(hx:Yf W n x)(ho:x.1=13∨x.1=14∨x.1=16){place:Int}(hp:0≤place∧place<((W.yK x).length:Int))(h2:((W.yK x).getD place.toNat (1,0,0)).1≠2) :
  To W rd g x place∧∀d,YR W rd g x place=some d→Y7 B W d:=by
 have hc:=PZ hp;refine⟨⟨hx.Nc ho,by have:=h.p.kl;omega,hp,fun e=>(h.send hB rd hg hx ho hc e hp).1,fun e=>(h.recv hB rd hg hx ho hc h2 hp).1⟩,fun d hd=>?_⟩
 unfold YR at hd;simp only at hd
 split at hd
 ·rename_i e;exact(h.send hB rd hg hx ho hc e hp).2 d hd
 ·exact(h.recv hB rd hg hx ho hc h2 hp).2 d hd
theorem Fz {B:Nat}{W:Wd}{g:Int}(yU:List Int)(i:Nat)(k:Zm)(Cs:List Ch)(h:∀C∈Cs,Xp B W C)(hw:∀v,X3 W (g,(i:Int),v)):∀C∈waF g yU i k Cs,Xp (B+1) W C:=by
 unfold waF;split
 ·rename_i C hC
  obtain⟨h1,h2,h3,h4,h5⟩:=h C (List.mem_of_getElem? hC)
  split
  ·intro D hD
   rcases mem_set hD with e|e
   ·exact(h D e).mono (by omega)
   ·rw[e]
    refine⟨h1,Nat.le_trans h2 (by omega),by simp;omega,h4,fun w hw'=>?_⟩
    simp only[List.mem_append,List.mem_cons,List.not_mem_nil,or_false] at hw'
    rcases hw' with e1|e1
    ·exact h5 w e1
    ·rw[e1];exact hw _
  ·split
   ·intro D hD
    rcases mem_set hD with e|e
    ·exact(h D e).mono (by omega)
    ·rw[e]
     refine⟨h1,by simp;omega,Nat.le_trans h3 (by omega),fun w hw'=>?_,h5⟩
     simp only[List.mem_append,List.mem_cons,List.not_mem_nil,or_false] at hw'
     rcases hw' with e1|e1
     ·exact h4 w e1
     ·rw[e1];exact hw _
   ·exact fun D hD=>(h D hD).mono (by omega)
 ·exact fun D hD=>(h D hD).mono (by omega)
theorem P7 {W:Wd}{g:Int}(yU:List Int):∀(ks:List Zm) (i B:Nat) (Cs:List Ch),(∀C∈Cs,Xp B W C)→(∀j v,i≤j→j<i+ks.length→X3 W (g,(j:Int),v))→∀C∈wasF g yU i ks Cs,Xp (B+ks.length) W C
 | [],i,B,Cs,h,_=>by unfold wasF;exact h
 | k::t,i,B,Cs,h,hw=>by
  unfold wasF;have h1:=Fz yU i k Cs h (fun v=>hw i v (Nat.le_refl _) (by simp))
  have h2:=P7 yU t (i+1) (B+1) _ h1 (fun j v a b=>hw j v (by omega) (by simp;omega))
  rw[List.length_cons,show B+(t.length+1)=B+1+t.length by omega]
  exact h2
structure At (W:Wd) (g:Nat) (x:yq):Prop where
 lt:g<W.gs.length
 st:(W.g g).st=1
 ins:W.Zi (W.g g).fn ((W.g g).pc-1)=some x
theorem WF.zU {B:Nat}{W:Wd}(h:WF B W){g:Nat}(hg:g<W.gs.length)(hs:(W.g g).st=1)(s:Int):WF B (W.zU g s) :=
 h.ye (by rw[hs];decide) ⟨(h.at hg).n,(h.at hg).len,(h.at hg).fr⟩
theorem WF.wait {B:Nat}{W:Wd}(h:WF B W){g:Nat}{n:Nat}{x:yq}(ha:At W g x)(hx:Yf W n x)(ho:x.1=13∨x.1=14∨x.1=16):WF (B+W.ks.length+1) (Wr W g x)∧YL W (Wr W g x):=by
 have h1:=h.zU ha.lt ha.st 2;have hg2:(W.zU g 2).g g={ W.g g with st:=2 }:=by unfold Wd.zU;rw[Wd.Yn _ _ _ _ ha.lt,if_pos rfl]
 have hl:(W.zU g 2).gs.length=W.gs.length:=by unfold Wd.zU Wd.ye;simp
 have hcl:=hx.MM ho;have hw:∀j v,0≤j→j<0+(W.yK x).length→X3 (W.zU g 2) ((g:Int),(j:Int),v):=fun j v _ hj=>by
  refine⟨⟨by simp,by rw[hl];have:=ha.lt;simp;omega⟩,by simp only[Int.toNat_natCast];rw[hg2],x,?_,ho,by simp,by show(j:Int)<((W.yK x).length:Int);omega⟩
  simp only[Int.toNat_natCast];rw[hg2];exact ha.ins
 have h2:=P7 (W:=W.zU g 2) (g:=(g:Int)) (W.g g).yU (W.yK x) 0 B W.Cs h1.cs hw
 have h3:=(h1.mono (C:=B+(W.yK x).length) (by omega)).L0 (wasF (g:Int) (W.g g).yU 0 (W.yK x) W.Cs) (Xw _ _ _ _ _) h2
 exact⟨h3.mono (by omega),⟨rfl,rfl,rfl,Xw _ _ _ _ _,rfl,by show W.gs.length≤(W.gs.set g _).length;simp⟩⟩
theorem WF.M5 {B:Nat}{W:Wd}(h:WF B W)(hB:B≤80000){n:Nat}{x:yq}(hx:Yf W n x)(ho:x.1=13∨x.1=14∨x.1=16):WS W x :=
 ⟨hx.Nc ho,by have:=h.p.kl;omega,hx.VX ho h.p.ck,⟨B+16,fun C hC=>⟨by have:=(h.cs C hC).1;omega,by have:=(h.cs C hC).2.1;omega,by have:=(h.cs C hC).2.2.1;omega⟩,by omega⟩,by have:=h.p.nc;omega⟩
theorem WF.chan {B:Nat}{W:Wd}(h:WF B W)(hB:B≤80000)(rd:List Int){g:Nat}{n:Nat}{x:yq}(ha:At W g x)(hx:Yf W n x)(ho:x.1=13∨x.1=14):(To W rd g x 0∧WS W x)∧Y7 (B+W.ks.length+1) W (Yk W rd g x):=by
 have ho':x.1=13∨x.1=14∨x.1=16:=by omega
 have hcl:=hx.MM ho';have h2:((W.yK x).getD (0:Int).toNat (1,0,0)).1≠2:=by
  unfold Wd.yK;rcases ho with e|e
  ·rw[if_pos e];show(1:Int)≠2;decide
  ·rw[if_neg (by omega),if_pos e];show(0:Int)≠2;decide
 have ht:=h.Fu (by omega) rd ha.lt hx ho' (place:=0) (by omega) h2
 refine⟨⟨ht.1,h.M5 hB hx ho'⟩,?_⟩
 unfold Yk;cases e:YR W rd g x 0 with
 | none=>exact h.wait ha hx ho'
 | some d=>exact⟨(ht.2 d e).1.mono (by omega),(ht.2 d e).2⟩
theorem TQ (f:Zm→Bool):∀(l:List Zm) (i:Nat) (v:Int),v∈enF f i l→∃j,∃h:j<l.length,v=((i+j:Nat):Int)∧f l[j]=true
 | [],i,v,h=>by simp[enF] at h
 | k::t,i,v,h=>by
  unfold enF at h;split at h
  ·rename_i e
   simp only[List.mem_cons] at h;rcases h with rfl|h
   ·exact⟨0,by simp,by simp,by simpa using e⟩
   ·obtain⟨j,hj,e1,e2⟩:=TQ f t (i+1) v h
    exact⟨j+1,by simpa using hj,by rw[e1];omega,by simpa using e2⟩
  ·obtain⟨j,hj,e1,e2⟩:=TQ f t (i+1) v h
   exact⟨j+1,by simpa using hj,by rw[e1];omega,by simpa using e2⟩
theorem Qt {Ns:List Nat}{Cs:List Ch}{k:Zm}(h:goesN Ns Cs k=true):k.1≠2:=by
 unfold goesN at h;split at h
 ·split at h
  ·omega
  ·split at h
   ·omega
   ·cases h
 ·cases h
theorem VP {W:Wd}{x:yq}{d:Int}(hx:x.1=16)(h:(xP W x d).2=true):(0≤(xP W x d).1∧(xP W x d).1<((W.yK x).length:Int))∧((W.yK x).getD (xP W x d).1.toNat (1,0,0)).1≠2:=by
 unfold xP at h ⊢
 rw[if_neg (by omega),if_pos hx] at h ⊢
 split at h
 ·cases h
 ·rename_i h0
  rw[if_neg h0];simp only
  obtain⟨b,hb⟩:∃b,b=ZC ((enF (goesN W.Ns W.Cs) 0 (W.yK x)).length:Int) d:=⟨_,rfl⟩
  have hb2:0≤b∧b<((enF (goesN W.Ns W.Cs) 0 (W.yK x)).length:Int):=by
   rw[hb];unfold ZC;split<;>split<;>omega
  rw[←hb];have hm:(enF (goesN W.Ns W.Cs) 0 (W.yK x)).getD b.toNat 0∈enF (goesN W.Ns W.Cs) 0 (W.yK x):=by
   rw[List.getD_eq_getElem?_getD,List.getElem?_eq_getElem (by omega)]
   exact List.getElem_mem _
  obtain⟨j,hj,e1,e2⟩:=TQ _ _ _ _ hm;rw[e1];refine⟨by omega,?_⟩
  rw[Nat.zero_add,Int.toNat_natCast,List.getD_eq_getElem?_getD,List.getElem?_eq_getElem hj]
  exact Qt e2
theorem WF.choose {B:Nat}{W:Wd}(h:WF B W)(hB:B≤80000){g:Nat}{n:Nat}{x:yq}(ha:At W g x)(hx:Yf W n x)(ho:x.1=16){dr:Int}{go:Bool}(hd:go=true→(0≤dr∧dr<((W.yK x).length:Int))∧((W.yK x).getD dr.toNat (1,0,0)).1≠2) :
  V8 W g x dr go∧Y7 (B+W.ks.length+1) W (Zu W [] g x dr go):=by
 have ho':x.1=13∨x.1=14∨x.1=16:=by omega
 refine⟨⟨hx.Nc ho',by have:=h.p.kl;omega,fun e=>(h.Fu (by omega) [] ha.lt hx ho' (hd e).1 (hd e).2).1,fun _=>h.M5 hB hx ho',(hx.o16 ho).2⟩,?_⟩
 unfold Zu;split
 ·rename_i e
  have ht:=h.Fu (by omega) [] ha.lt hx ho' (hd e).1 (hd e).2
  cases e2:YR W [] g x dr with
  | none=>exact⟨h.mono (by omega),YL.refl _⟩
  | some d=>exact⟨(ht.2 d e2).1.mono (by omega),(ht.2 d e2).2⟩
 ·split
  ·exact h.wait ha hx ho'
  ·exact⟨(h.put g x.2.2.2 (UL 0 (W.yK x)) (hx.o16 ho).2).mono (by omega),TY _ _ _ _⟩
theorem XK.VB {B:Nat}{W:Wd}(h:WF B W)(hB:B≤90000)(rd:List Int){w:Wt}(hw:XK W w)(s:Bool){v:Wt}(hv:XK W v):XK (goOnM W rd w s).1 v:=by
 obtain⟨h1,h2,h3,h4,h5,h6,h7,h8⟩:=h.VB hB rd hw s;refine⟨by rw[h2];exact hv.1,fun hs=>?_⟩
 by_cases e:v.1=w.1
 ·rw[e] at hs;exact absurd hs h8
 ·obtain⟨a,b,c⟩:=h7 v.1.toNat (by have:=hv.1;omega)
  rw[a] at hs;obtain⟨x,k1,k2,k3⟩:=hv.2 hs;exact⟨x,by rw[b,c,Kb h3];exact k1,k2,by rw[Us h4];exact k3⟩
theorem WF.U2 {B:Nat}:∀(l:List Wt) (W:Wd),WF B W→B≤90000→∀(rd:List Int),(∀w∈l,XK W w)→WF B (goOnsM W rd l).1∧YL W (goOnsM W rd l).1∧∀v,XK W v→XK (goOnsM W rd l).1 v
 | [],W,h,_,rd,_=>⟨h,YL.refl _,fun _ hv=>hv⟩
 | r::t,W,h,hB,rd,hw=>by
  have hr:=hw r (by simp)
  have h1:=(h.VB hB rd hr false).1
  have hf:=Ut h hB rd hr false;obtain⟨a,b,c⟩:=WF.U2 t (goOnM W rd r false).1 h1 hB (goOnM W rd r false).2 (fun v hv=>XK.VB h hB rd hr false (hw v (by simp[hv])))
  exact⟨a,hf.trans b,fun v hv=>c v (XK.VB h hB rd hr false hv)⟩
theorem WF.close {B:Nat}{W:Wd}(h:WF B W)(hB:B≤90000){n:Nat}{x:yq}(hx:Yf W n x)(ho:x.1=15)(rd:List Int):TN W x∧Y7 B W (ZN W rd x):=by
 have c0:=hx.o15 ho;have hC:=h.cs _ (Vh c0)
 have hW1:=h.zW x.2.1 (C:=⟨(W.ch x.2.1).buf,[],[],true⟩) ⟨hC.1,by simp,by simp,fun w hw=>by simp at hw,fun w hw=>by simp at hw⟩
 have hR:∀w∈(W.ch x.2.1).R,XK (W.zW x.2.1 ⟨(W.ch x.2.1).buf,[],[],true⟩) w:=fun w hw=>(hC.2.2.2.2 w hw).LS
 refine⟨⟨c0,by have:=h.p.nc;omega,by have:=hC.2.2.1;omega,fun _ _ i hi=>?_⟩,?_⟩
 ·obtain⟨a,b,c⟩:=WF.U2 ((W.ch x.2.1).R.take i) _ hW1 hB [] (fun w hw=>hR w (List.mem_of_mem_take hw))
  exact a.J2 hB (c _ (hR _ (List.getElem_mem _)))
 ·unfold ZN
  simp only
  split
  ·exact⟨h,YL.refl _⟩
  ·split
   ·obtain⟨a,b,c⟩:=WF.U2 (W.ch x.2.1).R _ hW1 hB rd hR
    exact⟨a,(ZX W _ _).trans b⟩
   ·exact⟨hW1,ZX W _ _⟩
theorem WX {l m:List Int}{i:Nat}(h:i<l.length):(l++m).getD i 0=l.getD i 0:=by
 rw[List.getD_eq_getElem?_getD,List.getElem?_append_left h,←List.getD_eq_getElem?_getD]
theorem Vf {l m:List Int}{i:Nat}(h:l.length≤i):(l++m).getD i 0=m.getD (i-l.length) 0:=by
 rw[List.getD_eq_getElem?_getD,List.getElem?_append_right h,←List.getD_eq_getElem?_getD]
theorem Vg {l:List Int}{n i:Nat}(h:i<n):(l.take n).getD i 0=l.getD i 0:=by
 rw[List.getD_eq_getElem?_getD,List.getElem?_take,if_pos h,←List.getD_eq_getElem?_getD]
theorem GW.new {fs:List (List yq)}{f a c:Int}(st:Int)(hf:0≤f∧f<(fs.length:Int))(hc:0≤c∧c<8):GW fs ⟨st,1,ZF f a c⟩:=by
 refine⟨⟨Nat.le_refl _,by show 1≤16;omega⟩,rfl,fun i hi=>?_⟩
 obtain rfl:i=0:=by simp at hi;exact hi
 exact⟨hf,⟨by show(0:Int)≤0;omega,by show(0:Int)≤_;omega⟩,hc⟩
theorem GW.call {fs:List (List yq)}{G:Gt}(h:GW fs G)(hn:G.n<16){f a c:Int}(hf:0≤f∧f<(fs.length:Int))(hc:0≤c∧c<8):GW fs { G with n:=G.n+1,z:=G.z++ZF f a c }:=by
 refine⟨⟨by simp,by simp;omega⟩,by simp[h.len,ZF];omega,fun i hi=>?_⟩
 simp only at hi ⊢
 have hl:=h.len;by_cases e:i<G.n
 ·rw[WX (by omega),WX (by omega),WX (by omega)]
  exact h.fr i e
 ·obtain rfl:i=G.n:=by omega
  rw[Vf (by omega),Vf (by omega),Vf (by omega),hl,Nat.sub_self,Nat.add_sub_cancel_left,Nat.add_sub_cancel_left]
  exact⟨hf,⟨by show(0:Int)≤0;omega,by show(0:Int)≤_;omega⟩,hc⟩
theorem GW.ret {fs:List (List yq)}{G:Gt}(h:GW fs G)(hn:1<G.n)(v:Int):GW fs { G with n:=G.n-1,z:=(G.z.take ((G.n-1)*11)).set ((G.n-2)*11+2+(G.z.getD (G.o+10) 0).toNat) v }:=by
 have hl:=h.len;have h16:=h.n;have ht:GW fs { G with n:=G.n-1,z:=G.z.take ((G.n-1)*11) }:=by
  refine⟨⟨by simp only;omega,by simp only;omega⟩,by simp only[List.length_take];omega,fun i hi=>?_⟩
  simp only at hi ⊢
  rw[Vg (by omega),Vg (by omega),Vg (by omega)]
  exact h.fr i (by omega)
 have hf:=(h.fr (G.n-1) (by omega)).2.2
 exact ht.ES (G.n-2) (G.z.getD (G.o+10) 0).toNat (by show(G.z.getD ((G.n-1)*11+10) 0).toNat<8;omega) v
theorem GW.place {fs:List (List yq)}{G:Gt}(h:GW fs G)(v:Int)(hv:0≤v∧v≤((fs.getD G.fn.toNat []).length:Int)):GW fs { G with z:=G.z.set (G.o+1) v }:=by
 refine⟨h.n,by simpa using h.len,fun i hi=>?_⟩
 simp only at hi ⊢
 have hl:=h.len;unfold Gt.fn Gt.o at *;rw[getD_set_ne (i:=(G.n-1)*11+1) (j:=i*11) (by omega),getD_set_ne (i:=(G.n-1)*11+1) (j:=i*11+10) (by omega)]
 obtain⟨a,b,c⟩:=h.fr i hi;refine⟨a,?_,c⟩
 by_cases e:i=G.n-1
 ·subst e
  rw[Vs (by omega)]
  exact hv
 ·rw[getD_set_ne (by omega)]
  exact b
theorem WF.yr {B:Nat}{W:Wd}(h:WF B W)(Ls':List (List Int))(hl:Ls'.length=W.Ls.length)(hc:∀(i:Nat) (L:List Int),Ls'[i]?=some L→MF B W i L):WF B { W with Ls:=Ls' }:=by
 refine⟨?_,h.ns,h.g1,h.gw,h.cs,hc,h.hp,h.nx,h.clock,h.out⟩
 show PW W.fs W.ks W.Cs.length Ls'.length
 rw[hl];exact h.p
theorem MF.mono {B C:Nat}{W:Wd}{i:Nat}{L:List Int}(h:MF B W i L)(hb:B≤C):MF C W i L:=⟨Nat.le_trans h.1 hb,h.2⟩
theorem xt {W:Wd}{g:Nat}(hg:g<W.gs.length)(s:Int)(j:Nat):(W.zU g s).g j=if g=j then{ W.g g with st:=s } else W.g j:=by unfold Wd.zU;exact Wd.Yn _ _ _ _ hg
theorem xC (W:Wd)(g:Nat)(s:Int):(W.zU g s).gs.length=W.gs.length:=by unfold Wd.zU Wd.ye;simp
theorem Sk {W:Wd}{i:Int}(h:0≤i∧i<(W.Ls.length:Int)):W.Ls[i.toNat]?=some (W.lk i):=by
 have e:i=((i.toNat:Nat):Int):=by omega
 have:=Wd.SI (W:=W) (i:=i.toNat) (by omega)
 rw[←e] at this;exact this
theorem WF.lock {B:Nat}{W:Wd}(h:WF B W)(rd:List Int){g:Nat}{n:Nat}{x:yq}(ha:At W g x)(hx:Yf W n x)(ho:x.1=18):Y7 (B+1) W (Xc W rd g x):=by
 have hi:=hx.o18 (.inl ho)
 have hL:=h.ls _ _ (Sk hi)
 have hset:∀(V:Wd),V.Ls=W.Ls→∀(i:Nat) (L:List Int),(W.Ls.set x.2.1.toNat (W.lk x.2.1++[(g:Int)]))[i]?=some L→(i=x.2.1.toNat∧L=W.lk x.2.1++[(g:Int)])∨W.Ls[i]?=some L:=fun V _ i L hh=>by
  by_cases e:i=x.2.1.toNat
  ·subst e
   rw[List.getElem?_set_self (by omega)] at hh
   exact .inl ⟨rfl,by simpa using hh.symm⟩
  ·rw[List.getElem?_set_ne (by omega)] at hh;exact .inr hh
 unfold Xc;simp only
 by_cases e0:W.lk x.2.1=[]
 ·rw[if_pos e0]
  refine⟨(h.mono (C:=B+1) (by omega)).yr _ (by simp) (fun i L hh=>?_),⟨rfl,rfl,rfl,rfl,by simp,Nat.le_refl _⟩⟩
  rcases hset W rfl i L hh with⟨rfl,rfl⟩|hh
  ·rw[e0]
   refine⟨by simp,fun j hj=>?_,by simp,fun j hj=>by simp at hj⟩
   simp at hj;subst hj;exact⟨by omega,by have:=ha.lt;omega⟩
  ·exact(h.ls i L hh).mono (by omega)
 ·rw[if_neg e0]
  have h1:=h.zU ha.lt ha.st 2;have hne:∀j:Int,(W.g j.toNat).st=2→j.toNat≠g:=fun j hj e=>by rw[e,ha.st] at hj;omega
  have hk:∀(i:Nat) (j:Int),N1 W i j→N1 (W.zU g 2) i j:=fun i j ⟨a,y,b,c⟩=>by
   have e:=xt ha.lt 2 j.toNat;rw[if_neg (fun e=>hne j a e.symm)] at e
   refine⟨by rw[e];exact a,y,?_,c⟩
   show W.Zi ((W.zU g 2).g j.toNat).fn (((W.zU g 2).g j.toNat).pc-1)=some y
   rw[e];exact b
  refine⟨(h1.mono (C:=B+1) (by omega)).yr _ (by simp[Wd.zU,Wd.ye]) (fun i L hh=>?_),⟨rfl,rfl,rfl,rfl,by show(List.set _ _ _).length=_;simp,by show W.gs.length≤(List.set _ _ _).length;simp⟩⟩
  rcases hset W rfl i L hh with⟨rfl,rfl⟩|hh
  ·obtain⟨a,b,c,d⟩:=hL
   have et:(W.lk x.2.1++[(g:Int)]).tail=(W.lk x.2.1).tail++[(g:Int)]:=by
    cases e:W.lk x.2.1 with
    | nil=>exact absurd e e0
    | cons a t=>rfl
   refine⟨by simp;omega,fun j hj=>?_,?_,fun j hj=>?_⟩
   ·rw[xC]
    simp only[List.mem_append,List.mem_cons,List.not_mem_nil,or_false] at hj;rcases hj with hj|rfl
    ·exact b j hj
    ·exact⟨by omega,by have:=ha.lt;omega⟩
   ·rw[et,List.nodup_append]
    refine⟨c,by simp,fun j hj k hk'=>?_⟩
    simp at hk';subst hk'
    intro e;have:=(d j hj).1
    rw[e] at this;simp only[Int.toNat_natCast] at this;rw[ha.st] at this;omega
   ·rw[et] at hj
    simp only[List.mem_append,List.mem_cons,List.not_mem_nil,or_false] at hj;rcases hj with hj|rfl
    ·exact hk _ _ (d j hj)
    ·have e:=xt ha.lt 2 g
     rw[if_pos rfl] at e;refine⟨by simp only[Int.toNat_natCast];rw[e],x,?_,ho,by omega⟩
     simp only[Int.toNat_natCast];rw[e];exact ha.ins
  ·obtain⟨a,b,c,d⟩:=h.ls i L hh
   exact⟨by omega,by rw[xC];exact b,c,fun j hj=>hk _ _ (d j hj)⟩
theorem WF.unlock {B:Nat}{W:Wd}(h:WF B W)(rd:List Int){g:Nat}{n:Nat}{x:yq}(hx:Yf W n x)(ho:x.1=19):Y7 B W (Zr W rd g x):=by
 have hi:=hx.o18 (.inr ho)
 obtain⟨a,b,c,d⟩:=h.ls _ _ (Sk hi)
 have hget:=Sk hi;unfold Zr;simp only
 generalize W.lk x.2.1=L at *;cases L with
 | nil=>simp only[xr];rw[if_neg (by decide)];exact⟨h,YL.refl _⟩
 | cons y t =>
  by_cases e:y=(g:Int)
  ·simp only[xr,gaveL,if_pos e]
   have hset:∀(i:Nat) (L:List Int),(W.Ls.set x.2.1.toNat t)[i]?=some L→(i=x.2.1.toNat∧L=t)∨(i≠x.2.1.toNat∧W.Ls[i]?=some L):=fun i L hh=>by
    by_cases e:i=x.2.1.toNat
    ·subst e
     rw[List.getElem?_set_self (by omega)] at hh
     exact .inl ⟨rfl,by simpa using hh.symm⟩
    ·rw[List.getElem?_set_ne (by omega)] at hh;exact .inr ⟨e,hh⟩
   have h1:WF B { W with Ls:=W.Ls.set x.2.1.toNat t }:=h.yr _ (by simp) (fun i L hh=>by
    rcases hset i L hh with⟨rfl,rfl⟩|⟨-,hh⟩
    ·refine⟨by simp at a;omega,fun j hj=>b j (by simp[hj]),?_,fun j hj=>d j (List.mem_of_mem_tail hj)⟩
     exact(show L.Nodup from by simpa using c).sublist (List.tail_sublist L)
    ·exact h.ls i L hh)
   have hf:YL W { W with Ls:=W.Ls.set x.2.1.toNat t }:=⟨rfl,rfl,rfl,rfl,by simp,Nat.le_refl _⟩
   rw[if_pos trivial];split
   ·exact⟨h1,hf⟩
   ·rename_i e1
    cases t with
    | nil=>exact absurd rfl e1
    | cons z s =>
     simp only[List.headD_cons] at e1 ⊢
     obtain⟨z0,z1⟩:=b z (by simp)
     obtain⟨d1,y',d2,d3,d4⟩:=d z (by simp)
     have hzn:((z.toNat:Nat):Int)=z:=by omega
     have hgz:=h.at (j:=z.toNat) (by omega)
     refine⟨h1.Se z.toNat _ ⟨hgz.n,hgz.len,hgz.fr⟩ (fun C hC=>?_) (fun i L hh hm=>?_) (fun it hit e2=>?_),hf.trans (Z4 _ _ _)⟩
     ·rw[hzn]
      obtain⟨-,-,-,k1,k2⟩:=h.cs C hC;refine⟨fun w hw e2=>?_,fun w hw e2=>?_⟩
      ·obtain⟨-,-,x2,k3,k4,-⟩:=k1 w hw
       rw[e2,d2] at k3;cases k3;omega
      ·obtain⟨-,-,x2,k3,k4,-⟩:=k2 w hw
       rw[e2,d2] at k3;cases k3;omega
     ·rw[hzn] at hm
      rcases hset i L hh with⟨rfl,rfl⟩|⟨e3,hh⟩
      ·simp only[List.tail_cons] at hm c
       exact(List.nodup_cons.1 c).1 hm
      ·obtain⟨-,x2,k3,-,k4⟩:=(h.ls i L hh).2.2.2 _ hm
       rw[d2] at k3;cases k3;omega
     ·rw[hzn] at e2
      obtain⟨-,k,-⟩:=h.hp.2.2.1 it hit;rw[e2,d1] at k;omega
  ·simp only[xr,if_neg e]
   rw[if_neg (by decide)];exact⟨h,YL.refl _⟩
theorem WF.sleep {B:Nat}{W:Wd}(h:WF B W)(hB:B≤80000)(rd:List Int){g:Nat}{x:yq}(ha:At W g x):Y7 (B+1) W (Z7 W rd g x):=by
 unfold Z7;simp only
 obtain⟨r,hr⟩:∃r,r=if 1048576<(W.g g).rg x.2.1 then 1048576 else(W.g g).rg x.2.1:=⟨_,rfl⟩
 rw[←hr];have hr2:r≤1048576:=by rw[hr];split<;>omega
 clear hr;by_cases h0:r≤0
 ·rw[if_pos h0];exact⟨h.mono (by omega),YL.refl _⟩
 ·rw[if_neg h0]
  have h1:=h.zU ha.lt ha.st 3;have hno:∀y∈W.hp,y.id≠(g:Int):=fun y hy e=>by
   obtain⟨-,k,-⟩:=h.hp.2.2.1 y hy;rw[e] at k;simp only[Int.toNat_natCast] at k;rw[ha.st] at k;omega
  have hperm:=TD W.hp ⟨(W.clock:Int)+r,(W.nx:Int),(g:Int)⟩
  refine⟨?_,⟨rfl,rfl,rfl,rfl,rfl,by show W.gs.length≤_;rw[show(W.zU g 3).gs.length=W.gs.length from xC W g 3];exact Nat.le_refl _⟩⟩
  refine⟨h1.p,h1.ns,h1.g1,h1.gw,fun C hC=>(h1.cs C hC).mono (by omega),fun i L hL=>(h1.ls i L hL).mono (by omega),⟨?_,?_,fun y hy=>?_,NM h.hp.2.2.2⟩,by show W.nx+1≤B+1;have:=h.nx;omega,Nat.le_trans h.clock (by omega),h.out⟩
  ·show(ZR W.hp _).length≤_;rw[N6];have:=h.hp.1;omega
  ·show((ZR W.hp _).map (·.id)).Nodup
   rw[(hperm.map (·.id)).nodup_iff,List.map_cons,List.nodup_cons]
   refine⟨fun hm=>?_,h.hp.2.1⟩
   obtain⟨y,hy,e⟩:=List.mem_map.1 hm;exact hno y hy e
  ·have hy':=hperm.mem_iff.1 hy
   simp only[List.mem_cons] at hy'
   rcases hy' with rfl|hy'
   ·refine⟨⟨by simp,by rw[show({ W.zU g 3 with hp:=_,nx:=_ }:Wd).gs.length=W.gs.length from xC W g 3];have:=ha.lt;simp;omega⟩,?_,⟨by simp only;omega,by simp only;have:=h.clock;omega⟩,by simp,by show(W.nx:Int)<((W.nx+1:Nat):Int);omega⟩
    have e:=xt ha.lt 3 g;rw[if_pos rfl] at e;show((W.zU g 3).g (Int.toNat (g:Int))).st=3
    rw[Int.toNat_natCast,e]
   ·obtain⟨a,b,c,d⟩:=h1.hp.2.2.1 y hy'
    exact⟨a,b,c,d.1,by have:=d.2;show y.seq<((W.nx+1:Nat):Int);have e:(W.zU g 3).nx=W.nx:=rfl;rw[e] at this;omega⟩
theorem WF.outs {B:Nat}{W:Wd}(h:WF B W)(o:List Int)(ho:o.length≤1000):WF B { W with out:=o }:=⟨h.p,h.ns,h.g1,h.gw,h.cs,h.ls,h.hp,h.nx,h.clock,ho⟩
theorem WF.ends {B:Nat}{W:Wd}(h:WF B W)(e y:Int):WF B { W with en:=e,why:=y }:=⟨h.p,h.ns,h.g1,h.gw,h.cs,h.ls,h.hp,h.nx,h.clock,h.out⟩
theorem WF.end_ {B:Nat}{d:Dd}(h:WF B d.W):WF B d.end_:=by
 unfold Dd.end_;split
 ·exact h
 ·exact h.ends _ _
theorem JH {W:Wd}{d:Dd}(h:YL W d.W):YL W d.end_:=by
 unfold Dd.end_;split
 ·exact h
 ·exact⟨h.fs,h.ks,h.Ns,h.cl,h.ll,h.gl⟩
theorem WF.call {B:Nat}{W:Wd}(h:WF B W)(rd:List Int){g:Nat}{n:Nat}{x:yq}(ha:At W g x)(hx:Yf W n x)(ho:x.1=9):Y7 B W (Yz W rd g x):=by
 obtain⟨a,b,c⟩:=hx.o9 (.inl ho)
 unfold Yz;simp only
 split
 ·exact⟨h,YL.refl _⟩
 ·exact⟨h.ye (by rw[ha.st];decide) ((h.at ha.lt).call (by omega) a c),Z4 _ _ _⟩
theorem WF.ret {B:Nat}{W:Wd}(h:WF B W)(rd:List Int){g:Nat}{x:yq}(ha:At W g x):Y7 B W (WV W rd g x):=by
 unfold WV;simp only
 split
 ·have h1:=h.zU ha.lt ha.st 4
  exact⟨⟨h1.p,h1.ns,h1.g1,h1.gw,h1.cs,h1.ls,h1.hp,h1.nx,h1.clock,h1.out⟩,⟨rfl,rfl,rfl,rfl,rfl,by show W.gs.length≤_;rw[show({ W.zU g 4 with en:=_ }:Wd).gs.length=W.gs.length from xC W g 4];exact Nat.le_refl _⟩⟩
 ·exact⟨h.ye (by rw[ha.st];decide) ((h.at ha.lt).ret (by omega) _),Z4 _ _ _⟩
theorem WF.spawn {B:Nat}{W:Wd}(h:WF B W)(rd:List Int){g:Nat}{n:Nat}{x:yq}(ha:At W g x)(hx:Yf W n x)(ho:x.1=11):Y7 B W (ZH W rd g x):=by
 obtain⟨a,b,c⟩:=hx.o9 (.inr ho)
 unfold ZH;split
 ·exact⟨h,YL.refl _⟩
 ·have h1:WF B { W with gs:=W.gs++[⟨1,1,ZF x.2.1 ((W.g g).rg x.2.2.1) 0⟩] }:=h.EW _ ⟨by simp,fun j hj _=>by
   rw[List.getD_eq_getElem?_getD,List.getElem?_append_left hj,←List.getD_eq_getElem?_getD];exact⟨rfl,rfl,rfl⟩⟩ (by simp;omega) (fun G hG=>by
   simp only[List.mem_append,List.mem_cons,List.not_mem_nil,or_false] at hG;rcases hG with hG|rfl
   ·exact h.gw G hG
   ·exact GW.new 1 a (by omega))
  refine⟨h1.put g x.2.2.2 _ c,?_⟩
  have:=TY ({ W with gs:=W.gs++[⟨1,1,ZF x.2.1 ((W.g g).rg x.2.2.1) 0⟩] }:Wd) g x.2.2.2 (W.gs.length:Int)
  exact⟨this.fs,this.ks,this.Ns,this.cl,this.ll,Nat.le_trans (by simp) this.gl⟩
theorem WF.emit {B:Nat}{W:Wd}(h:WF B W)(rd:List Int)(g:Nat)(x:yq):Y7 B W (Yw W rd g x):=by
 unfold Yw;split
 ·exact⟨h,YL.refl _⟩
 ·exact⟨h.outs _ (by simp;omega),⟨rfl,rfl,rfl,rfl,rfl,Nat.le_refl _⟩⟩
theorem Y7.more {B C:Nat}{W:Wd}{d:Dd}(h:Y7 B W d)(hb:B≤C):Y7 C W d:=⟨h.1.mono hb,h.2⟩
theorem WF.GD {B:Nat}{W:Wd}(h:WF B W)(hB:B≤80000){g:Nat}{n:Nat}{x:yq}(ha:At W g x)(hx:Yf W n x)(h9:9≤x.1){dr:Int}{go:Bool}(hd:x.1=16→go=true→(0≤dr∧dr<((W.yK x).length:Int))∧((W.yK x).getD dr.toNat (1,0,0)).1≠2) :
  xZ W g x dr go∧Y7 (B+W.ks.length+1) W (yf W g x dr go):=by
 have hG:=h.at ha.lt;have hfr:=(hG.fr ((W.g g).n-1) (by have:=hG.n;omega)).2.2
 refine⟨⟨⟨h9,hx.op.2⟩,fun e=>(hx.o9 (.inl e)).2.1,fun e=>⟨hx.o10 (.inl e),fun _=>hfr⟩,fun e=>⟨(hx.o9 (.inr e)).2.1,(hx.o9 (.inr e)).2.2,h.g1.2⟩,fun e=>(h.chan hB [] ha hx e).1,fun e=>(h.close (by omega) hx e []).1,fun e=>(h.choose hB ha hx e (hd e)).1,
  fun e=>⟨hx.o10 (.inr (.inl e)),by have:=h.hp.1;omega,by have:=h.nx;omega,by have:=h.clock;omega⟩,
  fun e=>⟨hx.o18 (.inl e),fun L hL=>?_,h.p.nl⟩,fun e=>⟨hx.o18 (.inr e),fun L hL=>?_,h.p.nl,by have:=h.g1.2;omega⟩,fun e=>⟨hx.o10 (.inr (.inr e)),h.out⟩,fun e=>(hx.o21 e).1⟩,?_⟩
 ·obtain⟨i,hi⟩:=List.mem_iff_getElem?.1 hL
  have:=(h.ls i L hi).1;omega
 ·obtain⟨i,hi⟩:=List.mem_iff_getElem?.1 hL
  exact(h.ls i L hi).2.1
 ·have hop:x.1=9∨x.1=10∨x.1=11∨x.1=12∨x.1=13∨x.1=14∨x.1=15∨x.1=16∨x.1=17∨x.1=18∨x.1=19∨x.1=20∨x.1=21∨x.1=22:=by have:=hx.op;omega
  rcases hop with e|e|e|e|e|e|e|e|e|e|e|e|e|e
  ·rw[show yf W g x dr go=Yz W [] g x by unfold yf;rw[e];rfl];exact(h.call [] ha hx e).more (by omega)
  ·rw[show yf W g x dr go=WV W [] g x by unfold yf;rw[e];rfl];exact(h.ret [] ha).more (by omega)
  ·rw[show yf W g x dr go=ZH W [] g x by unfold yf;rw[e];rfl];exact(h.spawn [] ha hx e).more (by omega)
  ·rw[show yf W g x dr go=⟨W,[],none⟩ by unfold yf;rw[e];rfl];exact⟨h.mono (by omega),YL.refl _⟩
  ·rw[show yf W g x dr go=Yk W [] g x by unfold yf;rw[e];rfl];exact(h.chan hB [] ha hx (.inl e)).2
  ·rw[show yf W g x dr go=Yk W [] g x by unfold yf;rw[e];rfl];exact(h.chan hB [] ha hx (.inr e)).2
  ·rw[show yf W g x dr go=ZN W [] x by unfold yf;rw[e];rfl];exact(h.close (by omega) hx e []).2.more (by omega)
  ·rw[show yf W g x dr go=Zu W [] g x dr go by unfold yf;rw[e];rfl];exact(h.choose hB ha hx e (hd e)).2
  ·rw[show yf W g x dr go=Z7 W [] g x by unfold yf;rw[e];rfl];exact(h.sleep hB [] ha).more (by omega)
  ·rw[show yf W g x dr go=Xc W [] g x by unfold yf;rw[e];rfl];exact(h.lock [] ha hx e).more (by omega)
  ·rw[show yf W g x dr go=Zr W [] g x by unfold yf;rw[e];rfl];exact(h.unlock [] hx e).more (by omega)
  ·rw[show yf W g x dr go=Yw W [] g x by unfold yf;rw[e];rfl];exact(h.emit [] g x).more (by omega)
  ·rw[show yf W g x dr go=⟨W.put g x.2.1 dr,[],none⟩ by unfold yf;rw[e];rfl];exact⟨(h.put g x.2.1 dr (hx.o21 e).1).mono (by omega),TY _ _ _ _⟩
  ·rw[show yf W g x dr go=⟨W,[],some x.2.1⟩ by unfold yf;rw[e];rfl];exact⟨h.mono (by omega),YL.refl _⟩
theorem VS {x:yq}{o:Nat}{z:List Int}(h:Z0 x o z=none)(h0:0≤x.1):9≤x.1:=by
 rcases Int.lt_or_le x.1 9 with e|e
 ·exfalso
  have:x.1=0∨x.1=1∨x.1=2∨x.1=3∨x.1=4∨x.1=5∨x.1=6∨x.1=7∨x.1=8:=by omega
  unfold Z0 at h;rcases this with e|e|e|e|e|e|e|e|e<;>simp[e] at h
 ·exact e
theorem Uz {x:yq}{o:Nat}{z z':List Int}(h:Z0 x o z=some z')(h0:0≤x.1):x.1≤8:=by
 rcases Int.lt_or_le 8 x.1 with e|e
 ·exfalso
  unfold Z0 at h;simp only at h
  rw[if_neg (by omega),if_neg (by omega),if_neg (by omega),if_neg (by omega),if_neg (by omega),if_neg (by omega),if_neg (by omega),if_neg (by omega),if_neg (by omega)] at h
  cases h
 ·exact e
theorem GW.pure {fs:List (List yq)}{G:Gt}(h:GW fs G){nc nk nl:Nat}{x:yq}(hx:Y4 fs.length nc nk nl (fs.getD G.fn.toNat []).length x)(hpc:0≤G.pc∧G.pc<((fs.getD G.fn.toNat []).length:Int)){z':List Int}(hz:Z0 x G.o G.z=some z'):GW fs { G with z:=z' }:=by
 have h8:=Uz hz hx.op.1;have hp:=hx.pure h8;have h1:=h.place (G.pc+1) (by omega)
 have hr:∀(v:Int),0≤x.2.1→x.2.1<8→GW fs { G with z:=(G.z.set (G.o+1) (G.pc+1)).set (G.o+2+x.2.1.toNat) v }:=fun v a b=>h1.ES (G.n-1) x.2.1.toNat (by omega) v
 have hset:∀v,0≤v∧v≤((fs.getD G.fn.toNat []).length:Int)→GW fs { G with z:=(G.z.set (G.o+1) (G.pc+1)).set (G.o+1) v }:=fun v hv=>by rw[List.set_set];exact h.place v hv
 unfold Z0 at hz;simp only at hz
 unfold Vb at hp;split at hz
 ·cases hz;exact h1
 split at hz
 ·cases hz;exact hr _ (by omega) (by omega)
 split at hz
 ·cases hz;exact hr _ (by omega) (by omega)
 split at hz
 ·cases hz;exact hr _ (by omega) (by omega)
 split at hz
 ·cases hz;exact hr _ (by omega) (by omega)
 split at hz
 ·cases hz;exact hr _ (by omega) (by omega)
 split at hz
 ·cases hz;exact hr _ (by omega) (by omega)
 split at hz
 ·rename_i e;cases hz;have:=hx.j7 e;exact hset _ (by omega)
 split at hz
 ·rename_i e
  have:=hx.j8 e
  split at hz
  ·cases hz;exact h1
  ·cases hz;exact hset _ (by omega)
 ·cases hz
theorem Gt.JL (G:Gt)(hl:G.z.length=G.n*11)(hn:1≤G.n)(v:Int):({ G with z:=G.z.set (G.o+1) v }:Gt).fn=G.fn∧({ G with z:=G.z.set (G.o+1) v }:Gt).pc=v:=by
 refine⟨?_,?_⟩
 ·show(G.z.set (G.o+1) v).getD G.o 0=G.z.getD G.o 0
  rw[getD_set_ne (by omega)]
 ·show(G.z.set (G.o+1) v).getD (G.o+1) 0=v
  rw[Vs (by unfold Gt.o;omega)]
theorem WF.step {B:Nat}{W:Wd}(h:WF B W){g:Nat}(hg:g<W.gs.length)(hs:(W.g g).st=1){x:yq}(hx:W.ins g=some x):WF B (W.step g)∧At (W.step g) g x∧YL W (W.step g):=by
 have hG:=h.at hg;obtain⟨k1,k2,k3⟩:=h.VZ hx;have e:=(W.g g).JL hG.len hG.n.1 ((W.g g).pc+1)
 have eg:(W.step g).g g={ W.g g with z:=(W.g g).z.set ((W.g g).o+1) ((W.g g).pc+1) }:=by unfold Wd.step;rw[Wd.Yn _ _ _ _ hg,if_pos rfl]
 refine⟨h.ye (by rw[hs];decide) (hG.place _ (by omega)),⟨by unfold Wd.step Wd.ye;simpa using hg,by rw[eg];exact hs,?_⟩,Z4 _ _ _⟩
 rw[eg,e.1,e.2];show W.Zi (W.g g).fn ((W.g g).pc+1-1)=some x
 rw[Int.add_sub_cancel];exact hx
theorem WF.E7 {B:Nat}{W:Wd}(h:WF B W)(hB:B≤80000){g:Nat}(hl:W.lets (g:Int))(v:Int) :
  G9 W g (xP W ((W.ins g).getD (0,0,0,0)) v).1 (xP W ((W.ins g).getD (0,0,0,0)) v).2 ∧
  Y7 (B+W.ks.length+1) W (doM W g (W.ins g) (xP W ((W.ins g).getD (0,0,0,0)) v).1 (xP W ((W.ins g).getD (0,0,0,0)) v).2):=by
 obtain⟨l1,l2,l3,l4⟩:=hl;simp only[Int.toNat_natCast] at l4;have hg:g<W.gs.length:=by omega
 have hG:=h.at hg;have hf:=hG.fr ((W.g g).n-1) (by have:=hG.n;omega)
 have hm:(W.fs.getD (W.g g).fn.toNat []).length≤900:=by
  rw[List.getD_eq_getElem?_getD]
  cases e:W.fs[(W.g g).fn.toNat]? with
  | none=>simp
  | some l=>exact h.p.fl l (List.mem_of_getElem? e)
 have hpc:0≤(W.g g).pc∧(W.g g).pc≤((W.fs.getD (W.g g).fn.toNat []).length:Int):=hf.2.1
 cases hx:W.ins g with
 | none =>
  refine⟨⟨hg,hG.n,by omega,fun x hx' _=>(by rw[hx] at hx';cases hx'),fun x hx' _=>(by rw[hx] at hx';cases hx')⟩,?_⟩
  exact⟨h.mono (by omega),YL.refl _⟩
 | some x =>
  obtain⟨k1,k2,k3⟩:=h.VZ hx;obtain⟨s1,s2,s3⟩:=h.step hg l4 hx;simp only[Option.getD_some];have hask:x.1=16→(xP W x v).2=true→(0≤(xP W x v).1∧(xP W x v).1<(((W.step g).yK x).length:Int))∧(((W.step g).yK x).getD (xP W x v).1.toNat (1,0,0)).1≠2:=fun e1 e2=>by
   rw[Us s3.ks];exact VP e1 e2
  refine⟨⟨hg,hG.n,by omega,fun y hy hp=>?_,fun y hy hp=>?_⟩,?_⟩
  ·rw[hx] at hy;cases hy
   cases e:Z0 x (W.g g).o (W.g g).z with
   | none=>exact absurd e hp
   | some z=>exact k1.pure (Uz e k1.op.1)
  ·rw[hx] at hy;cases hy
   exact(s1.GD hB s2 (k1.Ey s3) (VS hp k1.op.1) hask).1
  ·unfold doM
   simp only
   split
   ·rename_i z e
    exact⟨(h.ye (by rw[l4];decide) (hG.pure k1 ⟨hpc.1,k3⟩ e)).mono (by omega),Z4 _ _ _⟩
   ·rename_i e
    have:=(s1.GD hB s2 (k1.Ey s3) (VS e k1.op.1) hask).2
    rw[s3.ks] at this;exact⟨this.1,s3.trans this.2⟩
theorem WF.exec {B:Nat}{W:Wd}(h:WF B W)(hB:B≤80000)(g v:Int):WF (B+W.ks.length+1) (zR W g v).1∧YL W (zR W g v).1:=by
 unfold zR;split
 ·rename_i hl
  have e:g=((g.toNat:Nat):Int):=by have:=hl.2.1;omega
  have hl':W.lets ((g.toNat:Nat):Int):=by rw[←e];exact hl
  obtain⟨a,b⟩:=(h.E7 hB hl' v).2
  exact⟨a.end_,JH b⟩
 ·exact⟨h.mono (by omega),YL.refl _⟩
theorem WF.Fv {B:Nat}{W:Wd}(h:WF B W)(hB:B≤80000){g:Nat}(hl:W.lets (g:Int)):KG W g:=by
 have hl':=hl;obtain⟨l1,l2,l3,l4⟩:=hl;have hg:g<W.gs.length:=by omega
 have hG:=h.at hg;have hf:=hG.fr ((W.g g).n-1) (by have:=hG.n;omega)
 have hm:(W.fs.getD (W.g g).fn.toNat []).length≤900:=by
  rw[List.getD_eq_getElem?_getD]
  cases e:W.fs[(W.g g).fn.toNat]? with
  | none=>simp
  | some l=>exact h.p.fl l (List.mem_of_getElem? e)
 have hpc:0≤(W.g g).pc∧(W.g g).pc≤((W.fs.getD (W.g g).fn.toNat []).length:Int):=hf.2.1
 have hfn:0≤(W.g g).fn∧(W.g g).fn<(W.fs.length:Int):=hf.1
 refine⟨hl',⟨hg,by have:=h.g1.2;omega,hG.n,hfn,by omega⟩,?_,fun v=>(h.E7 hB hl' v).1,fun v=>?_⟩
 ·cases hx:W.ins g with
  | none=>exact⟨fun e=>absurd e (by decide),fun e=>absurd e (by decide)⟩
  | some x =>
   obtain⟨k1,-,-⟩:=h.VZ hx;exact⟨fun e=>⟨k1.Nc (.inr (.inr e)),by have:=h.p.kl;omega,k1.VX (.inr (.inr e)) h.p.ck⟩,fun e=>by have:=k1.o21 e;simp only[Option.getD_some] at *;omega⟩
 ·obtain⟨a,b⟩:=h.exec hB (g:Int) v
  have hg':g<(zR W (g:Int) v).1.gs.length:=by have:=b.gl;omega
  exact⟨hg',(a.at hg').n⟩
theorem YN:∀(k:Nat) (l:List It) (now:Int),l.length≤k→((yZ l now).1++(yZ l now).2).Perm l∧(XQ l→XQ (yZ l now).2)
 | 0,l,now,h=>by
  obtain rfl:l=[]:=List.eq_nil_of_length_eq_zero (by omega)
  rw[Wi (by simp)];exact⟨List.Perm.refl _,id⟩
 | k+1,l,now,h=>by
  by_cases c:0<l.length∧(gI l 0).at_≤now
  ·rw[SD c.1 c.2]
   obtain⟨a,b⟩:=YN k (YF l 0) now (by rw[Up c.1];omega)
   exact⟨(List.Perm.cons _ a).trans (Re c.1).symm,fun hh=>b (L9 c.1 hh)⟩
  ·rw[Wi c];exact⟨List.Perm.refl _,id⟩
theorem Rs {B:Nat}:∀(l:List It) (W:Wd),WF B W→(∀x∈l,(0≤x.id∧x.id<(W.gs.length:Int))∧(W.g x.id.toNat).st=3)→(l.map (·.id)).Nodup→(∀x∈l,∀y∈W.hp,y.id≠x.id) →
  WF B (wokeM W l)∧YL W (wokeM W l)∧(wokeM W l).hp=W.hp∧(wokeM W l).clock=W.clock
 | [],W,h,_,_,_=>⟨h,YL.refl _,rfl,rfl⟩
 | x::t,W,h,h1,h2,h3=>by
  obtain⟨hx1,hx2⟩:=h1 x (by simp)
  have hg:x.id.toNat<W.gs.length:=by omega
  have hxn:((x.id.toNat:Nat):Int)=x.id:=by omega
  have hG:=h.at hg;have hw:WF B (W.zU x.id.toNat 1):=h.Se x.id.toNat _ ⟨hG.n,hG.len,hG.fr⟩ (fun C hC=>by
    rw[hxn];obtain⟨-,-,-,k1,k2⟩:=h.cs C hC;exact⟨fun w hw e=>by have:=(k1 w hw).2.1;rw[e,hx2] at this;omega,fun w hw e=>by have:=(k2 w hw).2.1;rw[e,hx2] at this;omega⟩) (fun i L hL hm=>by
    rw[hxn] at hm;have:=((h.ls i L hL).2.2.2 _ hm).1;rw[hx2] at this;omega) (fun y hy=>by rw[hxn];exact h3 x (by simp) y hy)
  rw[List.map_cons,List.nodup_cons] at h2;obtain⟨a,b,c,d⟩:=Rs t (W.zU x.id.toNat 1) hw (fun y hy=>by
    obtain⟨k1,k2⟩:=h1 y (by simp[hy])
    refine⟨by rw[xC];exact k1,?_⟩
    rw[xt hg,if_neg (fun e=>h2.1 (by
     have:y.id=x.id:=by omega
     rw[←this];exact List.mem_map_of_mem (f:=(·.id)) hy))]
    exact k2) h2.2 (fun y hy z hz=>h3 y (by simp[hy]) z hz)
  exact⟨a,(Z4 _ _ _).trans b,c,d⟩
theorem WF.tick {B:Nat}{W:Wd}(h:WF B W):WF (B+1) (yY W).1∧YL W (yY W).1:=by
 unfold yY;split
 ·simp only
  obtain⟨a,b⟩:=YN _ W.hp ((W.clock:Int)+1) (Nat.le_refl _)
  have hall:∀x,x∈(yZ W.hp ((W.clock:Int)+1)).1∨x∈(yZ W.hp ((W.clock:Int)+1)).2→x∈W.hp:=fun x hx=>a.mem_iff.1 (List.mem_append.2 hx)
  have hnd:=(a.map (·.id)).nodup_iff.2 h.hp.2.1
  rw[List.map_append,List.nodup_append] at hnd;obtain⟨n1,n2,n3⟩:=hnd;have hlen:=a.length_eq;rw[List.length_append] at hlen;have h1:WF (B+1) { W with clock:=W.clock+1,hp:=(yZ W.hp ((W.clock:Int)+1)).2 } :=
   ⟨h.p,h.ns,h.g1,h.gw,fun C hC=>(h.cs C hC).mono (by omega),fun i L hL=>(h.ls i L hL).mono (by omega),⟨by show(yZ W.hp _).2.length≤_;have:=h.hp.1;omega,n2,fun x hx=>h.hp.2.2.1 x (hall x (.inr hx)),b h.hp.2.2.2⟩,Nat.le_trans h.nx (by omega),by show W.clock+1≤B+1;have:=h.clock;omega,h.out⟩
  obtain⟨c,d,-,-⟩:=Rs (yZ W.hp ((W.clock:Int)+1)).1 _ h1 (fun x hx=>by
   obtain⟨k1,k2,-⟩:=h.hp.2.2.1 x (hall x (.inl hx));exact⟨k1,k2⟩) n1 (fun x hx y hy e=>n3 x.id (List.mem_map_of_mem (f:=(·.id)) hx) y.id (List.mem_map_of_mem (f:=(·.id)) hy) e.symm)
  exact⟨c,d.fs,d.ks,d.Ns,d.cl,d.ll,d.gl⟩
 ·exact⟨h.mono (by omega),YL.refl _⟩
theorem I2 {fs:List (List yq)}{ks:List Zm}{rooms:List Int}{yr:Nat}(h:PW fs ks rooms.length yr):WF 0 (Za fs ks rooms yr):=by
 refine⟨by unfold Za;simpa using h,⟨by unfold Za;simp,fun N hN=>?_⟩,by unfold Za;simp,fun G hG=>?_,fun C hC=>?_,fun i L hL=>?_,⟨by unfold Za;simp,by unfold Za;simp,fun x hx=>by unfold Za at hx;simp at hx,fun i _ hi=>by unfold Za at hi;simp at hi⟩,by unfold Za;simp,by unfold Za;simp,by unfold Za;simp⟩
 ·obtain⟨z,-,rfl⟩:=List.mem_map.1 hN
  exact KP z
 ·simp only[Za,List.mem_cons,List.not_mem_nil,or_false] at hG
  subst hG;exact GW.new 1 ⟨by omega,by have:=h.f;show(0:Int)<(fs.length:Int);omega⟩ ⟨by omega,by omega⟩
 ·obtain⟨z,-,rfl⟩:=List.mem_map.1 hC
  exact⟨by simp,by simp,by simp,fun w hw=>by simp at hw,fun w hw=>by simp at hw⟩
 ·have hm:L∈List.replicate yr ([]:List Int):=List.mem_of_getElem? hL
  rw[List.mem_replicate] at hm;rw[hm.2];exact⟨by simp,fun g hg=>by simp at hg,by simp,fun g hg=>by simp at hg⟩
section
variable {w0 w:World} {p:Nat} {W:Wd} {D:Wa} {T:List Value} {Y:List zv}
theorem KH (h:Own w0 w (zj p W D T++Y)) :
  Calls Tryz.prog 34 #[.pointer (some ⟨p,0,none⟩)] w fun r w'=>r=.returned (.int .i64 (W.gs.length:Int))∧w'=w:=by
 have p2:=(h.zi 0 rfl 2 _ rfl).1
 generalize W.gs.length=n at *;clear h;go_enter Tryz.func34,Tryz.ntmps34
 go_wp2;go_ret;exact⟨rfl,rfl⟩
theorem MH (h:Own w0 w (zj p W D T++Y)) :
  Calls Tryz.prog 25 #[.pointer (some ⟨p,0,none⟩)] w fun r w'=>r=.returned (.tuple #[.int .i64 W.en,.int .i64 W.why])∧∃k,w'=w.drewN k:=by
 have p9:=(h.zi 0 rfl 9 _ rfl).1
 have p10:=(h.zi 0 rfl 10 _ rfl).1
 generalize W.en=n at *;generalize W.why=m at *;clear h;go_enter Tryz.func25,Tryz.ntmps25
 go_upto_region 1 with fail
 go_quiet (fail)
 go_wp2;go_ret2
 exact⟨rfl,⟨_,rfl⟩⟩
end
end Go.Proofs.YtlkjheheofgdgaaGreat
open Go Go.RowKit
namespace Go.Proofs.YtlkjheheofgdgaaGreat
theorem Nq:(Tryz.prog.info? 129).map (fun i=>(i.zero,i.size,i.bytes))=some (some (.agg #[.int .i64 0,.int .i64 0,.int .i64 0]),3,24):=by kernel_rfl
theorem Kr:(Tryz.prog.info? 86).map (fun i=>(i.zero,i.size,i.bytes))=some (some (.agg #[.int .i64 0,.int .i64 0,.int .i64 0,.int .i64 0]),4,32):=by kernel_rfl
theorem Q1 (w:World)(a:Option Addr)(n c:Nat)(cs:List Value)(h:zr w a cs)(hlen:cs.length=n*3)(hnil:a=none→c=0)(hone:∀u∈cs,u.oneCell'=true)(hl:n≤1000000) :
  Calls Tryz.prog 62 #[.slice a n c] w fun r w'=>∃a' c',r=.returned (.slice a' n c')∧zT 3 w' a' c' n cs∧(∀x∈zY a',w.heap.size≤x)∧Below w.heap.size w w':=by
 cases a with
 | none =>
  have hcs:cs=[]:=by
   cases cs with
   | nil=>rfl
   | cons u t=>obtain⟨b,off,hx,-⟩:=h 0 u rfl;cases hx
  subst hcs;obtain rfl:c=0:=hnil rfl
  obtain rfl:n=0:=by simp at hlen;omega
  clear h hone hlen hnil;have he:∀w:World,(binOp .eql 63 (.slice none 0 0) (.slice none 0 0)).run Tryz.prog w=.ok (.bool true) w:=fun _=>rfl
  go_enter Tryz.func62,Tryz.ntmps62
  go_wp2;go_ret;exact⟨none,0,rfl,zT.nil _ _,fun x hx=>by simp[zY] at hx,Below.refl _ _⟩
 | some ad =>
  obtain⟨i0,hi0,hz0,hz1,hz2⟩:=info_parts Nq;have Hi:=Qq hi0;clear hi0
  have Hz0:=Qq hz0;clear hz0
  have Hz1:=Qq hz1;clear hz1
  have Hz2:=Qq hz2;clear hz2
  have H:=Qq h;have HN:=Qq hlen;have HO:=Qq hone;clear h hone hlen hnil;have he:∀w:World,(binOp .eql 63 (.slice (some ad) n c) (.slice none 0 0)).run Tryz.prog w=.ok (.bool false) w:=fun _=>rfl
  go_enter Tryz.func62,Tryz.ntmps62
  go_wp2_with (at_builtin;refine yk (m:=n) (n:=0) (cs:=[]) (ds:=cs) rfl _ _ 63 rfl 129 i0 _ Tryz.underlying63 Hi.out Hz0.out Hz1.out Hz2.out rfl (by omega) (by omega) rfl rfl (zT.zero (by simp)) (H.out.below (below_alloc1 _ _)) HN.out HO.out (by omega) ?_)
  intro a1 c1 w1 k1 ch1 f1;have hf:zT 3 w1 a1 c1 n cs∧(∀x∈zY a1,w.heap.size≤x)∧Below w.heap.size w w1:=by
   refine⟨by simpa using k1,fun x hx=>?_,zK.below (below_alloc1 _ _) ch1 (fun x hx=>by simp[zY] at hx;omega)⟩
   rcases f1 x hx with h|h
   ·simp[zY] at h;omega
   ·first|omega|(simp at h;omega)
  have HF:=Qq hf;clear hf k1 ch1 f1;go_wp2;go_ret;exact⟨a1,c1,by simp,HF.out⟩
theorem Qu (w:World)(a:Option Addr)(n c:Nat)(cs:List Value)(h:zr w a cs)(hlen:cs.length=n*4)(hnil:a=none→c=0)(hone:∀u∈cs,u.oneCell'=true)(hl:n≤1000000) :
  Calls Tryz.prog 64 #[.slice a n c] w fun r w'=>∃a' c',r=.returned (.slice a' n c')∧zT 4 w' a' c' n cs∧(∀x∈zY a',w.heap.size≤x)∧Below w.heap.size w w':=by
 cases a with
 | none =>
  have hcs:cs=[]:=by
   cases cs with
   | nil=>rfl
   | cons u t=>obtain⟨b,off,hx,-⟩:=h 0 u rfl;cases hx
  subst hcs;obtain rfl:c=0:=hnil rfl
  obtain rfl:n=0:=by simp at hlen;omega
  clear h hone hlen hnil;have he:∀w:World,(binOp .eql 87 (.slice none 0 0) (.slice none 0 0)).run Tryz.prog w=.ok (.bool true) w:=fun _=>rfl
  go_enter Tryz.func64,Tryz.ntmps64
  go_wp2;go_ret;exact⟨none,0,rfl,zT.nil _ _,fun x hx=>by simp[zY] at hx,Below.refl _ _⟩
 | some ad =>
  obtain⟨i0,hi0,hz0,hz1,hz2⟩:=info_parts Kr;have Hi:=Qq hi0;clear hi0
  have Hz0:=Qq hz0;clear hz0
  have Hz1:=Qq hz1;clear hz1
  have Hz2:=Qq hz2;clear hz2
  have H:=Qq h;have HN:=Qq hlen;have HO:=Qq hone;clear h hone hlen hnil;have he:∀w:World,(binOp .eql 87 (.slice (some ad) n c) (.slice none 0 0)).run Tryz.prog w=.ok (.bool false) w:=fun _=>rfl
  go_enter Tryz.func64,Tryz.ntmps64
  go_wp2_with (at_builtin;refine yk (m:=n) (n:=0) (cs:=[]) (ds:=cs) rfl _ _ 87 rfl 86 i0 _ Tryz.underlying87 Hi.out Hz0.out Hz1.out Hz2.out rfl (by omega) (by omega) rfl rfl (zT.zero (by simp)) (H.out.below (below_alloc1 _ _)) HN.out HO.out (by omega) ?_)
  intro a1 c1 w1 k1 ch1 f1;have hf:zT 4 w1 a1 c1 n cs∧(∀x∈zY a1,w.heap.size≤x)∧Below w.heap.size w w1:=by
   refine⟨by simpa using k1,fun x hx=>?_,zK.below (below_alloc1 _ _) ch1 (fun x hx=>by simp[zY] at hx;omega)⟩
   rcases f1 x hx with h|h
   ·simp[zY] at h;omega
   ·first|omega|(simp at h;omega)
  have HF:=Qq hf;clear hf k1 ch1 f1;go_wp2;go_ret;exact⟨a1,c1,by simp,HF.out⟩
theorem OM:(Tryz.prog.info? 87).map (fun i=>(i.zero,i.size,i.bytes))=some (some (.slice none 0 0),1,24):=by kernel_rfl
theorem Own.Yr {w0 w:World}{As:List zv}(h:Own w0 w As)(s:Nat):Own w0 w (zd s none 0 0 []::As):=h.add (Below.refl _ _) (A:=zd s none 0 0 []) (F:=[]) ⟨rfl,zT.nil s w⟩ (fun x hx=>by simp at hx)
theorem IE {fr:List (Option Addr×Nat)}{fs:List (List yq)}(h:fr.length=fs.length)(r:Option Addr×Nat)(l:List yq):Oy (fr++[r]) (fs++[l])=Oy fr fs++[.slice r.1 l.length r.2]:=by
 unfold Oy;rw[List.zipWith_append h];rfl
theorem MU:(Tryz.prog.info? 165).map (fun i=>(i.zero,i.size,i.bytes))=some (some (.pointer none),1,8):=by kernel_rfl
theorem LJ:(Tryz.prog.info? 167).map (fun i=>(i.zero,i.size,i.bytes))=some (some (.pointer none),1,8):=by kernel_rfl
theorem LR (ps:List Pl)(x:Pl):xT (ps++[x])=xT ps++[.pointer (some ⟨x.1,0,none⟩)]:=by unfold xT;rw[List.map_append];rfl
theorem Iz {ps:List Pl}{Cs:List Ch}(h:ps.length=Cs.length)(x:Pl)(C:Ch):YD (ps++[x]) (Cs++[C])=YD ps Cs++[yv x.1 x.2 C]:=by unfold YD;rw[List.zipWith_append h];rfl
theorem Le (lp:List Nat)(x:Nat):W8 (lp++[x])=W8 lp++[.pointer (some ⟨x,0,none⟩)]:=by unfold W8;rw[List.map_append];rfl
theorem Jp {lp:List Nat}{Ls:List (List Int)}(h:lp.length=Ls.length)(x:Nat)(L:List Int):SO (lp++[x]) (Ls++[L])=SO lp Ls++[Ye x L]:=by unfold SO;rw[List.zipWith_append h];rfl
theorem Sep.mem {w:World}:∀{l:List zv} {F:List Nat} {i:Nat} {A:zv},Sep w l F→l[i]?=some A→∃G,A.at_ w G∧∀x∈G,x∈F
 | [],_,_,_,_,hi=>by simp at hi
 | B::t,F,0,A,h,hi=>by
  obtain⟨F1,F2,rfl,h1,-,h2⟩:=h;simp at hi;subst hi
  exact⟨F1,h1,fun x hx=>by simp[hx]⟩
 | B::t,F,i+1,A,h,hi=>by
  obtain⟨F1,F2,rfl,h1,-,h2⟩:=h;obtain⟨G,g1,g2⟩:=Sep.mem h2 (by simpa using hi)
  exact⟨G,g1,fun x hx=>by simp[g2 x hx]⟩
structure Xe (w:World) (fa:Option Addr) (fr:List (Option Addr×Nat)) (fs:List (List yq)) (ra:Option Addr) (rooms:List Int) (ca:Option Addr) (cc:Nat) (ks:List Zm):Prop where
 f:zr w fa (Oy fr fs)
 fl:fr.length=fs.length
 each:∀(i:Nat) (r:Option Addr×Nat) (l:List yq),fr[i]?=some r→fs[i]?=some l→zr w r.1 (PE l)∧(r.1=none→r.2=0)∧l.length≤1000000
 c:zr w ra (zt rooms)
 k:zr w ca (WM ks)
 kn:ca=none→cc=0
 kl:ks.length≤1000
 nf:fs.length≤1000
 nc:rooms.length≤1000
def Sw (fr:List (Option Addr×Nat))(fs:List (List yq)):List zv:=List.zipWith (fun r l=>zd 4 r.1 r.2 l.length (PE l)) fr fs
theorem MT {fr:List (Option Addr×Nat)}{fs:List (List yq)}(h:fr.length=fs.length)(r:Option Addr×Nat)(l:List yq):Sw (fr++[r]) (fs++[l])=Sw fr fs++[zd 4 r.1 r.2 l.length (PE l)]:=by
 unfold Sw;rw[List.zipWith_append h];rfl
theorem Mk {w0 w:World}{fA:Option Addr}{fC n m cc:Nat}{fr:List (Option Addr×Nat)}{fs:List (List yq)}{ca:Option Addr}{ks:List Zm}{R:List zv}(h:Own w0 w (zd 1 fA fC n (Oy fr fs)::yD (Sw fr fs)::zd 3 ca cc m (WM ks)::R)):Own w0 w (Xq fA fr fs ca ks::R):=by
 refine Own.SY (As:=[zd 1 fA fC n (Oy fr fs),yD (Sw fr fs),zd 3 ca cc m (WM ks)]) (As':=[Xq fA fr fs ca ks]) (R:=R) h (fun F hF=>?_)
 refine⟨F,xe.2 ?_,zK.refl _ _,fun x hx=>.inl hx⟩
 have hlt:=hF.lt;obtain⟨F1,Fa,rfl,⟨rfl,h1⟩,-,F2,Fb,rfl,h2,-,F3,F4,rfl,⟨rfl,h3⟩,-,rfl⟩:=hF;refine⟨hlt,⟨fun x hx=>by simp[hx],h1.cells⟩,⟨fun x hx=>by simp[hx],h3.cells⟩,fun i r l hr hl=>?_⟩
 have hi:(Sw fr fs)[i]?=some (zd 4 r.1 r.2 l.length (PE l)):=by unfold Sw;rw[List.getElem?_zipWith,hr,hl]
 obtain⟨G,⟨rfl,g1⟩,g2⟩:=Sep.mem h2 hi;exact⟨fun x hx=>by simp[g2 x hx],g1.cells⟩
theorem Lb (l:List yq):(PE l).length=l.length*4:=by
 induction l with
 | nil=>rfl
 | cons x t ih=>simp only[PE,List.flatMap_cons,List.length_append,List.length_cons] at ih ⊢;rw[ih];simp[FK];omega
def EJ (fA:Option Addr)(i fC:Nat)(hA:Option Addr)(j hC:Nat)(lA:Option Addr)(k lC:Nat)(ca:Option Addr)(nk cc:Nat)(aa:Option Addr):List Value :=
 [.slice fA i fC,.slice ca nk cc,.slice aa 1 1,.slice hA j hC,.slice lA k lC,.slice none 0 0,.int .u64 0,.int .u64 0,.slice none 0 0,.int .i64 0,.int .i64 0]
def VA (b:Nat)(fA:Option Addr)(fC:Nat)(fr:List (Option Addr×Nat))(fs:List (List yq))(hA:Option Addr)(hC:Nat)(ps:List Pl)(Cs:List Ch)(lA:Option Addr)(lC:Nat)(lp:List Nat)(Ls:List (List Int))(ca:Option Addr)(cc:Nat)(ks:List Zm)(aa:Option Addr)(g:Nat):List zv :=
 [ze b (EJ fA fs.length fC hA Cs.length hC lA Ls.length lC ca ks.length cc aa),zd 1 fA fC fs.length (Oy fr fs),yD (Sw fr fs),zd 3 ca cc ks.length (WM ks),zd 2 aa 1 1 [.int .i64 1,.slice (some ⟨g,0,none⟩) 1 1],yD [Yv g 1 1 (ZF 0 0 0)],
  zd 1 hA hC Cs.length (xT ps),yD (YD ps Cs),zd 1 lA lC Ls.length (W8 lp),yD (SO lp Ls)]
theorem Jg (ks:List Zm):∀u∈WM ks,u.oneCell'=true:=by
 intro u hu;unfold WM at hu;obtain⟨k,-,hk⟩:=List.mem_flatMap.1 hu;simp only[ER,List.mem_cons,List.not_mem_nil,or_false] at hk;rcases hk with rfl|rfl|rfl<;>rfl
theorem Il (l:List yq):∀u∈PE l,u.oneCell'=true:=by
 intro u hu;unfold PE at hu;obtain⟨k,-,hk⟩:=List.mem_flatMap.1 hu;simp[FK] at hk
 rcases hk with rfl|rfl|rfl|rfl<;>rfl
theorem MP (w:World)(fa:Option Addr)(fc:Nat)(fr:List (Option Addr×Nat))(fs:List (List yq))(ra:Option Addr)(rc:Nat)(rooms:List Int)(yr:Nat)(ca:Option Addr)(cc:Nat)(ks:List Zm)(hp:Xe w fa fr fs ra rooms ca cc ks)(hlk:yr≤1000) :
  Calls Tryz.prog 37 #[.agg #[.slice fa fs.length fc,.slice ra rooms.length rc,.int .i64 (yr:Int),.slice ca ks.length cc]] w fun r w'=>∃b D,r=.returned (.pointer (some ⟨b,0,none⟩))∧D.fits (Za fs ks rooms yr)∧Own w w' (zj b (Za fs ks rooms yr) D []):=by
 obtain⟨hf,hfl,heach,hc,hk,hkn,hkl,hnf,hnc⟩:=hp;have b1:=below_alloc1 w (.cells #[.slice fa fs.length fc,.slice ra rooms.length rc,.int .i64 (yr:Int),.slice ca ks.length cc] 65)
 have x0:=zH.mk w [.slice fa fs.length fc,.slice ra rooms.length rc,.int .i64 (yr:Int),.slice ca ks.length cc] 65 w.heap.size rfl
 have o1:Own w (w.alloc (.cells #[.slice fa fs.length fc,.slice ra rooms.length rc,.int .i64 (yr:Int),.slice ca ks.length cc] 65)) [ze w.heap.size [.slice fa fs.length fc,.slice ra rooms.length rc,.int .i64 (yr:Int),.slice ca ks.length cc]] :=
  (Own.nil (Below.refl _ _)).alloc _ _ rfl
 have HO1:=Qq o1;have HKC:=Qq (Q1 _ ca ks.length cc (WM ks) (hk.below b1) (IA ks) hkn (Jg ks) (by omega))
 have HF:=Qq hf;have HC:=Qq hc;have HE:=Qq heach;have HFL:=Qq hfl;obtain⟨i1,-⟩:=x0 0 _ rfl;obtain⟨i2,-⟩:=x0 1 _ rfl;obtain⟨i3,-⟩:=x0 2 _ rfl;obtain⟨i4,-⟩:=x0 3 _ rfl;clear hf hfl heach hc hk hkn x0 o1 b1;go_enter Tryz.func37,Tryz.ntmps37
 go_wp2_with fail;refine HKC.out.mono ?_
 rintro r w2 ⟨ca',cc',rfl,hr2,hf2,hb2⟩;have o2:=HO1.out.add hb2 (A:=zd 3 ca' cc' ks.length (WM ks)) (F:=zY ca') ⟨rfl,hr2⟩ hf2
 have H2:=Qq o2;clear o2 hr2 hf2 hb2 HKC HO1;go_wp2_with fail;refine(V4 0 0 _).mono ?_
 rintro r w3 ⟨g,rfl,hg,hs,hb3⟩;have o3:=H2.out.add hb3 (A:=Yv g 1 1 (ZF 0 0 0)) (F:=[g]) ⟨rfl,hs⟩ (by intro x hx;simp at hx;omega)
 have H3:=Qq o3;clear o3 hg hs hb3 H2;have H4:=Qq (((((((H3.out.pick 2 rfl).Qz (l:=[])).Yr 1).Qz (l:=[])).Yr 1).pick 5 rfl).Qz (l:=[Yv g 1 1 (ZF 0 0 0)]))
 clear H3;have o5:=H4.out.add (below_alloc1 w3 (.cells #[.int .i64 1,.slice (some ⟨g,0,none⟩) 1 1] 159)) (A:=zd 2 (some ⟨w3.heap.size,0,none⟩) 1 1 [.int .i64 1,.slice (some ⟨g,0,none⟩) 1 1]) (F:=[w3.heap.size]) ⟨rfl,zT.new 2 1 w3 [.int .i64 1,.slice (some ⟨g,0,none⟩) 1 1] _ rfl (by simp[maxLen]) rfl⟩ (by intro x hx;simp at hx;subst hx;exact Nat.le_refl _)
 have o6:=(((o5.pick 7 rfl).Qz (l:=[])).Yr 1).alloc (EJ none 0 0 none 0 0 none 0 0 ca' ks.length cc' (some ⟨w3.heap.size,0,none⟩)) 115 (b:=w3.heap.size+1) (by simp)
 have H6:Hid (Own w ((w3.alloc (.cells #[.int .i64 1,.slice (some ⟨g,0,none⟩) 1 1] 159)).alloc (.cells #[.slice none 0 0,.slice ca' ks.length cc',.slice (some ⟨w3.heap.size,0,none⟩) 1 1,.slice none 0 0,.slice none 0 0,.slice none 0 0,.int .u64 0,.int .u64 0,.slice none 0 0,.int .i64 0,.int .i64 0] 115)) (VA (w3.heap.size+1) none 0 [] [] none 0 [] [] none 0 [] [] ca' cc' ks (some ⟨w3.heap.size,0,none⟩) g++[ze w.heap.size [.slice fa fs.length fc,.slice ra rooms.length rc,.int .i64 (yr:Int),.slice ca ks.length cc]])):=Qq o6
 clear o5 o6 H4;go_upto_region 2 with fail
 generalize ((w3.alloc (.cells #[.int .i64 1,.slice (some ⟨g,0,none⟩) 1 1] 159)).alloc (.cells #[.slice none 0 0,.slice ca' ks.length cc',.slice (some ⟨w3.heap.size,0,none⟩) 1 1,.slice none 0 0,.slice none 0 0,.slice none 0 0,.int .u64 0,.int .u64 0,.slice none 0 0,.int .i64 0,.int .i64 0] 115))=w6 at *
 generalize w3.heap.size+1=b at *
 generalize w3.heap.size=sa at *;generalize w.heap.size=pb at *;have z0:=(H6.out.zi 10 rfl 0 _ rfl).1
 clear i1 i2 i3 i4;go_wp2_with fail;go_loopw [18] (fun iv wr=>∃i:Nat,∃fA fC fr',i≤fs.length∧iv=.int .i64 i∧Hid (fr'.length=i∧Own w wr (VA b fA fC fr' (fs.take i) none 0 [] [] none 0 [] [] ca' cc' ks (some ⟨sa,0,none⟩) g++[ze pb [.slice fa fs.length fc,.slice ra rooms.length rc,.int .i64 (yr:Int),.slice ca ks.length cc]]))) (fun iv _=>fs.length-(intOf iv).toNat)
 case atStart=>exact⟨0,none,0,[],by omega,rfl,Qq ⟨rfl,H6.out⟩⟩
 case round =>
  obtain⟨i,fA,fC,fr',hi,rfl,hr⟩:=hrel;by_cases hlt:i<fs.length
  ·have hifr:i<fr.length:=by rw[HFL.out];exact hlt
   obtain⟨l,hl⟩:∃l,l=fs[i]:=⟨_,rfl⟩
   have hle:fs[i]?=some l:=by rw[hl];exact List.getElem?_eq_getElem hlt
   obtain⟨r0,hr0⟩:∃r,r=fr[i]:=⟨_,rfl⟩
   have hre:fr[i]?=some r0:=by rw[hr0];exact List.getElem?_eq_getElem hifr
   obtain⟨hrl,ho⟩:=hr.out;obtain⟨e1,e2,e3⟩:=HE.out i r0 l hre hle;obtain⟨r1,rcap⟩:=r0;simp only at e1 e2 e3
   obtain⟨bf,off,rfl,hcf⟩:=HF.out i (.slice r1 l.length rcap) (by unfold Oy;rw[List.getElem?_zipWith,hre,hle])
   have hcf2:=zq hcf ho.bel;have htl:(fs.take i).length=i:=by rw[List.length_take];omega
   have SB:∀(wx:World) (L:List zv),Own w wx L→∀k:Nat,L[k]?=some (ze b (EJ fA (fs.take i).length fC none 0 0 none 0 0 ca' ks.length cc' (some ⟨sa,0,none⟩)))→wx.cell? ⟨b,0,none⟩=some (.slice fA i fC):=fun wx L ho k hk=>by
    have:=(ho.zi k hk 0 _ rfl).1
    rw[htl] at this;exact this
   have HSB:=Qq SB;have o1:=ho.step (zg wr)
   have HCl:=Qq (Qu wr.drew r1 l.length rcap (PE l) (e1.below o1.bel) (Lb l) e2 (Il l) e3)
   have HT:Hid (fs.take (i+1)=fs.take i++[l]):=Qq (by rw[hl];exact List.take_succ_eq_append_getElem hlt)
   have HTL:=Qq htl;have HRL:=Qq hrl;obtain⟨i0,hi0,hz0,hz1,hz2⟩:=info_parts OM;have Hi:=Qq hi0;clear hi0
   have Hz0:=Qq hz0;clear hz0
   have Hz1:=Qq hz1;clear hz1
   have Hz2:=Qq hz2;clear hz2
   have hli:(i:Int)<(fs.length:Int):=by omega
   have hl0:(0:Int)≤(i:Int):=by omega
   generalize hln:l.length=ln at *
   have HLN:=Qq hln;clear hln;clear hl hr0 hre hle e1 e2 e3 hcf SB htl hrl hr hifr;go_upto_region 5 with fail
   refine xg (fun wx=>wx.cell? ⟨b,0,none⟩=some (.slice fA i fC)) 11 12 (Array.replicate 12 false) (by kernel_rfl) (by kernel_rfl) ?_
   refine yw 0 6 _ (Qj 12 63) 6 (by kernel_rfl) za (HSB.out _ _ o1 0 rfl) (by kernel_rfl) ?_
   simp only[QX,QV,QJ];(repeat((first|refine Qx (h:=?_)|refine Qv (h:=?_));simp only[Act.put,QW,QY,QZ]));refine zb ?_;refine yj 6 _ (Qj 12 127) 5 (by kernel_rfl) (fun K hK=>?_)
   have HKK:=Qq hK;clear hK;simp only[QQ,QJ];refine zc (by rfl) ?_;go_simp;refine HCl.out.mono ?_
   rintro r w2 ⟨r1',c1',rfl,hrow,hfr,hb⟩;have o2:=o1.add hb (A:=zd 4 r1' c1' ln (PE l)) (F:=zY r1') ⟨rfl,hrow⟩ hfr
   refine HKK.out _ _ (HSB.out _ _ o2 1 rfl) ?_
   clear HKK K;refine yj 7 _ (Qj 12 255) 4 (by kernel_rfl) (fun K hK=>?_)
   have HKK:=Qq hK;clear hK;simp only[QQ,QJ];refine zc (by rfl) ?_;go_simp;have o3:=o2.step (below_alloc1 _ (.cells #[.slice r1' ln c1'] 87))
   refine HKK.out _ _ (HSB.out _ _ o3 1 rfl) ?_
   clear HKK K;refine yj 8 _ (Qj 12 511) 3 (by kernel_rfl) (fun K hK=>?_)
   have HKK:=Qq hK;clear hK;simp only[QQ,QJ];refine zc (by rfl) ?_;have hrow3:=o3.xl 2 rfl;rw[HTL.out] at hrow3;refine yx (n:=i) (m:=1) (cs:=Oy fr' (fs.take i)) (ds:=[.slice r1' ln c1']) _ _ 62 (by rfl) 87 i0 _ Tryz.underlying62 Hi.out Hz0.out Hz1.out Hz2.out rfl (by omega) (by omega) (by rfl) (by rfl) hrow3 (zr.new _ [.slice r1' ln c1'] _ rfl) rfl (by simp[Value.oneCell']) (by omega) ?_
   intro a9 c9 w9 k9 ch9 f9;have o4:=(Own.yJ (o3.pick 2 rfl) k9 ch9 f9)
   refine HKK.out _ _ (HSB.out _ _ o4 2 rfl) ?_
   clear HKK K;refine xF 9 1 _ (Qj 12 1023) 2 (by kernel_rfl) za (by kernel_rfl) ?_
   simp only[QX,QV,QQ,QJ];(repeat((first|refine Qx (h:=?_)|refine Qv (h:=?_));simp only[Act.put,QW,QY,QZ]));refine zb ?_;refine yw 10 1 _ (Qj 12 2047) 1 (by kernel_rfl) za (HSB.out _ _ o4 2 rfl) (by kernel_rfl) ?_
   simp only[QX,QV,QQ,QJ];(repeat((first|refine Qx (h:=?_)|refine Qv (h:=?_));simp only[Act.put,QW,QY,QZ]));refine zb ?_;obtain⟨z8,f8⟩:=o4.zi 2 rfl 0 _ rfl;have o5:=((((((o4.setAt 2 rfl 0 (.slice a9 (i+1) c9)).pick 1 rfl).pick 3 rfl).pick 1 rfl).Xx).pick 1 rfl).pick 2 rfl
   have H5:=Qq o5;clear o1 o2 o3 o4 o5 k9 ch9 f9 hrow3 hrow hfr hb HSB HCl ho;refine xE 11 _ (Qj 12 4095) 0 (by kernel_rfl) (fun K hK=>?_)
   have HKK:=Qq hK;clear hK;simp only[QQ,QJ];refine zc (by rfl) ?_;go_simp;refine HKK.out _ _ ?_
   clear HKK K;refine xG (by kernel_rfl) (NoPanic.normal ?_) _
   have HFIN:Hid ((fr'++[(r1',c1')]).length=i+1∧Own w (w9.setCell ⟨b,0,none⟩ (.slice a9 (i+1) c9)) (VA b a9 c9 (fr'++[(r1',c1')]) (fs.take (i+1)) none 0 [] [] none 0 [] [] ca' cc' ks (some ⟨sa,0,none⟩) g++[ze pb [.slice (some ⟨bf,off,none⟩) fs.length fc,.slice ra rooms.length rc,.int .i64 (yr:Int),.slice ca ks.length cc]])):=Qq ⟨by simp[HRL.out],by
    have e:(fs.take i++[l]).length=i+1:=by rw[List.length_append,HTL.out];rfl
    rw[HT.out];unfold VA;rw[IE (by rw[HRL.out,HTL.out]),MT (by rw[HRL.out,HTL.out]),e,HLN.out]
    exact H5.out⟩
   clear H5 HT HTL HRL HLN;go_wp2;exact⟨⟨i+1,a9,c9,_,by omega,by go_num,HFIN⟩,by simp[intOf];omega⟩
  ·have hge:¬(i:Int)<(fs.length:Int):=by omega
   obtain rfl:i=fs.length:=by omega
   have HR1:Hid (fr'.length=fs.length∧Own w wr (VA b fA fC fr' fs none 0 [] [] none 0 [] [] ca' cc' ks (some ⟨sa,0,none⟩) g++[ze pb [.slice fa fs.length fc,.slice ra rooms.length rc,.int .i64 (yr:Int),.slice ca ks.length cc]])):=Qq (by
    have:=hr.out
    rw[List.take_length] at this;exact this)
   obtain⟨z1,-⟩:=HR1.out.2.zi 10 rfl 1 _ rfl;clear hr;go_wp2_with fail;go_loopw [37] (fun iv wr=>∃i:Nat,∃hA hC pa,i≤rooms.length∧iv=.int .i64 i∧Hid (pa.length=i∧Own w wr (VA b fA fC fr' fs hA hC (List.zip pa ((rooms.take i).map Zz)) ((rooms.take i).map fun _=>⟨[],[],[],false⟩) none 0 [] [] ca' cc' ks (some ⟨sa,0,none⟩) g++[ze pb [.slice fa fs.length fc,.slice ra rooms.length rc,.int .i64 (yr:Int),.slice ca ks.length cc]]))) (fun iv _=>rooms.length-(intOf iv).toNat)
   case atStart=>exact⟨0,none,0,[],by omega,rfl,Qq ⟨rfl,HR1.out.2⟩⟩
   case round =>
    obtain⟨i,hA,hC,pa,hi,rfl,hr⟩:=hrel;by_cases hlt:i<rooms.length
    ·obtain⟨z,hz⟩:∃z,z=rooms[i]:=⟨_,rfl⟩
     have hze:rooms[i]?=some z:=by rw[hz];exact List.getElem?_eq_getElem hlt
     obtain⟨hrl,ho⟩:=hr.out;obtain⟨bf,off,rfl,hcf⟩:=HC.out i (.int .i64 z) (by rw[xK,hze];rfl)
     have hcf2:=zq hcf ho.bel;have htl:((rooms.take i).map fun _=>(⟨[],[],[],false⟩:Ch)).length=i:=by rw[List.length_map,List.length_take];omega
     have hzl:(List.zip pa ((rooms.take i).map Zz)).length=i:=by rw[List.length_zip,List.length_map,List.length_take];omega
     have SB:∀(wx:World) (L:List zv),Own w wx L→∀k:Nat,L[k]?=some (ze b (EJ fA fs.length fC hA ((rooms.take i).map fun _=>(⟨[],[],[],false⟩:Ch)).length hC none 0 0 ca' ks.length cc' (some ⟨sa,0,none⟩)))→wx.cell? ⟨b,3,none⟩=some (.slice hA i hC):=fun wx L ho k hk=>by
      have:=(ho.zi k hk 3 _ rfl).1
      rw[htl] at this;exact this
     have HSB:=Qq SB;have o1:=ho.step (zg wr)
     have HCl:=Qq (Lm o1 z)
     have HT:Hid (rooms.take (i+1)=rooms.take i++[z]):=Qq (by rw[hz];exact List.take_succ_eq_append_getElem hlt)
     have HTL:=Qq htl;have HRL:=Qq hrl;have HZL:=Qq hzl;obtain⟨i0,hi0,hz0,hz1,hz2⟩:=info_parts MU;have Hi:=Qq hi0;clear hi0
     have Hz0:=Qq hz0;clear hz0
     have Hz1:=Qq hz1;clear hz1
     have Hz2:=Qq hz2;clear hz2
     have hli:(i:Int)<(rooms.length:Int):=by omega
     have hl0:(0:Int)≤(i:Int):=by omega
     clear hz hze hcf SB htl hrl hr hzl;go_upto_region 10 with fail
     refine xg (fun wx=>wx.cell? ⟨b,3,none⟩=some (.slice hA i hC)) 11 12 (Array.replicate 12 false) (by kernel_rfl) (by kernel_rfl) ?_
     refine yw 0 6 _ (Qj 12 63) 6 (by kernel_rfl) za (HSB.out _ _ o1 0 rfl) (by kernel_rfl) ?_
     simp only[QX,QV,QJ];(repeat((first|refine Qx (h:=?_)|refine Qv (h:=?_));simp only[Act.put,QW,QY,QZ]));refine zb ?_;refine yj 6 _ (Qj 12 127) 5 (by kernel_rfl) (fun K hK=>?_)
     have HKK:=Qq hK;clear hK;simp only[QQ,QJ];refine zc (by rfl) ?_;go_simp;refine HCl.out.mono ?_
     rintro r w2 ⟨pt,rfl,o2,hb⟩;refine HKK.out _ _ (HSB.out _ _ o2 1 rfl) ?_
     clear HKK K;refine yj 7 _ (Qj 12 255) 4 (by kernel_rfl) (fun K hK=>?_)
     have HKK:=Qq hK;clear hK;simp only[QQ,QJ];refine zc (by rfl) ?_;go_simp;have o3:=o2.step (below_alloc1 _ (.cells #[.pointer (some ⟨pt,0,none⟩)] 165))
     refine HKK.out _ _ (HSB.out _ _ o3 1 rfl) ?_
     clear HKK K;refine yj 8 _ (Qj 12 511) 3 (by kernel_rfl) (fun K hK=>?_)
     have HKK:=Qq hK;clear hK;simp only[QQ,QJ];refine zc (by rfl) ?_;have hrow3:=o3.xl 7 rfl;rw[HTL.out] at hrow3;refine yx (n:=i) (m:=1) (cs:=xT (List.zip pa ((rooms.take i).map Zz))) (ds:=[.pointer (some ⟨pt,0,none⟩)]) _ _ 109 (by rfl) 165 i0 _ Tryz.underlying109 Hi.out Hz0.out Hz1.out Hz2.out rfl (by omega) (by omega) (by rfl) (by rfl) hrow3 (zr.new _ [.pointer (some ⟨pt,0,none⟩)] _ rfl) rfl (by simp[Value.oneCell']) (by omega) ?_
     intro a9 c9 w9 k9 ch9 f9;have o4:=(Own.yJ (o3.pick 7 rfl) k9 ch9 f9)
     refine HKK.out _ _ (HSB.out _ _ o4 2 rfl) ?_
     clear HKK K;refine xF 9 1 _ (Qj 12 1023) 2 (by kernel_rfl) za (by kernel_rfl) ?_
     simp only[QX,QV,QQ,QJ];(repeat((first|refine Qx (h:=?_)|refine Qv (h:=?_));simp only[Act.put,QW,QY,QZ]));refine zb ?_;refine yw 10 1 _ (Qj 12 2047) 1 (by kernel_rfl) za (HSB.out _ _ o4 2 rfl) (by kernel_rfl) ?_
     simp only[QX,QV,QQ,QJ];(repeat((first|refine Qx (h:=?_)|refine Qv (h:=?_));simp only[Act.put,QW,QY,QZ]));refine zb ?_;obtain⟨z8,f8⟩:=o4.zi 2 rfl 3 _ rfl;have o5:=((((((((((((o4.setAt 2 rfl 3 (.slice a9 (i+1) c9)).pick 1 rfl).pick 8 rfl).pick 1 rfl).Xx).pick 1 rfl).pick 7 rfl).pick 7 rfl).pick 7 rfl).pick 7 rfl).pick 7 rfl).pick 7 rfl)
     have H5:=Qq o5;clear o1 o2 o3 o4 o5 k9 ch9 f9 hrow3 hb HSB HCl ho;refine xE 11 _ (Qj 12 4095) 0 (by kernel_rfl) (fun K hK=>?_)
     have HKK:=Qq hK;clear hK;simp only[QQ,QJ];refine zc (by rfl) ?_;go_simp;refine HKK.out _ _ ?_
     clear HKK K;refine xG (by kernel_rfl) (NoPanic.normal ?_) _
     have HFIN:Hid ((pa++[pt]).length=i+1∧Own w (w9.setCell ⟨b,3,none⟩ (.slice a9 (i+1) c9)) (VA b fA fC fr' fs a9 c9 (List.zip (pa++[pt]) ((rooms.take (i+1)).map Zz)) ((rooms.take (i+1)).map fun _=>(⟨[],[],[],false⟩:Ch)) none 0 [] [] ca' cc' ks (some ⟨sa,0,none⟩) g++[ze pb [.slice fa fs.length fc,.slice (some ⟨bf,off,none⟩) rooms.length rc,.int .i64 (yr:Int),.slice ca ks.length cc]])):=Qq ⟨by simp[HRL.out],by
      have e:(((rooms.take i).map fun _=>(⟨[],[],[],false⟩:Ch))++[(⟨[],[],[],false⟩:Ch)]).length=i+1:=by rw[List.length_append,HTL.out];rfl
      have e2:List.zip (pa++[pt]) ((rooms.take i).map Zz++[Zz z])=(List.zip pa ((rooms.take i).map Zz))++[(pt,Zz z)]:=List.zip_append (by rw[HRL.out,List.length_map,List.length_take];have:=hi;omega)
      rw[HT.out,List.map_append,List.map_append];unfold VA;rw[show List.map Zz [z]=[Zz z] from rfl,show List.map (fun _=>(⟨[],[],[],false⟩:Ch)) [z]=[(⟨[],[],[],false⟩:Ch)] from rfl,e2,LR,Iz (by rw[HZL.out,HTL.out]),e]
      exact H5.out⟩
     clear H5 HT HTL HRL HZL;go_wp2;exact⟨⟨i+1,a9,c9,_,by omega,by go_num,HFIN⟩,by simp[intOf];omega⟩
    ·have hge:¬(i:Int)<(rooms.length:Int):=by omega
     obtain rfl:i=rooms.length:=by omega
     have HR2:Hid (pa.length=rooms.length∧Own w wr (VA b fA fC fr' fs hA hC (List.zip pa (rooms.map Zz)) (rooms.map fun _=>(⟨[],[],[],false⟩:Ch)) none 0 [] [] ca' cc' ks (some ⟨sa,0,none⟩) g++[ze pb [.slice fa fs.length fc,.slice ra rooms.length rc,.int .i64 (yr:Int),.slice ca ks.length cc]])):=Qq (by
      have:=hr.out
      rw[List.take_length] at this;exact this)
     obtain⟨z1,-⟩:=HR2.out.2.zi 10 rfl 2 _ rfl;have HCL:Hid ((rooms.map fun _=>(⟨[],[],[],false⟩:Ch)).length=rooms.length):=Qq (by simp)
     have HFR:Hid (fr'.length=fs.length):=Qq HR1.out.1
     clear hr HR1;generalize hZP:(List.zip pa (rooms.map Zz))=zp at *
     generalize hCP:(rooms.map fun _=>(⟨[],[],[],false⟩:Ch))=cp at *
     have HZP:=Qq hZP;have HCP:=Qq hCP;clear hZP hCP;go_wp2_with fail;go_loopw [55] (fun iv wr=>∃i:Nat,∃lA lC lp,i≤yr∧iv=.int .i64 i∧Hid (lp.length=i∧Own w wr (VA b fA fC fr' fs hA hC zp cp lA lC lp (List.replicate i []) ca' cc' ks (some ⟨sa,0,none⟩) g++[ze pb [.slice fa fs.length fc,.slice ra rooms.length rc,.int .i64 (yr:Int),.slice ca ks.length cc]]))) (fun iv _=>yr-(intOf iv).toNat)
     case atStart=>exact⟨0,none,0,[],by omega,rfl,Qq ⟨rfl,HR2.out.2⟩⟩
     case round =>
      obtain⟨i,lA,lC,lp,hi,rfl,hr⟩:=hrel;by_cases hlt:i<yr
      ·obtain⟨hrl,ho⟩:=hr.out
       have htl:(List.replicate i ([]:List Int)).length=i:=List.length_replicate
       have SB:∀(wx:World) (L:List zv),Own w wx L→∀k:Nat,L[k]?=some (ze b (EJ fA fs.length fC hA cp.length hC lA (List.replicate i ([]:List Int)).length lC ca' ks.length cc' (some ⟨sa,0,none⟩)))→wx.cell? ⟨b,4,none⟩=some (.slice lA i lC):=fun wx L ho k hk=>by
        have:=(ho.zi k hk 4 _ rfl).1
        rw[htl] at this;exact this
       have HSB:=Qq SB;have o1:=ho.step (zg wr)
       have HTL:=Qq htl;have HRL:=Qq hrl;obtain⟨i0,hi0,hz0,hz1,hz2⟩:=info_parts LJ;have Hi:=Qq hi0;clear hi0
       have Hz0:=Qq hz0;clear hz0
       have Hz1:=Qq hz1;clear hz1
       have Hz2:=Qq hz2;clear hz2
       have hli:(i:Int)<(yr:Int):=by omega
       have hl0:(0:Int)≤(i:Int):=by omega
       clear SB htl hrl hr;go_upto_region 14 with fail
       refine xg (fun wx=>wx.cell? ⟨b,4,none⟩=some (.slice lA i lC)) 10 11 (Array.replicate 11 false) (by kernel_rfl) (by kernel_rfl) ?_
       refine yw 0 5 _ (Qj 11 31) 6 (by kernel_rfl) za (HSB.out _ _ o1 0 rfl) (by kernel_rfl) ?_
       simp only[QX,QV,QJ];(repeat((first|refine Qx (h:=?_)|refine Qv (h:=?_));simp only[Act.put,QW,QY,QZ]));refine zb ?_;refine yj 5 _ (Qj 11 63) 5 (by kernel_rfl) (fun K hK=>?_)
       have HKK:=Qq hK;clear hK;simp only[QQ,QJ];refine zc (by rfl) ?_;go_simp;refine(MJ _).mono ?_
       rintro r w2 ⟨pt,rfl,hk1,hk2,hb⟩;have o2:=o1.add hb (A:=Ye pt []) (F:=[pt]) hk1 (by intro x hx;simp at hx;omega)
       refine HKK.out _ _ (HSB.out _ _ o2 1 rfl) ?_
       clear HKK K;refine yj 6 _ (Qj 11 127) 4 (by kernel_rfl) (fun K hK=>?_)
       have HKK:=Qq hK;clear hK;simp only[QQ,QJ];refine zc (by rfl) ?_;go_simp;have o3:=o2.step (below_alloc1 _ (.cells #[.pointer (some ⟨pt,0,none⟩)] 167))
       refine HKK.out _ _ (HSB.out _ _ o3 1 rfl) ?_
       clear HKK K;refine yj 7 _ (Qj 11 255) 3 (by kernel_rfl) (fun K hK=>?_)
       have HKK:=Qq hK;clear hK;simp only[QQ,QJ];refine zc (by rfl) ?_;have hrow3:=o3.xl 9 rfl;rw[HTL.out] at hrow3;refine yx (n:=i) (m:=1) (cs:=W8 lp) (ds:=[.pointer (some ⟨pt,0,none⟩)]) _ _ 110 (by rfl) 167 i0 _ Tryz.underlying110 Hi.out Hz0.out Hz1.out Hz2.out rfl (by omega) (by omega) (by rfl) (by rfl) hrow3 (zr.new _ [.pointer (some ⟨pt,0,none⟩)] _ rfl) rfl (by simp[Value.oneCell']) (by omega) ?_
       intro a9 c9 w9 k9 ch9 f9;have o4:=(Own.yJ (o3.pick 9 rfl) k9 ch9 f9)
       refine HKK.out _ _ (HSB.out _ _ o4 2 rfl) ?_
       clear HKK K;refine xF 8 1 _ (Qj 11 511) 2 (by kernel_rfl) za (by kernel_rfl) ?_
       simp only[QX,QV,QQ,QJ];(repeat((first|refine Qx (h:=?_)|refine Qv (h:=?_));simp only[Act.put,QW,QY,QZ]));refine zb ?_;refine yw 9 1 _ (Qj 11 1023) 1 (by kernel_rfl) za (HSB.out _ _ o4 2 rfl) (by kernel_rfl) ?_
       simp only[QX,QV,QQ,QJ];(repeat((first|refine Qx (h:=?_)|refine Qv (h:=?_));simp only[Act.put,QW,QY,QZ]));refine zb ?_;obtain⟨z8,f8⟩:=o4.zi 2 rfl 4 _ rfl;have o5:=((((((((((((((o4.setAt 2 rfl 4 (.slice a9 (i+1) c9)).pick 1 rfl).pick 10 rfl).pick 1 rfl).Xx).pick 1 rfl).pick 9 rfl).pick 9 rfl).pick 9 rfl).pick 9 rfl).pick 9 rfl).pick 9 rfl).pick 9 rfl).pick 9 rfl)
       have H5:=Qq o5;clear o1 o2 o3 o4 o5 k9 ch9 f9 hrow3 hb hk1 hk2 HSB ho;refine xE 10 _ (Qj 11 2047) 0 (by kernel_rfl) (fun K hK=>?_)
       have HKK:=Qq hK;clear hK;simp only[QQ,QJ];refine zc (by rfl) ?_;go_simp;refine HKK.out _ _ ?_
       clear HKK K;refine xG (by kernel_rfl) (NoPanic.normal ?_) _
       have HFIN:Hid ((lp++[pt]).length=i+1∧Own w (w9.setCell ⟨b,4,none⟩ (.slice a9 (i+1) c9)) (VA b fA fC fr' fs hA hC zp cp a9 c9 (lp++[pt]) (List.replicate (i+1) []) ca' cc' ks (some ⟨sa,0,none⟩) g++[ze pb [.slice fa fs.length fc,.slice ra rooms.length rc,.int .i64 (yr:Int),.slice ca ks.length cc]])):=Qq ⟨by simp[HRL.out],by
        rw[List.replicate_succ']
        have e:(List.replicate i ([]:List Int)++[[]]).length=i+1:=by rw[List.length_append,HTL.out];rfl
        unfold VA;rw[Le,Jp (by rw[HRL.out,HTL.out]),e]
        exact H5.out⟩
       clear H5 HTL HRL;go_wp2;exact⟨⟨i+1,a9,c9,_,by omega,by go_num,HFIN⟩,by simp[intOf];omega⟩
      ·have hge:¬(i:Int)<(yr:Int):=by omega
       obtain rfl:i=yr:=by omega
       have h0:=hr.out.2;have hk:=(h0.xl 3 rfl).2.1
       have h1:=Mk (((((h0.pick 10 rfl).drop).pick 3 rfl).pick 3 rfl).pick 3 rfl)
       have h2:=((h1.pick 1 rfl).Yr 1).add (Below.refl _ _) (A:=xv (.slice none 0 0) []) (F:=[]) ⟨rfl,World.ownsRow_nil _ _ _ _⟩ (fun x hx=>by simp at hx)
       have h3:=(((((((h2.pick 9 rfl).pick 9 rfl).pick 9 rfl).pick 9 rfl).pick 9 rfl).pick 9 rfl).pick 9 rfl).pick 9 rfl
       have hrl:=hr.out.1;have hpl:=HR2.out.1;have hfl:=HFR.out;have e1:=HZP.out;have e2:=HCP.out;subst e1 e2;have HE3:Hid ((⟨fA,fC,fr',ca',cc',some ⟨sa,0,none⟩,1,[(g,1)],hA,hC,pa,lA,lC,lp,.slice none 0 0,none,0⟩:Wa).fits (Za fs ks rooms i)∧Own w wr (zj b (Za fs ks rooms i) ⟨fA,fC,fr',ca',cc',some ⟨sa,0,none⟩,1,[(g,1)],hA,hC,pa,lA,lC,lp,.slice none 0 0,none,0⟩ [])) :=
        Qq ⟨⟨hfl,rfl,by simp[Za,hpl],by simp[Za],by simp[Za,hrl],hk⟩,h3⟩
       clear h0 h1 h2 h3 hk hr HR2;go_wp2;go_ret;exact⟨_,rfl,_,HE3.out⟩
def Xg (p:Nat)(W:Wd)(T:List Value):zv where
 at_ w F:=∃D:Wa,D.fits W∧Sep w (zj p W D T) F
 lt:=by rintro w F ⟨D,-,h⟩;exact h.lt
 yE:=by rintro w w' F G ⟨D,h1,h⟩ c hd;exact⟨D,h1,h.yE c hd⟩
theorem Own.Hd {w0 w:World}{p:Nat}{W:Wd}{T:List Value}{R:List zv}(h:Own w0 w (Xg p W T::R)):∃D:Wa,D.fits W∧Own w0 w (zj p W D T++R):=by
 obtain⟨As,⟨D,hf,rfl⟩,h1⟩:=Own.unfold h (P:=fun As=>∃D:Wa,D.fits W∧As=zj p W D T) (fun F ⟨D,hf,hF⟩=>⟨_,⟨D,hf,rfl⟩,hF⟩)
 exact⟨D,hf,h1⟩
theorem Own.Ti {w0 w:World}{p:Nat}{W:Wd}{T:List Value}{R:List zv}{D:Wa}(hf:D.fits W)(h:Own w0 w (zj p W D T++R)):Own w0 w (Xg p W T::R):=Own.fold h (fun F hF=>⟨D,hf,hF⟩)
theorem Own.VD {w0 w:World}{R:List zv}(s:Nat)(h:Own w0 w R):Own w0 w (zd s none 0 0 []::R):=h.add (Below.refl _ _) (F:=[]) ⟨rfl,zT.nil s w⟩ (by intro x hx;simp at hx)
theorem Own.Ob {w0 w:World}{p:Nat}{W:Wd}{T:List Value}{R:List zv}{A:zv}{D:Wa}(hf:D.fits W)(h:Own w0 w (A::(zj p W D T++R))):Own w0 w (A::Xg p W T::R):=by
 have h1:Own w0 w (zj p W D T++(A::R)):=h.perm (by
  have:=(List.perm_middle (a:=A) (l₁:=zj p W D T) (l₂:=R)).symm
  exact this)
 have h2:=Own.Ti hf h1;exact h2.perm (List.Perm.swap _ _ _)
theorem Q2 {B:Nat}{W:Wd}(wf:WF B W){g:Int}(h:W.lets g→xJ W ((W.ins g.toNat).getD (0,0,0,0))=0)(u v:Int):zR W g u=zR W g v:=by
 unfold zR;by_cases hl:W.lets g
 ·rw[if_pos hl,if_pos hl]
  have hk:Sx W ((W.ins g.toNat).getD (0,0,0,0)):=by
   cases hx:W.ins g.toNat with
   | none=>exact⟨fun e=>absurd e (by decide),fun e=>absurd e (by decide)⟩
   | some x =>
    obtain⟨k1,-,-⟩:=wf.VZ hx;exact⟨fun e=>⟨k1.Nc (.inr (.inr e)),by have:=wf.p.kl;omega,k1.VX (.inr (.inr e)) wf.p.ck⟩,fun e=>by have:=k1.o21 e;simp only[Option.getD_some] at *;omega⟩
  simp only[Tl hk (h hl)]
 ·rw[if_neg hl,if_neg hl]
def Hl (w0:World)(p:Nat)(T:List Value)(W:Wd)(g:Int)(R:List zv)(Qd:Int→List zv→Prop)(Qp:Ending→List zv→Prop)(r:Ending)(w':World):Prop :=
 (∃v R' ra rc,((¬W.lets g∨xJ W ((W.ins g.toNat).getD (0,0,0,0))=0)∧R'=R∨(W.lets g∧1≤xJ W ((W.ins g.toNat).getD (0,0,0,0)))∧Qd v R') ∧
  r=.returned (.agg #[.bool (zR W g v).2.1,.slice ra (zR W g v).2.2.length rc])∧Own w0 w' (zd 1 ra rc (zR W g v).2.2.length (zt (zR W g v).2.2)::Xg p (zR W g v).1 T::R')) ∨
 (∃chain R',r=.panicked chain∧(W.lets g∧1≤xJ W ((W.ins g.toNat).getD (0,0,0,0)))∧Qp r R'∧Own w0 w' (Xg p W T::R'))
theorem Gf {w0 w:World}{p:Nat}{T:List Value}{W:Wd}{R:List zv}{F:Nat}{fst cap:Array Value}{Qd:Int→List zv→Prop}{Qp:Ending→List zv→Prop}{B:Nat}(h:Own w0 w (Xg p W T::R))(wf:WF B W)(hB:B≤80000)(g:Int)
  (en:∀(args:Array Value) (w:World),(callFunc F args).run Tryz.prog w=.ok (.enter F args) w) (hd:W.lets g→1≤xJ W ((W.ins g.toNat).getD (0,0,0,0))→Xm w0 p T W F fst cap (Vi ((W.ins g.toNat).getD (0,0,0,0))) (xJ W ((W.ins g.toNat).getD (0,0,0,0)):Int) R Qd Qp) :
  Calls Tryz.prog 85 #[.pointer (some ⟨p,0,none⟩),.int .i64 g,.func (.func F) fst cap] w fun r w'=>Hl w0 p T W g R Qd Qp r w':=by
 obtain⟨D,hf,ho⟩:=h.Hd;by_cases hl:W.lets g
 ·obtain⟨k,rfl⟩:∃k:Nat,g=(k:Int):=⟨g.toNat,by have:=hl.2.1;omega⟩
  have hl2:=hl;refine(Kc (Qd:=Qd) (Qp:=Qp) ho hf k (wf.Fv hB hl) en (hd hl)).mono (fun r w' hh=>?_)
  rcases hh with⟨v,R',D',ra,rc,hq,h1,h2,h3⟩|⟨D',ch,R',h1,h2,h3,h4,h5⟩
  ·refine .inl ⟨v,R',ra,rc,?_,h1,Own.Ob h2 h3⟩
   rcases hq with⟨a,b⟩|⟨a,b⟩
   ·exact .inl ⟨.inr a,b⟩
   ·exact .inr ⟨⟨hl2,a⟩,b⟩
  ·exact .inr ⟨ch,R',h1,⟨hl2,h2⟩,h3,Own.Ti h4 h5⟩
 ·refine(Jc ho hf g hl (.func (.func F) fst cap)).mono (fun r w' hh=>?_)
  have e:zR W g 0=(W,false,[]):=by unfold zR;rw[if_neg hl]
  refine .inl ⟨0,R,none,0,.inl ⟨.inl hl,rfl⟩,?_,?_⟩
  ·rw[e];exact hh.1
  ·rw[e];exact Own.VD 1 (Own.Ti hf hh.2)
section
variable {w0 w:World} {p:Nat} {W:Wd} {T:List Value} {R:List zv}
theorem Ej (h:Own w0 w (Xg p W T::R)):Calls Tryz.prog 34 #[.pointer (some ⟨p,0,none⟩)] w fun r w'=>r=.returned (.int .i64 (W.gs.length:Int))∧w'=w:=by
 obtain⟨D,hf,ho⟩:=h.Hd;exact KH ho
theorem Hm (h:Own w0 w (Xg p W T::R)):Calls Tryz.prog 25 #[.pointer (some ⟨p,0,none⟩)] w fun r w'=>r=.returned (.tuple #[.int .i64 W.en,.int .i64 W.why])∧∃k,w'=w.drewN k:=by
 obtain⟨D,hf,ho⟩:=h.Hd;exact MH ho
theorem Rp (h:Own w0 w (Xg p W T::R))(g:Int):Calls Tryz.prog 35 #[.pointer (some ⟨p,0,none⟩),.int .i64 g] w fun r w'=>r=.returned (.int .i64 (xm W g))∧w'=w:=by
 obtain⟨D,hf,ho⟩:=h.Hd;exact X9 ho hf g
end
theorem Eh (w:World)(fa:Option Addr)(fc:Nat)(fr:List (Option Addr×Nat))(fs:List (List yq))(ra:Option Addr)(rc:Nat)(rooms:List Int)(yr:Nat)(ca:Option Addr)(cc:Nat)(ks:List Zm)(hp:Xe w fa fr fs ra rooms ca cc ks)(hlk:yr≤1000) :
  Calls Tryz.prog 37 #[.agg #[.slice fa fs.length fc,.slice ra rooms.length rc,.int .i64 (yr:Int),.slice ca ks.length cc]] w fun r w'=>∃b,r=.returned (.pointer (some ⟨b,0,none⟩))∧Own w w' [Xg b (Za fs ks rooms yr) []]:=by
 refine(MP w fa fc fr fs ra rc rooms yr ca cc ks hp hlk).mono (fun r w' hh=>?_)
 obtain⟨b,D,h1,hf,ho⟩:=hh;exact⟨b,h1,Own.Ti (R:=[]) hf (by rw[List.append_nil];exact ho)⟩
end Go.Proofs.YtlkjheheofgdgaaGreat
open Go Go.RowKit
namespace Go.Proofs.YtlkjheheofgdgaaGreat
structure Sa where
 D:Wa
 pa:Option Addr
 pc:Nat
 ld:List (Nat×Nat)
 ma:Option Addr
 mc:Nat
 ga:Option Addr
 gc:Nat
def Kq (l:Nat×Nat)(P:Pm):Qd:=⟨l.1,l.2,P.N,P.q,none,0⟩
def WY (ld:List (Nat×Nat))(ps:List Pm):List Qd:=List.zipWith Kq ld ps
def FE (x:(Nat×Nat)×Pm):List Value:=[.pointer (some ⟨x.1.1,0,none⟩),.int .i64 (x.2.tu:Int),.int .i64 x.2.by_]
def YK (ld:List (Nat×Nat))(ps:List Pm):List Value:=(List.zip ld ps).flatMap FE
def KX (M:Mm):List Value:=[.int .i64 M.P,.int .i64 M.G,.int .i64 M.L]
def Ys (ms:List Mm):List Value:=ms.flatMap KX
def UI (sp:Nat)(X:Sd)(S:Sa):List Value:=[.pointer (some ⟨sp,0,none⟩),.slice S.pa X.ps.length S.pc,.slice S.ma X.ms.length S.mc,.slice S.ga X.gl.length S.gc,.int .i64 X.sl,.int .i64 (X.st:Int)]
def KW (W:Wd)(D:Wa):List zv:=(zj 0 W D []).tail
theorem U5 (p:Nat)(W:Wd)(D:Wa)(T:List Value):zj p W D T=ze p (yH W D++T)::KW W D:=rfl
def yV (b sp:Nat)(X:Sd)(S:Sa):List zv :=
 [ze b (yH X.W S.D++UI sp X S),zd 3 S.pa S.pc X.ps.length (YK S.ld X.ps),yD (Y6 (WY S.ld X.ps)),zd 3 S.ma S.mc X.ms.length (Ys X.ms),zd 1 S.ga S.gc X.gl.length (zt X.gl),yD (KW X.W S.D)]
structure Sa.fits (S:Sa) (X:Sd):Prop where
 w:S.D.fits X.W
 l:S.ld.length=X.ps.length
def Zb (b sp:Nat)(X:Sd):zv where
 at_ w F:=∃S:Sa,S.fits X∧Sep w (yV b sp X S) F
 lt:=by rintro w F ⟨S,-,h⟩;exact h.lt
 yE:=by rintro w w' F G ⟨S,h1,h⟩ c hd;exact⟨S,h1,h.yE c hd⟩
section
variable {w0 w:World} {b sp:Nat} {X:Sd} {R:List zv}
theorem Own.Dj (h:Own w0 w (Zb b sp X::R)):∃S:Sa,S.fits X∧Own w0 w (yV b sp X S++R):=by
 obtain⟨As,⟨S,hf,rfl⟩,h1⟩:=Own.unfold h (P:=fun As=>∃S:Sa,S.fits X∧As=yV b sp X S) (fun F ⟨S,hf,hF⟩=>⟨_,⟨S,hf,rfl⟩,hF⟩)
 exact⟨S,hf,h1⟩
theorem Own.FX {S:Sa}(hf:S.fits X)(h:Own w0 w (yV b sp X S++R)):Own w0 w (Zb b sp X::R):=Own.fold h (fun F hF=>⟨S,hf,hF⟩)
def WU (X:Sd)(S:Sa):List zv:=[zd 3 S.pa S.pc X.ps.length (YK S.ld X.ps),yD (Y6 (WY S.ld X.ps)),zd 3 S.ma S.mc X.ms.length (Ys X.ms),zd 1 S.ga S.gc X.gl.length (zt X.gl)]
theorem Own.Dl {S:Sa}(hf:S.fits X)(h:Own w0 w (yV b sp X S++R)):Own w0 w (Xg b X.W (UI sp X S)::(WU X S++R)):=by
 have h1:Own w0 w (yD (KW X.W S.D)::ze b (yH X.W S.D++UI sp X S)::(WU X S++R)):=h.pick 5 rfl
 have h2:=h1.FL;refine Own.Ti hf.w (T:=UI sp X S) (h2.perm ?_)
 rw[U5];exact List.perm_middle
theorem Own.Di {S:Sa}{W':Wd}(hl:S.ld.length=X.ps.length)(h:Own w0 w (Xg b W' (UI sp X S)::(WU X S++R))):∃D',(Sa.fits { S with D:=D' } { X with W:=W' })∧Own w0 w (yV b sp { X with W:=W' } { S with D:=D' }++R):=by
 obtain⟨D',hD,h1⟩:=h.Hd;rw[U5] at h1;refine⟨D',⟨hD,hl⟩,?_⟩
 have h2:Own w0 w (KW W' D'++(ze b (yH W' D'++UI sp X S)::(WU X S++R))):=h1.perm List.perm_middle.symm
 have h3:Own w0 w (yD (KW W' D')::ze b (yH W' D'++UI sp X S)::(WU X S++R)):=Own.Qz h2
 exact h3.back (As:=ze b (yH W' D'++UI sp X S)::zd 3 S.pa S.pc X.ps.length (YK S.ld X.ps)::yD (Y6 (WY S.ld X.ps))::zd 3 S.ma S.mc X.ms.length (Ys X.ms)::zd 1 S.ga S.gc X.gl.length (zt X.gl)::yD (KW W' D')::R) (i:=5) (by simp)
def Ur (b sp:Nat)(X:Sd)(S:Sa):Gp :=
 {b:=b,c0:=.slice S.D.fa X.W.fs.length S.D.fc,c1:=.slice S.D.ca X.W.ks.length S.D.cc,c2:=.slice S.D.aa X.W.gs.length S.D.ac,c3:=.slice S.D.ha X.W.Cs.length S.D.hc,c4:=.slice S.D.la X.W.Ls.length S.D.lc,c5:=S.D.sv,
  c6:=.int .u64 (X.W.nx:Int),c7:=.int .u64 (X.W.clock:Int),c8:=.slice S.D.oa X.W.out.length S.D.oc,c9:=.int .i64 X.W.en,c10:=.int .i64 X.W.why,ZP:=.pointer (some ⟨sp,0,none⟩),Zw:=.slice S.pa X.ps.length S.pc,xS:=.slice S.ma X.ms.length S.mc,T:=[.int .i64 X.sl,.int .i64 (X.st:Int)] }
theorem Own.En {g:Gp}{a:Option Addr}{c:Nat}{gl:List Int}(h:Own w0 w (ze g.b (g.cs (.slice a gl.length c))::zd 1 a c gl.length (zt gl)::R)):Own w0 w (Ya g gl::R):=by
 refine Own.fold (As:=[ze g.b (g.cs (.slice a gl.length c)),zd 1 a c gl.length (zt gl)]) h ?_
 rintro F ⟨F1,F2,rfl,⟨rfl,hb,hB⟩,hd,F3,F4,rfl,⟨rfl,hr⟩,-,rfl⟩
 refine⟨a,c,by simp,?_,hB,(zT.Lq hr).1⟩
 have:=hd g.b (by simp)
 simpa using this
theorem Own.EM {g:Gp}{gl:List Int}(h:Own w0 w (Ya g gl::R)):∃a c,Own w0 w (ze g.b (g.cs (.slice a gl.length c))::zd 1 a c gl.length (zt gl)::R):=by
 obtain⟨As,⟨a,c,rfl⟩,h1⟩:=Own.unfold h (P:=fun As=>∃a c,As=[ze g.b (g.cs (.slice a gl.length c)),zd 1 a c gl.length (zt gl)]) (fun F hF=>by
  obtain⟨a,c,rfl,h2,h3,h4⟩:=hF;exact⟨_,⟨a,c,rfl⟩,[g.b],zY a,by simp,⟨rfl,h3.lt (by simp[Gp.cs]),h3⟩,fun x hx hc=>by simp at hx;subst hx;exact h2 hc,zY a,[],by simp,⟨rfl,zT.L5 h4⟩,fun x hx=>by simp,rfl⟩)
 exact⟨a,c,h1⟩
theorem LU (b sp:Nat)(X:Sd)(S:Sa):(Ur b sp X S).cs (.slice S.ga X.gl.length S.gc)=yH X.W S.D++UI sp X S:=rfl
def OT (X:Sd)(S:Sa):List zv:=[zd 3 S.pa S.pc X.ps.length (YK S.ld X.ps),zd 3 S.ma S.mc X.ms.length (Ys X.ms),yD (KW X.W S.D)]
theorem Own.EP {S:Sa}(h:Own w0 w (yV b sp X S++R)):Own w0 w (Ya (Ur b sp X S) X.gl::yD (Y6 (WY S.ld X.ps))::(OT X S++R)):=by
 have h1:Own w0 w (ze b ((Ur b sp X S).cs (.slice S.ga X.gl.length S.gc))::zd 1 S.ga S.gc X.gl.length (zt X.gl)::yD (Y6 (WY S.ld X.ps))::(OT X S++R)):=by
  rw[LU];refine h.perm ?_
  show List.Perm (ze b _::zd 3 _ _ _ _::yD _::zd 3 _ _ _ _::zd 1 _ _ _ _::yD _::R) (ze b _::zd 1 _ _ _ _::yD _::zd 3 _ _ _ _::zd 3 _ _ _ _::yD _::R)
  refine List.Perm.cons _ ?_
  exact(xN _ 3 _ rfl).trans (List.Perm.cons _ (xN _ 1 _ rfl))
 exact Own.En (g:=Ur b sp X S) h1
theorem Own.Df {S:Sa}{gl:List Int}{ps:List Pm}(hp:ps.length=X.ps.length)(h:Own w0 w (Ya (Ur b sp X S) gl::yD (Y6 (WY S.ld ps))::(OT X S++R)))(hpc:YK S.ld ps=YK S.ld X.ps):∃a c,Own w0 w (yV b sp { X with gl:=gl,ps:=ps } { S with ga:=a,gc:=c }++R):=by
 obtain⟨a,c,h1⟩:=h.EM;refine⟨a,c,?_⟩
 have h2:Own w0 w (ze b (yH X.W S.D++UI sp { X with gl:=gl,ps:=ps } { S with ga:=a,gc:=c })::zd 1 a c gl.length (zt gl)::yD (Y6 (WY S.ld ps))::zd 3 S.pa S.pc ps.length (YK S.ld ps)::zd 3 S.ma S.mc X.ms.length (Ys X.ms)::yD (KW X.W S.D)::R):=by
  rw[hpc];have e:yH X.W S.D++UI sp { X with gl:=gl,ps:=ps } { S with ga:=a,gc:=c }=(Ur b sp X S).cs (.slice a gl.length c):=by
   unfold UI;simp only[hp];rfl
  rw[e,hp];exact h1
 refine h2.perm ?_
 show List.Perm _ (ze b _::zd 3 _ _ _ _::yD _::zd 3 _ _ _ _::zd 1 _ _ _ _::yD _::R)
 refine List.Perm.cons _ ?_
 exact((xN [zd 3 S.pa S.pc ps.length (YK S.ld ps),yD (Y6 (WY S.ld ps)),zd 3 S.ma S.mc X.ms.length (Ys X.ms),zd 1 a c gl.length (zt gl),yD (KW X.W S.D)] 3 _ rfl).trans (List.Perm.cons _ (xN _ 1 _ rfl))).symm.append_right R
end
theorem VJ (ld:List (Nat×Nat))(ps:List Pm)(h:ld.length=ps.length):(YK ld ps).length=ps.length*3:=by
 unfold YK;rw[ZK FE 3 (fun _=>rfl),List.length_zip,h,Nat.min_self]
theorem zT.part {s:Nat}{w:World}{b off cap n:Nat}{cs:List Value}(h:zT s w (some ⟨b,off,none⟩) cap n cs)(j:Nat)(v:Value)(hj:cs[j]?=some v):w.cell? ⟨b,off+j,none⟩=some v∧w.frozen? ⟨b,off+j,none⟩=false:=by
 obtain⟨b',off',e,hc⟩:=h.cells j v hj;cases e
 have hl:=(List.getElem?_eq_some_iff.1 hj).1
 have h1:=h;obtain⟨h2,h3,h4,h5⟩:=h1;obtain⟨u,-,hz⟩:=h.spot j (by
  have:n*s≤cap*s:=Nat.mul_le_mul_right s (by first|exact h3|exact h2)
  omega)
 exact⟨hc,hz⟩
theorem zT.some {s:Nat}{w:World}{a:Option Addr}{cap n:Nat}{cs:List Value}(h:zT s w a cap n cs){j:Nat}(hj:j<cs.length):∃b off,a=some ⟨b,off,none⟩:=by
 obtain⟨b,off,e,-⟩:=h.cells j _ (List.getElem?_eq_getElem hj)
 exact⟨b,off,e⟩
section
variable {w0 w:World} {R:List zv} {ld:List (Nat×Nat)} {ps:List Pm} {a:Option Addr} {cap:Nat}
theorem PR {i:Nat}{l:Nat×Nat}{P:Pm}(hl:ld[i]?=some l)(hP:ps[i]?=some P):(List.zip ld ps)[i]?=some (l,P):=by rw[List.getElem?_zip_eq_some];exact⟨hl,hP⟩
theorem Yq {i:Nat}{l:Nat×Nat}{P:Pm}(hl:ld[i]?=some l)(hP:ps[i]?=some P)(k:Nat)(hk:k<3):(YK ld ps)[i*3+k]?=(FE (l,P))[k]?:=by
 have hz:=PR hl hP;obtain⟨h1,h2⟩:=List.getElem?_eq_some_iff.1 hz
 unfold YK;rw[x6 FE 3 (fun _=>rfl) _ i k h1 hk,h2]
theorem Sq {i:Nat}{l:Nat×Nat}{P P':Pm}(hl:ld[i]?=some l)(hP:ps[i]?=some P):YK ld (ps.set i P')=setL (YK ld ps) (i*3) (FE (l,P')):=by
 have hz:=PR hl hP;obtain⟨h1,h2⟩:=List.getElem?_eq_some_iff.1 hz
 unfold YK;rw[Uk FE 3 (fun _=>rfl) _ i _ h1,V7,yt ld i l hl]
theorem YM {ms:List Mm}{i:Nat}{M:Mm}(hM:ms[i]?=some M)(k:Nat)(hk:k<3):(Ys ms)[i*3+k]?=(KX M)[k]?:=by
 obtain⟨h1,h2⟩:=List.getElem?_eq_some_iff.1 hM
 unfold Ys;rw[x6 KX 3 (fun _=>rfl) _ i k h1 hk,h2]
theorem Sc {ms:List Mm}{i:Nat}{M:Mm}(hi:i<ms.length):Ys (ms.set i M)=setL (Ys ms) (i*3) (KX M):=by
 unfold Ys;rw[Uk KX 3 (fun _=>rfl) _ i _ hi]
theorem T9 (ms:List Mm):(Ys ms).length=ms.length*3:=by unfold Ys;exact ZK KX 3 (fun _=>rfl) ms
theorem Tg (cs:List Value)(o:Nat)(x y z:Value):setL cs o [x,y,z]=((cs.set o x).set (o+1) y).set (o+2) z:=by
 unfold setL;rfl
theorem Gy {i:Nat}{l:Nat×Nat}{P:Pm}(hl:ld[i]?=some l)(hP:ps[i]?=some P)(t:Nat):(YK ld ps).set (i*3+1) (.int .i64 (t:Int))=YK ld (ps.set i { P with tu:=t }):=by
 rw[Sq hl hP];show _=setL _ _ [_,_,_]
 rw[Tg,yt (YK ld ps) (i*3) _ ((Yq hl hP 0 (by omega)).trans rfl),yt _ (i*3+2) _ (by
  rw[List.getElem?_set_ne (by omega),Yq hl hP 2 (by omega)];rfl)]
theorem Gm {i:Nat}{l:Nat×Nat}{P:Pm}(hl:ld[i]?=some l)(hP:ps[i]?=some P)(t:Int):(YK ld ps).set (i*3+2) (.int .i64 t)=YK ld (ps.set i { P with by_:=t }):=by
 rw[Sq hl hP];show _=setL _ _ [_,_,_]
 rw[Tg,yt (YK ld ps) (i*3) _ ((Yq hl hP 0 (by omega)).trans rfl),yt (YK ld ps) (i*3+1) _ (by
  rw[Yq hl hP 1 (by omega)];rfl)]
theorem P0 {i:Nat}{l:Nat×Nat}{P:Pm}(hl:ld[i]?=some l)(hP:ps[i]?=some P)(q:LQ):YK ld (ps.set i { P with q:=q })=YK ld ps:=by
 rw[Sq hl hP];show setL _ _ [_,_,_]=_
 rw[Tg,yt (YK ld ps) (i*3) _ ((Yq hl hP 0 (by omega)).trans rfl),yt (YK ld ps) (i*3+1) _ (by
  rw[Yq hl hP 1 (by omega)];rfl),yt (YK ld ps) (i*3+2) _ (by rw[Yq hl hP 2 (by omega)];rfl)]
theorem Ul {i:Nat}{l:Nat×Nat}{P:Pm}(hl:ld[i]?=some l)(hP:ps[i]?=some P):(WY ld ps)[i]?=some (Kq l P):=by
 unfold WY;rw[List.getElem?_zipWith,hl,hP]
theorem VM (i:Nat){l:Nat×Nat}(hl:ld[i]?=some l)(P:Pm):(WY ld ps).set i (Kq l P)=WY ld (ps.set i P):=by
 apply List.ext_getElem?
 intro j;unfold WY;rw[List.getElem?_zipWith,List.getElem?_set,List.getElem?_set,List.length_zipWith,List.getElem?_zipWith]
 have hll:=(List.getElem?_eq_some_iff.1 hl).1
 by_cases e:i=j
 ·subst e
  by_cases h2:i<ps.length
  ·rw[if_pos rfl,if_pos (by omega)];simp[h2,hl]
  ·rw[if_pos rfl,if_neg (by omega)]
   simp[h2,hl]
 ·simp[e]
theorem Rm {i:Nat}{P:Pm}{P':Pm}(hP:ps[i]?=some P)(hN:P'.N=P.N)(hq:P'.q=P.q):WY ld (ps.set i P')=WY ld ps:=by
 apply List.ext_getElem?
 intro j;unfold WY;rw[List.getElem?_zipWith,List.getElem?_zipWith,List.getElem?_set]
 by_cases e:i=j
 ·subst e
  rw[if_pos rfl,if_pos (List.getElem?_eq_some_iff.1 hP).1,hP]
  cases ld[i]? with
  | none=>rfl
  | some l=>simp[Kq,hN,hq]
 ·rw[if_neg e]
end
end Go.Proofs.YtlkjheheofgdgaaGreat
open Go Go.RowKit
namespace Go.Proofs.YtlkjheheofgdgaaGreat
section
variable {w0 w:World} {b sp:Nat} {X:Sd} {S:Sa} {R:List zv}
theorem PY (h:Own w0 w (yV b sp X S++R))(hf:S.fits X){i:Nat}(hi:i<X.ps.length):∃pb off p g,S.pa=some ⟨pb,off,none⟩∧S.ld[i]?=some (p,g) ∧
  (w.cell? ⟨pb,off+i*3,none⟩=some (.pointer (some ⟨p,0,none⟩))∧w.cell? ⟨pb,off+i*3+1,none⟩=some (.int .i64 ((X.p i).tu:Int))∧w.cell? ⟨pb,off+i*3+2,none⟩=some (.int .i64 (X.p i).by_)) ∧
  w.frozen? ⟨pb,off+i*3+1,none⟩=false∧w.frozen? ⟨pb,off+i*3+2,none⟩=false:=by
 have hr:=h.xl 1 rfl;have hl:i<S.ld.length:=by rw[hf.l];exact hi
 obtain⟨l,hl2⟩:∃l,S.ld[i]?=some l:=⟨_,List.getElem?_eq_getElem hl⟩
 obtain⟨pb,off,e⟩:=hr.some (j:=i*3) (by rw[VJ _ _ hf.l];omega)
 rw[e] at hr;obtain⟨a0,-⟩:=hr.part (i*3) _ (by have:=Yq hl2 (X.Zt hi) 0 (by omega);rw[Nat.add_zero] at this;exact this.trans rfl)
 obtain⟨a1,b1⟩:=hr.part (i*3+1) _ ((Yq hl2 (X.Zt hi) 1 (by omega)).trans rfl)
 obtain⟨a2,b2⟩:=hr.part (i*3+2) _ ((Yq hl2 (X.Zt hi) 2 (by omega)).trans rfl)
 rw[←Nat.add_assoc] at a1 b1 a2 b2;exact⟨pb,off,l.1,l.2,e,hl2,⟨a0,a1,a2⟩,b1,b2⟩
theorem PJ (h:Own w0 w (yV b sp X S++R)){i:Nat}(hi:i<X.ms.length):∃mb off,S.ma=some ⟨mb,off,none⟩ ∧
  (w.cell? ⟨mb,off+i*3,none⟩=some (.int .i64 (X.m i).P)∧w.cell? ⟨mb,off+i*3+1,none⟩=some (.int .i64 (X.m i).G)∧w.cell? ⟨mb,off+i*3+2,none⟩=some (.int .i64 (X.m i).L)) ∧
  w.frozen? ⟨mb,off+i*3,none⟩=false∧w.frozen? ⟨mb,off+i*3+1,none⟩=false∧w.frozen? ⟨mb,off+i*3+2,none⟩=false:=by
 have hr:=h.xl 3 rfl;obtain⟨mb,off,e⟩:=hr.some (j:=i*3) (by rw[T9];omega)
 rw[e] at hr;obtain⟨a0,b0⟩:=hr.part (i*3) _ (by have:=YM (X.SP hi) 0 (by omega);rw[Nat.add_zero] at this;exact this.trans rfl)
 obtain⟨a1,b1⟩:=hr.part (i*3+1) _ ((YM (X.SP hi) 1 (by omega)).trans rfl)
 obtain⟨a2,b2⟩:=hr.part (i*3+2) _ ((YM (X.SP hi) 2 (by omega)).trans rfl)
 rw[←Nat.add_assoc] at a1 b1 a2 b2;exact⟨mb,off,e,⟨a0,a1,a2⟩,b0,b1,b2⟩
theorem Sa.fits.zI (hf:S.fits X)(i:Nat)(P:Pm):S.fits (X.zI i P):=⟨hf.w,by rw[hf.l];unfold Sd.zI;simp⟩
theorem Sa.fits.zP (hf:S.fits X)(i:Nat)(M:Mm):S.fits (X.zP i M):=⟨hf.w,hf.l⟩
theorem GQ (h:Own w0 w (yV b sp X S++R))(hf:S.fits X){i pb off:Nat}(hi:i<X.ps.length)(hpa:S.pa=some ⟨pb,off,none⟩)(t:Int) :
  Own w0 (w.setCell ⟨pb,off+i*3+2,none⟩ (.int .i64 t)) (yV b sp (X.zI i { X.p i with by_:=t }) S++R):=by
 have hl:i<S.ld.length:=by rw[hf.l];exact hi
 obtain⟨l,hl2⟩:∃l,S.ld[i]?=some l:=⟨_,List.getElem?_eq_getElem hl⟩
 have h1:=h.pick 1 rfl;have hlen:(X.ps.set i { X.p i with by_:=t }).length=X.ps.length:=by simp
 have e2:WY S.ld (X.ps.set i { X.p i with by_:=t })=WY S.ld X.ps:=Rm (X.Zt hi) rfl rfl
 have hb:=fun(w':World) (hh:Own w0 w' (zd 3 S.pa S.pc X.ps.length (YK S.ld (X.ps.set i { X.p i with by_:=t }))::(yV b sp X S++R).eraseIdx 1))=>hh.back (As:=yV b sp X S++R) (i:=1) (by simp[yV])
 have key:Own w0 (w.setCell ⟨pb,off+i*3+2,none⟩ (.int .i64 t)) (zd 3 S.pa S.pc X.ps.length (YK S.ld (X.ps.set i { X.p i with by_:=t }))::(yV b sp X S++R).eraseIdx 1):=by
  rw[←Gm hl2 (X.Zt hi)]
  have h2:=h1;rw[hpa] at h2 ⊢;have h3:=h2.YX (i*3+2) (.int .i64 t) (by rw[VJ _ _ hf.l];omega)
  rw[←Nat.add_assoc] at h3;exact h3
 have h4:=hb _ key;unfold yV UI Sd.zI;simp only
 rw[hlen,e2];exact h4
theorem Gi (h:Own w0 w (yV b sp X S++R))(hf:S.fits X){i pb off:Nat}(hi:i<X.ps.length)(hpa:S.pa=some ⟨pb,off,none⟩)(t:Nat) :
  Own w0 (w.setCell ⟨pb,off+i*3+1,none⟩ (.int .i64 (t:Int))) (yV b sp (X.zI i { X.p i with tu:=t }) S++R):=by
 have hl:i<S.ld.length:=by rw[hf.l];exact hi
 obtain⟨l,hl2⟩:∃l,S.ld[i]?=some l:=⟨_,List.getElem?_eq_getElem hl⟩
 have h1:=h.pick 1 rfl;have hlen:(X.ps.set i { X.p i with tu:=t }).length=X.ps.length:=by simp
 have e2:WY S.ld (X.ps.set i { X.p i with tu:=t })=WY S.ld X.ps:=Rm (X.Zt hi) rfl rfl
 have hb:=fun(w':World) (hh:Own w0 w' (zd 3 S.pa S.pc X.ps.length (YK S.ld (X.ps.set i { X.p i with tu:=t }))::(yV b sp X S++R).eraseIdx 1))=>hh.back (As:=yV b sp X S++R) (i:=1) (by simp[yV])
 have key:Own w0 (w.setCell ⟨pb,off+i*3+1,none⟩ (.int .i64 (t:Int))) (zd 3 S.pa S.pc X.ps.length (YK S.ld (X.ps.set i { X.p i with tu:=t }))::(yV b sp X S++R).eraseIdx 1):=by
  rw[←Gy hl2 (X.Zt hi)]
  have h2:=h1;rw[hpa] at h2 ⊢;have h3:=h2.YX (i*3+1) (.int .i64 (t:Int)) (by rw[VJ _ _ hf.l];omega)
  rw[←Nat.add_assoc] at h3;exact h3
 have h4:=hb _ key;unfold yV UI Sd.zI;simp only
 rw[hlen,e2];exact h4
theorem EL {ms:List Mm}{i:Nat}{M:Mm}(hM:ms[i]?=some M)(t:Int):(Ys ms).set (i*3) (.int .i64 t)=Ys (ms.set i { M with P:=t }):=by
 rw[Sc (List.getElem?_eq_some_iff.1 hM).1]
 show _=setL _ _ [_,_,_]
 rw[Tg,yt _ (i*3+1) _ (by rw[List.getElem?_set_ne (by omega),YM hM 1 (by omega)];rfl),yt _ (i*3+2) _ (by rw[List.getElem?_set_ne (by omega),YM hM 2 (by omega)];rfl)]
theorem ED {ms:List Mm}{i:Nat}{M:Mm}(hM:ms[i]?=some M)(t:Int):(Ys ms).set (i*3+1) (.int .i64 t)=Ys (ms.set i { M with G:=t }):=by
 rw[Sc (List.getElem?_eq_some_iff.1 hM).1]
 show _=setL _ _ [_,_,_]
 rw[Tg,yt (Ys ms) (i*3) _ ((YM hM 0 (by omega)).trans rfl),yt _ (i*3+2) _ (by rw[List.getElem?_set_ne (by omega),YM hM 2 (by omega)];rfl)]
theorem Ew {ms:List Mm}{i:Nat}{M:Mm}(hM:ms[i]?=some M)(t:Int):(Ys ms).set (i*3+2) (.int .i64 t)=Ys (ms.set i { M with L:=t }):=by
 rw[Sc (List.getElem?_eq_some_iff.1 hM).1]
 show _=setL _ _ [_,_,_]
 rw[Tg,yt (Ys ms) (i*3) _ ((YM hM 0 (by omega)).trans rfl),yt (Ys ms) (i*3+1) _ (by rw[YM hM 1 (by omega)];rfl)]
theorem Pj (h:Own w0 w (yV b sp X S++R)){i mb off:Nat}(hi:i<X.ms.length)(hma:S.ma=some ⟨mb,off,none⟩)(k:Nat)(hk:k<3)(v:Value)(M:Mm)(e:(Ys X.ms).set (i*3+k) v=Ys (X.ms.set i M)) :
  Own w0 (w.setCell ⟨mb,off+(i*3+k),none⟩ v) (yV b sp (X.zP i M) S++R):=by
 have h1:=h.pick 3 rfl;have hlen:(X.ms.set i M).length=X.ms.length:=by simp
 have key:Own w0 (w.setCell ⟨mb,off+(i*3+k),none⟩ v) (zd 3 S.ma S.mc X.ms.length (Ys (X.ms.set i M))::(yV b sp X S++R).eraseIdx 3):=by
  rw[←e];have h2:=h1;rw[hma] at h2 ⊢;exact h2.YX (i*3+k) v (by rw[T9];omega)
 have h4:=key.back (As:=yV b sp X S++R) (i:=3) (by simp[yV])
 unfold yV UI Sd.zP;simp only
 rw[hlen];exact h4
theorem Fj (h:Own w0 w (yV b sp X S++R)){i mb off:Nat}(hi:i<X.ms.length)(hma:S.ma=some ⟨mb,off,none⟩)(t:Int):Own w0 (w.setCell ⟨mb,off+i*3,none⟩ (.int .i64 t)) (yV b sp (X.zP i { X.m i with P:=t }) S++R) :=
 Pj h hi hma 0 (by omega) _ _ (EL (X.SP hi) t)
theorem Gk (h:Own w0 w (yV b sp X S++R)){i mb off:Nat}(hi:i<X.ms.length)(hma:S.ma=some ⟨mb,off,none⟩)(t:Int):Own w0 (w.setCell ⟨mb,off+i*3+1,none⟩ (.int .i64 t)) (yV b sp (X.zP i { X.m i with G:=t }) S++R) :=
 Pj h hi hma 1 (by omega) _ _ (ED (X.SP hi) t)
theorem Fs (h:Own w0 w (yV b sp X S++R)){i mb off:Nat}(hi:i<X.ms.length)(hma:S.ma=some ⟨mb,off,none⟩)(t:Int):Own w0 (w.setCell ⟨mb,off+i*3+2,none⟩ (.int .i64 t)) (yV b sp (X.zP i { X.m i with L:=t }) S++R) :=
 Pj h hi hma 2 (by omega) _ _ (Ew (X.SP hi) t)
theorem R4 (h:Own w0 w (yV b sp X S++R))(hf:S.fits X){i p g:Nat}(hi:i<X.ps.length)(hl:S.ld[i]?=some (p,g)){q':LQ}{gl':List Int}{f:FuncId}{args:Array Value}{ret:Ending→Prop}
  (hc:∀R',Own w0 w (Zx ⟨p,g,(X.p i).N,(X.p i).q,none,0⟩::Ya (Ur b sp X S) X.gl::R')→Calls Tryz.prog f args w fun r w'=>ret r∧Own w0 w' (Zx ⟨p,g,(X.p i).N,q',none,0⟩::Ya (Ur b sp X S) gl'::R')) :
  Calls Tryz.prog f args w fun r w'=>ret r∧∃a c,Own w0 w' (yV b sp { X.zI i { X.p i with q:=q' } with gl:=gl' } { S with ga:=a,gc:=c }++R):=by
 have h1:=h.EP.pick 1 rfl;obtain⟨R',h2,h3⟩:=h1.ZT (Wp (Ul hl (X.Zt hi)))
 have h4:Own w0 w (Zx ⟨p,g,(X.p i).N,(X.p i).q,none,0⟩::Ya (Ur b sp X S) X.gl::(R'++(OT X S++R))):=h2.perm (List.Perm.cons _ List.perm_middle)
 refine(hc _ h4).mono (fun r w' hh=>⟨hh.1,?_⟩)
 have k1:Own w0 w' (Zx ⟨p,g,(X.p i).N,q',none,0⟩::(R'++(Ya (Ur b sp X S) gl'::(OT X S++R)))):=hh.2.perm (List.Perm.cons _ List.perm_middle.symm)
 have k2:=h3 _ _ _ k1;rw[WJ,show(⟨p,g,(X.p i).N,q',none,0⟩:Qd)=Kq (p,g) { X.p i with q:=q' } from rfl,VM i hl] at k2
 have k3:=k2.perm (List.Perm.swap _ _ _)
 exact Own.Df (X:=X) (by simp[Sd.zI]) k3 (P0 hl (X.Zt hi) q')
theorem GJ (h:Own w0 w (yV b sp X S++R))(hf:S.fits X){i p g:Nat}(hi:i<X.ps.length)(hl:S.ld[i]?=some (p,g)){q':LQ}{f:FuncId}{args:Array Value}{ret:Ending→Prop}
  (hc:∀R',Own w0 w (Zx ⟨p,g,(X.p i).N,(X.p i).q,none,0⟩::R')→Calls Tryz.prog f args w fun r w'=>ret r∧Own w0 w' (Zx ⟨p,g,(X.p i).N,q',none,0⟩::R')) :
  Calls Tryz.prog f args w fun r w'=>ret r∧Own w0 w' (yV b sp (X.zI i { X.p i with q:=q' }) S++R):=by
 have h1:=h.pick 2 rfl;obtain⟨R',h2,h3⟩:=h1.ZT (Wp (Ul hl (X.Zt hi)))
 refine(hc _ h2).mono (fun r w' hh=>⟨hh.1,?_⟩)
 have k2:=h3 _ _ _ hh.2;rw[WJ,show(⟨p,g,(X.p i).N,q',none,0⟩:Qd)=Kq (p,g) { X.p i with q:=q' } from rfl,VM i hl] at k2
 have k3:=k2.back (As:=yV b sp X S++R) (i:=2) (by simp[yV])
 have e:YK S.ld (X.ps.set i { X.p i with q:=q' })=YK S.ld X.ps:=P0 hl (X.Zt hi) q'
 have hlen:(X.ps.set i { X.p i with q:=q' }).length=X.ps.length:=by simp
 unfold yV UI Sd.zI;simp only
 rw[hlen,e];exact k3
end
end Go.Proofs.YtlkjheheofgdgaaGreat
open Go Go.RowKit
namespace Go.Proofs.YtlkjheheofgdgaaGreat
structure yR (W W':Wd) (g:Nat) (rd:List Int):Prop where
 nd:rd.Nodup
 len:W.gs.length≤W'.gs.length
 st:∀h∈rd,∃k:Nat,h=(k:Int)∧k≠g∧(W.g k).st≠1∧(W'.g k).st=1
 oth:∀k:Nat,k≠g→(k:Int)∉rd→((W'.g k).st=1↔(W.g k).st=1)
def ym (W W':Wd):Prop:=W'.gs.length=W.gs.length∧∀k,(W'.g k).st=(W.g k).st
theorem ym.refl (W:Wd):ym W W:=⟨rfl,fun _=>rfl⟩
theorem ym.trans {A B C:Wd}(h:ym A B)(k:ym B C):ym A C:=⟨k.1.trans h.1,fun i=>(k.2 i).trans (h.2 i)⟩
theorem Ww {W:Wd}{k:Nat}(h:¬k<W.gs.length):W.g k=g0:=by
 unfold Wd.g;rw[List.getD_eq_getElem?_getD,List.getElem?_eq_none (by omega)];rfl
theorem ym.ye {W:Wd}{g:Nat}{G:Gt}(h:G.st=(W.g g).st):ym W (W.ye g G):=by
 by_cases hg:g<W.gs.length
 ·refine⟨by unfold Wd.ye;simp,fun k=>?_⟩
  rw[Wd.Yn _ _ _ _ hg];split
  ·rename_i e;subst e;exact h
  ·rfl
 ·rw[Wq hg];exact ym.refl W
theorem ym.put (W:Wd)(g:Nat)(k v:Int):ym W (W.put g k v):=ym.ye rfl
theorem ym.S4 {W W':Wd}(h:W'.gs=W.gs):ym W W':=⟨by rw[h],fun k=>by unfold Wd.g;rw[h]⟩
theorem ym.fin (W:Wd)(x:yq)(w:Wt)(s:Bool):ym W (W.fin x w s):=by
 unfold Wd.fin;simp only
 split<;>split<;>(try split)<;>first
  | exact(ym.put _ _ _ _).trans (ym.put _ _ _ _)
  | exact ym.put _ _ _ _
  | exact ym.refl _
theorem yR.refl (W:Wd)(g:Nat):yR W W g []:=⟨List.nodup_nil,Nat.le_refl _,fun h hh=>by simp at hh,fun _ _ _=>Iff.rfl⟩
theorem yR.base {W A:Wd}(g:Nat)(h:A.gs=W.gs):yR W A g []:=by
 have e:∀k,A.g k=W.g k:=fun k=>by unfold Wd.g;rw[h]
 exact⟨List.nodup_nil,by rw[h];exact Nat.le_refl _,fun h hh=>by simp at hh,fun _ _ _=>by rw[e]⟩
theorem yR.same {W A B:Wd}{g:Nat}{rd:List Int}(h:yR W A g rd)(k:ym A B):yR W B g rd :=
 ⟨h.nd,by rw[k.1];exact h.len,fun x hx=>by obtain⟨i,a,b,c,d⟩:=h.st x hx;exact⟨i,a,b,c,by rw[k.2];exact d⟩,fun i a b=>by rw[k.2];exact h.oth i a b⟩
theorem yR.own {W A:Wd}{g:Nat}{rd:List Int}(h:yR W A g rd)(s:Int):yR W (A.zU g s) g rd:=by
 by_cases hg:g<A.gs.length
 ·refine⟨h.nd,by rw[xC];exact h.len,fun x hx=>?_,fun i a b=>?_⟩
  ·obtain⟨i,a,b,c,d⟩:=h.st x hx
   exact⟨i,a,b,c,by rw[xt hg,if_neg (fun e=>b e.symm)];exact d⟩
  ·rw[xt hg,if_neg (fun e=>a e.symm)];exact h.oth i a b
 ·unfold Wd.zU;rw[Wq hg];exact h
theorem yR.more {W A:Wd}{g k:Nat}{rd:List Int}(h:yR W A g rd)(hk:k<A.gs.length)(hs:(A.g k).st≠1)(hg:k≠g):yR W (A.zU k 1) g (rd++[(k:Int)]):=by
 have hn:(k:Int)∉rd:=fun hm=>by
  obtain⟨i,a,-,-,d⟩:=h.st _ hm;have:i=k:=by omega
  subst this;exact hs d
 have h0:(W.g k).st≠1:=fun e=>hs ((h.oth k hg hn).2 e)
 refine⟨?_,by rw[xC];exact h.len,fun x hx=>?_,fun i a b=>?_⟩
 ·rw[List.nodup_append]
  exact⟨h.nd,by simp,fun a ha b hb e=>by simp at hb;subst hb;subst e;exact hn ha⟩
 ·rcases List.mem_append.1 hx with hx|hx
  ·obtain⟨i,a,b,c,d⟩:=h.st x hx
   refine⟨i,a,b,c,?_⟩
   rw[xt hk];split
   ·rfl
   ·exact d
  ·simp at hx
   exact⟨k,hx,hg,h0,by rw[xt hk,if_pos rfl]⟩
 ·simp only[List.mem_append,List.mem_singleton,not_or] at b
  rw[xt hk,if_neg (fun e=>b.2 (by omega))]
  exact h.oth i a b.1
theorem ym.leave (W:Wd)(g:Int):ym W (W.leave g):=ym.S4 rfl
theorem yR.VB {W A:Wd}{g:Nat}{rd:List Int}(h:yR W A g rd)(hg:(A.g g).st=1){w:Wt}(hw:0≤w.1)(s:Bool) :
  yR W (goOnM A rd w s).1 g (goOnM A rd w s).2∧((goOnM A rd w s).1.g g).st=1:=by
 unfold goOnM;simp only
 split
 ·rename_i h2
  split
  ·rename_i x hx
   have hk:w.1.toNat<A.gs.length:=by
    rcases Nat.lt_or_ge w.1.toNat A.gs.length with h1|h1
    ·exact h1
    ·rw[Ww (by omega)] at h2;exact absurd h2 (by decide)
   have hne:w.1.toNat≠g:=fun e=>by rw[e,hg] at h2;omega
   have hss:ym A ((A.fin x w s).leave w.1):=(ym.fin A x w s).trans (ym.leave _ _)
   have hr:=(h.same hss).more (k:=w.1.toNat) (by rw[hss.1];exact hk) (by rw[hss.2,h2];decide) hne
   rw[show((w.1.toNat:Nat):Int)=w.1 by omega] at hr
   refine⟨hr,?_⟩
   rw[xt (by rw[hss.1];exact hk),if_neg hne,hss.2];exact hg
  ·exact⟨h,hg⟩
 ·exact⟨h,hg⟩
theorem yR.U2 {W:Wd}{g:Nat}:∀(l:List Wt) (A:Wd) (rd:List Int),yR W A g rd→(A.g g).st=1→(∀w∈l,0≤w.1)→yR W (goOnsM A rd l).1 g (goOnsM A rd l).2∧((goOnsM A rd l).1.g g).st=1
 | [],A,rd,h,hg,_=>⟨h,hg⟩
 | r::t,A,rd,h,hg,hw=>by
  obtain⟨a,b⟩:=h.VB hg (hw r (by simp)) false
  exact yR.U2 t _ _ a b (fun w hm=>hw w (by simp[hm]))
def Su (W:Wd)(g:Nat)(d:Dd):Prop:=yR W d.W g d.rd
theorem I4 {B:Nat}{W:Wd}(h:WF B W){g:Nat}(hg:(W.g g).st=1){x:yq}{c:Zm}(c0:0≤c.2.1∧c.2.1<(W.Cs.length:Int))(place:Int){d:Dd}(hd:Yy W [] g x c place=some d):Su W g d:=by
 have hr:=RQ (h.cs _ (Vh c0)) (W.Ns.getD c.2.1.toNat 0) (Hs h _) ((W.g g).rg c.2.2)
 unfold Yy at hd;simp only at hd
 split at hd
 ·cases hd;exact yR.refl W g
 ·split at hd
  ·cases hd
   have h0:yR W (W.zW c.2.1 (mSend (W.Ns.getD c.2.1.toNat 0) (W.ch c.2.1) ((W.g g).rg c.2.2)).1) g []:=yR.base g rfl
   unfold Su;simp only
   split
   ·rename_i e
    exact(h0.VB (by exact hg) (hr.2 e).1.1 true).1.same (ym.fin _ _ _ _)
   ·exact h0.same (ym.fin _ _ _ _)
  ·cases hd
theorem Jk {B:Nat}{W:Wd}(h:WF B W){g:Nat}(hg:(W.g g).st=1){x:yq}{c:Zm}(c0:0≤c.2.1∧c.2.1<(W.Cs.length:Int))(place:Int){d:Dd}(hd:YA W [] g x c place=some d):Su W g d:=by
 have hr:=SX (h.cs _ (Vh c0))
 unfold YA at hd;simp only at hd
 split at hd
 ·cases hd
  have h0:yR W (W.zW c.2.1 (mRecv (W.ch c.2.1)).1) g []:=yR.base g rfl
  unfold Su;simp only
  split
  ·rename_i e
   exact(h0.VB (by exact hg) (hr.2 e).1.1 false).1.same (ym.fin _ _ _ _)
  ·exact h0.same (ym.fin _ _ _ _)
 ·cases hd
theorem LZ {B:Nat}{W:Wd}(h:WF B W){g:Nat}(hg:(W.g g).st=1){n:Nat}{x:yq}(hx:Yf W n x)(ho:x.1=13∨x.1=14∨x.1=16){place:Int}(hp:0≤place∧place<((W.yK x).length:Int))(h2:((W.yK x).getD place.toNat (1,0,0)).1≠2){d:Dd}(hd:YR W [] g x place=some d):Su W g d:=by
 have hk:=hx.VX ho h.p.ck _ (PZ hp)
 have c0:=And.intro hk.2.1 (hk.2.2.1 h2)
 unfold YR at hd;simp only at hd
 split at hd
 ·exact I4 h hg c0 place hd
 ·exact Jk h hg c0 place hd
theorem Of (W:Wd)(g:Nat)(x:yq):yR W (Wr W g x) g []:=(yR.base (W:=W) (A:={ W with Cs:=wasF (g:Int) (W.g g).yU 0 (W.yK x) W.Cs }) g rfl).own 2
theorem PO {B:Nat}{W:Wd}(h:WF B W){g:Nat}{n:Nat}{x:yq}(ha:At W g x)(hx:Yf W n x)(ho:x.1=13∨x.1=14):Su W g (Yk W [] g x):=by
 have hlen:(W.yK x).length=1:=by unfold Wd.yK;rcases ho with e|e<;>simp[e]
 have h2:((W.yK x).getD (Int.toNat 0) (1,0,0)).1≠2:=by unfold Wd.yK;rcases ho with e|e<;>simp[e]
 unfold Yk;cases e:YR W [] g x 0 with
 | none=>exact Of W g x
 | some d=>exact LZ h ha.st hx (by rcases ho with e|e<;>simp[e]) (by rw[hlen];omega) h2 e
theorem Np {B:Nat}{W:Wd}(h:WF B W){g:Nat}{n:Nat}{x:yq}(ha:At W g x)(hx:Yf W n x)(ho:x.1=16){dr:Int}{go:Bool}(hd:go=true→(0≤dr∧dr<((W.yK x).length:Int))∧((W.yK x).getD dr.toNat (1,0,0)).1≠2):Su W g (Zu W [] g x dr go):=by
 unfold Zu;split
 ·rename_i e
  cases e2:YR W [] g x dr with
  | none=>exact yR.refl W g
  | some d=>exact LZ h ha.st hx (by simp[ho]) (hd e).1 (hd e).2 e2
 ·split
  ·exact Of W g x
  ·exact(yR.refl W g).same (ym.put _ _ _ _)
theorem LA {B:Nat}{W:Wd}(h:WF B W){g:Nat}(hg:(W.g g).st=1){n:Nat}{x:yq}(hx:Yf W n x)(ho:x.1=15):Su W g (ZN W [] x):=by
 have hC:=h.cs _ (Vh (hx.o15 ho))
 unfold ZN;simp only
 split
 ·exact yR.refl W g
 ·split
  ·exact((yR.base (W:=W) (A:=W.zW x.2.1 ⟨(W.ch x.2.1).buf,[],[],true⟩) g rfl).U2 _ _ _ (by exact hg) (fun w hw=>(hC.2.2.2.2 w hw).1.1)).1
  ·exact yR.base g rfl
theorem Je (W:Wd)(g:Nat)(x:yq):Su W g (Yz W [] g x):=by
 unfold Yz;simp only
 split
 ·exact yR.refl W g
 ·exact(yR.refl W g).same (ym.ye rfl)
theorem Fo (W:Wd)(g:Nat)(x:yq):Su W g (WV W [] g x):=by
 unfold WV;simp only
 split
 ·exact((yR.refl W g).own 4).same (ym.S4 rfl)
 ·exact(yR.refl W g).same (ym.ye rfl)
theorem L1 {W:Wd}{g:Nat}(hg:g<W.gs.length)(x:yq):Su W g (ZH W [] g x):=by
 unfold ZH;split
 ·exact yR.refl W g
 ·refine yR.same (A:={ W with gs:=W.gs++[⟨1,1,ZF x.2.1 ((W.g g).rg x.2.2.1) 0⟩] }) ?_ (ym.put _ _ _ _)
  have e:∀k,({ W with gs:=W.gs++[⟨1,1,ZF x.2.1 ((W.g g).rg x.2.2.1) 0⟩] }:Wd).g k=if k=W.gs.length then⟨1,1,ZF x.2.1 ((W.g g).rg x.2.2.1) 0⟩ else W.g k:=fun k=>by
   unfold Wd.g;simp only[List.getD_eq_getElem?_getD]
   by_cases h1:k<W.gs.length
   ·rw[List.getElem?_append_left h1,if_neg (by omega)]
   ·by_cases h2:k=W.gs.length
    ·subst h2;rw[if_pos rfl,List.getElem?_append_right (Nat.le_refl _)];simp
    ·have e1:W.gs[k]?=none:=List.getElem?_eq_none (by omega)
     rw[if_neg h2,e1,List.getElem?_eq_none (by simp;omega)]
  refine⟨by simp,by simp,fun h hh=>?_,fun k hk hn=>?_⟩
  ·simp at hh
   refine⟨W.gs.length,hh,by omega,?_,?_⟩
   ·rw[Ww (by omega)];decide
   ·rw[e,if_pos rfl]
  ·rw[e,if_neg (fun e2=>hn (by simp[e2]))]
theorem Kd (W:Wd)(g:Nat)(x:yq):Su W g (Z7 W [] g x):=by
 unfold Z7;simp only
 generalize (if 1048576<(W.g g).rg x.2.1 then(1048576:Int) else(W.g g).rg x.2.1)=t
 split
 ·exact yR.refl W g
 ·exact((yR.refl W g).own 3).same (ym.S4 rfl)
theorem Iu (W:Wd)(g:Nat)(x:yq):Su W g (Xc W [] g x):=by
 unfold Xc Su;simp only
 split
 ·exact yR.base g rfl
 ·exact(yR.base (W:=W) (A:={ W with Ls:=W.Ls.set x.2.1.toNat (W.lk x.2.1++[(g:Int)]) }) g rfl).own 2
theorem Nm {B:Nat}{W:Wd}(h:WF B W){g:Nat}(hg:(W.g g).st=1){n:Nat}{x:yq}(hx:Yf W n x)(ho:x.1=19):Su W g (Zr W [] g x):=by
 have hi:=hx.o18 (.inr ho)
 obtain⟨a,b,c,d⟩:=h.ls _ _ (Sk hi)
 unfold Zr;simp only
 generalize W.lk x.2.1=L at *;cases L with
 | nil=>simp only[xr];rw[if_neg (by decide)];exact yR.refl W g
 | cons y t =>
  by_cases e:y=(g:Int)
  ·simp only[xr,gaveL,if_pos e]
   rw[if_pos trivial];split
   ·exact yR.base g rfl
   ·rename_i e1
    cases t with
    | nil=>exact absurd rfl e1
    | cons z s =>
     simp only[List.headD_cons] at e1 ⊢
     obtain⟨z0,z1⟩:=b z (by simp)
     obtain⟨d1,-⟩:=d z (by simp)
     have hr:=((yR.refl W g).same (B:={ W with Ls:=W.Ls.set x.2.1.toNat (z::s) }) (ym.S4 rfl)).more (k:=z.toNat) (by show z.toNat<W.gs.length;omega) (by show(W.g z.toNat).st≠1;rw[d1];decide) (fun e2=>by rw[e2,hg] at d1;omega)
     rw[show((z.toNat:Nat):Int)=z by omega] at hr
     exact hr
  ·simp only[xr,if_neg e]
   rw[if_neg (by decide)];exact yR.refl W g
theorem IH (W:Wd)(g:Nat)(x:yq):Su W g (Yw W [] g x):=by
 unfold Yw;split
 ·exact yR.refl W g
 ·exact yR.base g rfl
theorem Iy {B:Nat}{W:Wd}(h:WF B W){g:Nat}{n:Nat}{x:yq}(ha:At W g x)(hx:Yf W n x){dr:Int}{go:Bool}(hd:x.1=16→go=true→(0≤dr∧dr<((W.yK x).length:Int))∧((W.yK x).getD dr.toNat (1,0,0)).1≠2):Su W g (yf W g x dr go):=by
 unfold yf;by_cases e:x.1=9
 ·rw[if_pos e];exact Je W g x
 rw[if_neg e];clear e;by_cases e:x.1=10
 ·rw[if_pos e];exact Fo W g x
 rw[if_neg e];clear e;by_cases e:x.1=11
 ·rw[if_pos e];exact L1 ha.lt x
 rw[if_neg e];clear e;by_cases e:x.1=12
 ·rw[if_pos e];exact yR.refl W g
 rw[if_neg e];clear e;by_cases e:x.1=13
 ·rw[if_pos e];exact PO h ha hx (.inl e)
 rw[if_neg e];clear e;by_cases e:x.1=14
 ·rw[if_pos e];exact PO h ha hx (.inr e)
 rw[if_neg e];clear e;by_cases e:x.1=15
 ·rw[if_pos e];exact LA h ha.st hx e
 rw[if_neg e];clear e;by_cases e:x.1=16
 ·rw[if_pos e];exact Np h ha hx e (hd e)
 rw[if_neg e];clear e;by_cases e:x.1=17
 ·rw[if_pos e];exact Kd W g x
 rw[if_neg e];clear e;by_cases e:x.1=18
 ·rw[if_pos e];exact Iu W g x
 rw[if_neg e];clear e;by_cases e:x.1=19
 ·rw[if_pos e];exact Nm h ha.st hx e
 rw[if_neg e];clear e;by_cases e:x.1=20
 ·rw[if_pos e];exact IH W g x
 rw[if_neg e];clear e;by_cases e:x.1=21
 ·rw[if_pos e];exact(yR.refl W g).same (ym.put _ _ _ _)
 rw[if_neg e];clear e;exact yR.refl W g
theorem yR.from {W V A:Wd}{g:Nat}{rd:List Int}(s:ym W V)(h:yR V A g rd):yR W A g rd :=
 ⟨h.nd,by rw[←s.1];exact h.len,fun x hx=>by obtain⟨i,a,b,c,d⟩:=h.st x hx;exact⟨i,a,b,by rw[←s.2];exact c,d⟩,fun i a b=>by rw[←s.2];exact h.oth i a b⟩
theorem ym.end_ (d:Dd):ym d.W d.end_:=by unfold Dd.end_;split<;>exact ym.S4 rfl
theorem EO {B:Nat}{W:Wd}(h:WF B W)(hB:B≤80000){g:Nat}(hl:W.lets (g:Int))(v:Int):Su W g (doM W g (W.ins g) (xP W ((W.ins g).getD (0,0,0,0)) v).1 (xP W ((W.ins g).getD (0,0,0,0)) v).2):=by
 obtain⟨l1,l2,l3,l4⟩:=hl;simp only[Int.toNat_natCast] at l4;have hg:g<W.gs.length:=by omega
 cases hx:W.ins g with
 | none=>exact yR.refl W g
 | some x =>
  obtain⟨k1,k2,k3⟩:=h.VZ hx;obtain⟨s1,s2,s3⟩:=h.step hg l4 hx;simp only[Option.getD_some];have hask:x.1=16→(xP W x v).2=true→(0≤(xP W x v).1∧(xP W x v).1<(((W.step g).yK x).length:Int))∧(((W.step g).yK x).getD (xP W x v).1.toNat (1,0,0)).1≠2:=fun e1 e2=>by
   rw[Us s3.ks];exact VP e1 e2
  unfold doM;simp only
  split
  ·exact(yR.refl W g).same (ym.ye rfl)
  ·rename_i e
   exact yR.from (V:=W.step g) (ym.ye (W:=W) (g:=g) rfl) (Iy s1 s2 (k1.Ey s3) hask)
theorem Sh {B:Nat}{W:Wd}(h:WF B W)(hB:B≤80000){g:Nat}(hl:W.lets (g:Int))(v:Int) :
  yR W (zR W (g:Int) v).1 g (zR W (g:Int) v).2.2∧((zR W (g:Int) v).2.1=true→((zR W (g:Int) v).1.g g).st=1∧(zR W (g:Int) v).1.en=0):=by
 unfold zR;rw[if_pos hl];simp only[Int.toNat_natCast];refine⟨(EO h hB hl v).same (ym.end_ _),fun e=>?_⟩
 unfold Xr at e;simp only[Bool.and_eq_true,decide_eq_true_eq] at e;exact⟨e.1.2,e.1.1⟩
structure EN (W W':Wd) (rd:List Int):Prop where
 nd:rd.Nodup
 len:W'.gs.length=W.gs.length
 st:∀h∈rd,∃k:Nat,h=(k:Int)∧(W.g k).st≠1∧(W'.g k).st=1
 oth:∀k:Nat,(k:Int)∉rd→(W'.g k).st=(W.g k).st
theorem PU:∀(l:List It) (W:Wd),(∀x∈l,(0≤x.id∧x.id<(W.gs.length:Int))∧(W.g x.id.toNat).st=3)→(l.map (·.id)).Nodup→EN W (wokeM W l) (l.map (·.id))
 | [],W,_,_=>⟨by simp,rfl,fun h hh=>by simp at hh,fun _ _=>rfl⟩
 | x::t,W,h1,h2=>by
  obtain⟨hx1,hx2⟩:=h1 x (by simp)
  have hg:x.id.toNat<W.gs.length:=by omega
  have hxn:((x.id.toNat:Nat):Int)=x.id:=by omega
  have h2':=h2;rw[List.map_cons,List.nodup_cons] at h2;have hid:∀y∈t,y.id.toNat≠x.id.toNat:=fun y hy e=>by
   obtain⟨k1,-⟩:=h1 y (by simp[hy])
   have:y.id=x.id:=by omega
   exact h2.1 (by rw[←this];exact List.mem_map_of_mem (f:=(·.id)) hy)
  obtain⟨a,b,c,d⟩:=PU t (W.zU x.id.toNat 1) (fun y hy=>by
    obtain⟨k1,k2⟩:=h1 y (by simp[hy])
    refine⟨by rw[xC];exact k1,?_⟩
    rw[xt hg,if_neg (fun e=>hid y hy e.symm)]
    exact k2) h2.2
  refine⟨h2',by show(wokeM (W.zU x.id.toNat 1) t).gs.length=_;rw[b,xC],fun h hh=>?_,fun k hk=>?_⟩
  ·rw[List.map_cons,List.mem_cons] at hh
   rcases hh with rfl|hh
   ·refine⟨x.id.toNat,hxn.symm,by rw[hx2];decide,?_⟩
    show((wokeM (W.zU x.id.toNat 1) t).g x.id.toNat).st=1
    rw[d _ (by rw[hxn];exact h2.1),xt hg,if_pos rfl]
   ·obtain⟨k,k1,k2,k3⟩:=c h hh
    refine⟨k,k1,fun e=>k2 ?_,k3⟩
    rw[xt hg];split
    ·rfl
    ·exact e
  ·rw[List.map_cons,List.mem_cons,not_or] at hk
   show((wokeM (W.zU x.id.toNat 1) t).g k).st=_
   rw[d k hk.2,xt hg,if_neg (fun e=>hk.1 (by omega))]
theorem PM {B:Nat}{W:Wd}(h:WF B W):EN W (yY W).1 (yY W).2:=by
 unfold yY;split
 ·simp only
  obtain⟨a,b⟩:=YN _ W.hp ((W.clock:Int)+1) (Nat.le_refl _)
  have hall:∀x,x∈(yZ W.hp ((W.clock:Int)+1)).1∨x∈(yZ W.hp ((W.clock:Int)+1)).2→x∈W.hp:=fun x hx=>a.mem_iff.1 (List.mem_append.2 hx)
  have hnd:=(a.map (·.id)).nodup_iff.2 h.hp.2.1
  rw[List.map_append,List.nodup_append] at hnd;have hw:=PU (yZ W.hp ((W.clock:Int)+1)).1 { W with clock:=W.clock+1,hp:=(yZ W.hp ((W.clock:Int)+1)).2 } (fun x hx=>by
   obtain⟨k1,k2,-⟩:=h.hp.2.2.1 x (hall x (.inl hx));exact⟨k1,k2⟩) hnd.1
  exact⟨hw.nd,hw.len,hw.st,hw.oth⟩
 ·exact⟨by simp,rfl,fun h hh=>by simp at hh,fun _ _=>rfl⟩
def Pm.l (P:Pm):List Int:=P.q.nx.toList++P.q.l
def Mm.l (M:Mm):List Int:=if M.G = -1 then[] else[M.G]
def Sd.all (X:Sd):List Int:=X.gl++(X.ps.flatMap Pm.l++X.ms.flatMap Mm.l)
theorem UC {α:Type}{f:α→List Int}:∀{l:List α} {i:Nat} {a:α},l[i]?=some a→∃R,(l.flatMap f).Perm (f a++R)∧∀b,((l.set i b).flatMap f).Perm (f b++R)
 | [],i,a,h=>by simp at h
 | x::l,0,a,h=>by
  simp at h;subst h
  exact⟨l.flatMap f,by simp,fun b=>by simp⟩
 | x::l,i+1,a,h=>by
  obtain⟨R,h1,h2⟩:=UC (f:=f) (l:=l) (i:=i) (a:=a) (by simpa using h)
  refine⟨f x++R,?_,fun b=>?_⟩
  ·rw[List.flatMap_cons]
   exact(h1.append_left (f x)).trans (by rw[←List.append_assoc,←List.append_assoc];exact List.perm_append_comm.append_right R)
  ·rw[QZ,List.flatMap_cons]
   exact((h2 b).append_left (f x)).trans (by rw[←List.append_assoc,←List.append_assoc];exact List.perm_append_comm.append_right R)
theorem TC {X:Sd}{i:Nat}(hi:i<X.ps.length):∃R,X.all.Perm (X.gl++((X.p i).l++R))∧∀(Y:Sd) (P:Pm),Y.ps=X.ps.set i P→Y.ms=X.ms→Y.all.Perm (Y.gl++(P.l++R)):=by
 obtain⟨R,h1,h2⟩:=UC (f:=Pm.l) (X.Zt hi)
 refine⟨R++X.ms.flatMap Mm.l,?_,fun Y P e1 e2=>?_⟩
 ·unfold Sd.all
  refine List.Perm.append_left _ ?_
  rw[←List.append_assoc];exact h1.append_right _
 ·unfold Sd.all
  refine List.Perm.append_left _ ?_
  rw[e1,e2,←List.append_assoc];exact(h2 P).append_right _
theorem M7 {X:Sd}{i:Nat}(hi:i<X.ms.length):∃R,X.all.Perm ((X.m i).l++R)∧∀(Y:Sd) (M:Mm),Y.ms=X.ms.set i M→Y.ps=X.ps→Y.gl=X.gl→Y.all.Perm (M.l++R):=by
 obtain⟨R,h1,h2⟩:=UC (f:=Mm.l) (X.SP hi)
 have key:∀(a b c d:List Int),c.Perm (d++R)→(a++(b++c)).Perm (d++(a++(b++R))):=fun a b c d h=>by
  refine((h.append_left b).append_left a).trans ?_
  have e1:(b++(d++R)).Perm (d++(b++R)):=by
   rw[←List.append_assoc,←List.append_assoc];exact List.perm_append_comm.append_right R
  exact(e1.append_left a).trans (List.perm_append_comm_assoc a d (b++R))
 exact⟨X.gl++(X.ps.flatMap Pm.l++R),key _ _ _ _ h1,fun Y M e1 e2 e3=>by
  unfold Sd.all;rw[e1,e2,e3];exact key _ _ _ _ (h2 M)⟩
theorem Mn (N:Nat)(q:LQ)(v:Int)(gl:List Int)(hq:q.nx=none):((Z3 N q v gl).2.1++((Z3 N q v gl).1.nx.toList++(Z3 N q v gl).1.l)).Perm (gl++(v::q.l))∧(Z3 N q v gl).1.nx=none:=by
 unfold Z3;split
 ·refine⟨?_,hq⟩
  simp only[hq,Option.toList_none,List.nil_append];exact List.Perm.append_left _ (List.perm_append_comm (l₁:=q.l) (l₂:=[v]))
 ·refine⟨?_,hq⟩
  simp only[hq,Option.toList_none,List.nil_append];rw[List.append_assoc];refine List.Perm.append_left _ ?_
  have e:q.l=q.l.take (q.l.length / 2)++q.l.drop (q.l.length / 2):=(List.take_append_drop _ _).symm
  have h2:(v::q.l)=[v]++(q.l.take (q.l.length / 2)++q.l.drop (q.l.length / 2)):=by rw[←e];rfl
  rw[h2,←List.append_assoc];exact List.perm_append_comm.append_right _
theorem YQ (N:Nat)(q:LQ)(gl:List Int):((mTurn N q gl).2.1++((mTurn N q gl).1.nx.toList++(mTurn N q gl).1.l)).Perm (gl++(q.nx.toList++q.l))∧(mTurn N q gl).1.nx=none:=by
 unfold mTurn;cases h:q.nx with
 | none=>simp only;exact⟨by rw[h],h⟩
 | some v =>
  simp only
  obtain⟨a,b⟩:=Mn N ⟨none,q.l⟩ v gl rfl
  exact⟨by simpa using a,b⟩
theorem Mt (q:LQ):(q.nx.toList++q.l).Perm ((mGet q).2.toList++((mGet q).1.nx.toList++(mGet q).1.l)):=by
 unfold mGet;cases h:q.nx with
 | none =>
  cases h2:q.l with
  | nil=>simp[h,h2]
  | cons x t=>simp
 | some v=>simp
theorem Tt {α:Type}(x:α)(t:List α)(k:Nat)(hk:1≤k):(x::t)=x::(((x::t).take k).tail++(x::t).drop k):=by
 obtain⟨j,rfl⟩:∃j,k=j+1:=⟨k-1,by omega⟩
 simp
theorem SK (N:Nat)(q:LQ)(gl:List Int)(k:Int):(gl++(q.nx.toList++q.l)).Perm ((mFetch N q gl k).2.2.toList++((mFetch N q gl k).2.1++((mFetch N q gl k).1.nx.toList++(mFetch N q gl k).1.l))):=by
 unfold mFetch;cases gl with
 | nil=>simp
 | cons x t =>
  simp only[Option.toList_some];have h1:=Pd N q (x::t) k
  generalize YS N q (x::t) k=j at *
  have e:=Tt x t j h1;generalize ((x::t).take j).tail=A at *
  generalize (x::t).drop j=Bq at *
  rw[e];simp only[List.cons_append,List.nil_append,List.perm_cons];have:(A++Bq++(q.nx.toList++q.l)).Perm (Bq++(q.nx.toList++q.l)++A):=by
   rw[List.append_assoc];exact List.perm_append_comm
  simpa [List.append_assoc] using this
theorem Rk (N:Nat)(q f:LQ):((q.nx.toList++q.l)++(f.nx.toList++f.l)).Perm ((mSteal N q f).2.2.toList++(((mSteal N q f).1.nx.toList++(mSteal N q f).1.l)++((mSteal N q f).2.1.nx.toList++(mSteal N q f).2.1.l))):=by
 unfold mSteal;cases h:f.l with
 | nil =>
  simp only[Option.toList_none,List.append_nil];exact List.perm_append_comm
 | cons x t =>
  simp only[Option.toList_some];obtain⟨j,hj⟩:∃j,j=min (((x::t).length+1) / 2) (N-q.l.length+1):=⟨_,rfl⟩
  rw[←hj];have h1:1≤j:=by rw[hj,List.length_cons];omega
  have e:=Tt x t j h1;generalize ((x::t).take j).tail=A at *
  generalize (x::t).drop j=Bq at *
  rw[e];have h2:(q.nx.toList++q.l++(f.nx.toList++x::(A++Bq))).Perm (x::(q.nx.toList++q.l++(f.nx.toList++(A++Bq)))):=by
   rw[←List.append_assoc,←List.append_assoc];exact List.perm_middle
  refine h2.trans ?_
  simp only[List.cons_append,List.nil_append,List.perm_cons];have h3:(f.nx.toList++(A++Bq)).Perm (A++(f.nx.toList++Bq)):=by
   rw[←List.append_assoc,←List.append_assoc];exact List.perm_append_comm.append_right _
  have h4:=h3.append_left (q.nx.toList++q.l)
  simpa [List.append_assoc] using h4
theorem XS {X:Sd}{i:Nat}(hi:i<X.ps.length)(P:Pm)(j:Nat):(X.zI i P).p j=if i=j then P else X.p j:=by
 unfold Sd.zI Sd.p;simp only[List.getD_eq_getElem?_getD,List.getElem?_set]
 split
 ·simp[hi]
 ·rfl
theorem xk {X:Sd}{i:Nat}(hi:i<X.ms.length)(M:Mm)(j:Nat):(X.zP i M).m j=if i=j then M else X.m j:=by
 unfold Sd.zP Sd.m;simp only[List.getD_eq_getElem?_getD,List.getElem?_set]
 split
 ·simp[hi]
 ·rfl
theorem JJ {a b c R:List Int}(h:a.Perm (b++c)):(a++R).Perm (b++(c++R)):=by rw[←List.append_assoc];exact h.append_right R
theorem Ma {X:Sd}{i:Nat}(hi:i<X.ps.length):(yQ X i).all.Perm X.all:=by
 obtain⟨R,h1,h2⟩:=TC hi;refine(h2 (yQ X i) _ rfl rfl).trans (List.Perm.trans ?_ h1.symm)
 have h3:=(YQ (X.p i).N (X.p i).q X.gl).1
 have h4:=h3.append_right R;simpa [yQ,Pm.l,List.append_assoc] using h4
theorem Nz {X:Sd}{i:Nat}(hi:i<X.ps.length):X.all.Perm ((nearM X i).2.toList++(nearM X i).1.all):=by
 obtain⟨R,h1,h2⟩:=TC hi;unfold nearM;split
 ·rename_i h
  simp only
  cases hg:X.gl with
  | nil=>exact absurd hg h.2
  | cons x t =>
   refine h1.trans ?_
   rw[hg];have:=h2 { X with gl:=t } (X.p i) (by show X.ps=X.ps.set i (X.p i);rw[yt _ _ _ (X.Zt hi)]) rfl
   exact List.Perm.cons _ this.symm
 ·have hG:=Mt (X.p i).q
  split
  ·rename_i g hg
   rw[hg] at hG;simp only
   refine h1.trans ?_
   have h3:=h2 (X.zI i { X.p i with q:=(mGet (X.p i).q).1 }) _ rfl rfl
   refine List.Perm.trans ?_ (h3.symm.append_left [g])
   have h4:(X.gl++((X.p i).l++R)).Perm (X.gl++([g]++(((mGet (X.p i).q).1.nx.toList++(mGet (X.p i).q).1.l)++R))):=(JJ hG).append_left X.gl
   refine h4.trans ?_
   rw[←List.append_assoc];refine(List.perm_append_comm.append_right _).trans ?_
   rw[List.append_assoc];exact List.Perm.refl _
  ·rename_i hg
   refine h1.trans ?_
   have h3:=h2 { X.zI i { X.p i with q:=(mFetch (X.p i).N (X.p i).q X.gl 0).1 } with gl:=(mFetch (X.p i).N (X.p i).q X.gl 0).2.1 } _ rfl rfl
   refine List.Perm.trans ?_ (h3.symm.append_left _)
   have h5:=SK (X.p i).N (X.p i).q X.gl 0
   have h6:=h5.append_right R;simpa [Pm.l,List.append_assoc] using h6
theorem Ph (N:Nat)(q:LQ)(gl:List Int)(h:q.nx=none):mTurn N q gl=(q,gl,0):=by unfold mTurn;rw[h]
theorem YE {X:Sd}{i:Nat}(hi:i<X.ps.length)(h:(nearM (yQ X i) i).2=none):(X.p i).q=⟨none,[]⟩∧X.gl=[]∧(nearM (yQ X i) i).1=X:=by
 have hl:i<(yQ X i).ps.length:=by unfold yQ Sd.zI;simpa using hi
 have hp:(yQ X i).p i={ X.p i with q:=(mTurn (X.p i).N (X.p i).q X.gl).1 }:=by
  have:=XS hi { X.p i with q:=(mTurn (X.p i).N (X.p i).q X.gl).1 } i
  rw[if_pos rfl] at this;exact this
 have hn:=(YQ (X.p i).N (X.p i).q X.gl).2
 have hgl:(yQ X i).gl=(mTurn (X.p i).N (X.p i).q X.gl).2.1:=rfl
 have h':=h;unfold nearM at h;split at h
 ·rename_i h0
  simp only at h
  rw[List.head?_eq_none_iff] at h
  exact absurd h h0.2
 ·split at h
  ·cases h
  ·rename_i hg
   have e1:((yQ X i).p i).q.l=[]:=by
    unfold mGet at hg;rw[hp] at hg ⊢;simp only[hn] at hg;cases e:(mTurn (X.p i).N (X.p i).q X.gl).1.l with
    | nil=>rfl
    | cons x t=>rw[e] at hg;cases hg
   have e2:(yQ X i).gl=[]:=by
    unfold mFetch at h;cases e:(yQ X i).gl with
    | nil=>rfl
    | cons x t=>rw[e] at h;cases h
   have hq:(X.p i).q.nx=none:=by
    cases e:(X.p i).q.nx with
    | none=>rfl
    | some v =>
     rw[hp] at e1;rw[hgl] at e2;simp only at e1
     unfold mTurn Z3 at e1 e2;simp only[e] at e1 e2;split at e1
     ·simp at e1
     ·rename_i hc;rw[if_neg hc] at e2;simp at e2
   have ht:=Ph (X.p i).N (X.p i).q X.gl hq
   have e3:(X.p i).q.l=[]:=by rw[hp,ht] at e1;exact e1
   have e4:X.gl=[]:=by rw[hgl,ht] at e2;exact e2
   have hqq:(X.p i).q=⟨none,[]⟩:=by
    cases hq2:(X.p i).q with
    | mk a b=>rw[hq2] at hq e3;simp only at hq e3;subst hq;subst e3;rfl
   have hT:yQ X i=X:=by
    unfold yQ;rw[ht];unfold Sd.zI;simp only
    rw[yt _ _ _ (X.Zt hi)]
   refine⟨hqq,e4,?_⟩
   rw[hT] at h' ⊢
   unfold nearM;rw[if_neg (fun hc=>hc.2 e4)]
   have hg2:(mGet (X.p i).q).2=none:=by rw[hqq];rfl
   rw[hg2];simp only
   unfold Sd.zI;rw[e4,hqq];simp only[mFetch];have:({ X.p i with q:=⟨none,[]⟩ }:Pm)=X.p i:=by rw[←hqq]
   rw[this,yt _ _ _ (X.Zt hi)]
   show({ X with gl:=[] }:Sd)=X
   rw[←e4]
structure Sl where
 pa:Option Addr
 ma:Option Addr
 ld:List (Nat×Nat)
 mc:Nat
def zG (w0 w:World)(b sp:Nat)(L:Sl)(X:Sd)(R:List zv):Prop:=∃S:Sa,S.fits X∧(S.pa=L.pa∧(S.ma=L.ma∧S.mc=L.mc)∧S.ld=L.ld)∧Own w0 w (yV b sp X S++R)
section
variable {w0 w:World} {b sp:Nat} {L:Sl} {X:Sd} {R:List zv}
theorem Own.sat (h:Own w0 w (Zb b sp X::R)):∃L,zG w0 w b sp L X R:=by
 obtain⟨S,hf,h1⟩:=h.Dj;exact⟨⟨S.pa,S.ma,S.ld,S.mc⟩,S,hf,⟨rfl,⟨rfl,rfl⟩,rfl⟩,h1⟩
theorem zG.to (h:zG w0 w b sp L X R):Own w0 w (Zb b sp X::R):=by obtain⟨S,hf,-,h⟩:=h;exact Own.FX hf h
theorem zG.step {w':World}(h:zG w0 w b sp L X R)(hb:Below w.heap.size w w'):zG w0 w' b sp L X R:=by obtain⟨S,hf,e,h⟩:=h;exact⟨S,hf,e,h.step hb⟩
theorem zG.bel (h:zG w0 w b sp L X R):Below w0.heap.size w0 w:=by obtain⟨S,hf,e,h⟩:=h;exact h.bel
theorem zG.ZP (h:zG w0 w b sp L X R):w.cell? ⟨b,11,none⟩=some (.pointer (some ⟨sp,0,none⟩)):=by obtain⟨S,hf,e,h⟩:=h;exact(h.zi 0 rfl 11 _ rfl).1
theorem zG.Zw (h:zG w0 w b sp L X R):∃c,w.cell? ⟨b,12,none⟩=some (.slice L.pa X.ps.length c):=by obtain⟨S,hf,⟨e,-,-⟩,h⟩:=h;rw[←e];exact⟨_,(h.zi 0 rfl 12 _ rfl).1⟩
theorem zG.xS (h:zG w0 w b sp L X R):∃c,w.cell? ⟨b,13,none⟩=some (.slice L.ma X.ms.length c):=by obtain⟨S,hf,⟨-,e,-⟩,h⟩:=h;rw[←e.1];exact⟨_,(h.zi 0 rfl 13 _ rfl).1⟩
theorem zG.Eb (h:zG w0 w b sp L X R):w.cell? ⟨b,13,none⟩=some (.slice L.ma X.ms.length L.mc):=by obtain⟨S,hf,⟨-,e,-⟩,h⟩:=h;rw[←e.1,←e.2];exact(h.zi 0 rfl 13 _ rfl).1
theorem zG.FH (h:zG w0 w b sp L X R):w.cell? ⟨b,15,none⟩=some (.int .i64 X.sl):=by obtain⟨S,hf,e,h⟩:=h;exact(h.zi 0 rfl 15 _ rfl).1
theorem zG.Mc (h:zG w0 w b sp L X R):w.cell? ⟨b,16,none⟩=some (.int .i64 (X.st:Int))∧w.frozen? ⟨b,16,none⟩=false:=by obtain⟨S,hf,e,h⟩:=h;exact h.zi 0 rfl 16 _ rfl
theorem zG.pa (h:zG w0 w b sp L X R){i:Nat}(hi:i<X.ps.length):∃pb off p g,L.pa=some ⟨pb,off,none⟩∧L.ld[i]?=some (p,g):=by
 obtain⟨S,hf,⟨e1,e2,e3⟩,h⟩:=h;obtain⟨pb,off,p,g,k1,k2,-⟩:=PY h hf hi;exact⟨pb,off,p,g,by rw[←e1];exact k1,by rw[←e3];exact k2⟩
theorem zG.ma (h:zG w0 w b sp L X R){i:Nat}(hi:i<X.ms.length):∃mb off,L.ma=some ⟨mb,off,none⟩:=by
 obtain⟨S,hf,⟨e1,e2,e3⟩,h⟩:=h;obtain⟨mb,off,k1,-⟩:=PJ h hi;exact⟨mb,off,by rw[←e2.1];exact k1⟩
theorem zG.proc (h:zG w0 w b sp L X R){i pb off p g:Nat}(hi:i<X.ps.length)(hpa:L.pa=some ⟨pb,off,none⟩)(hld:L.ld[i]?=some (p,g)) :
  (w.cell? ⟨pb,off+i*3,none⟩=some (.pointer (some ⟨p,0,none⟩))∧w.cell? ⟨pb,off+i*3+1,none⟩=some (.int .i64 ((X.p i).tu:Int))∧w.cell? ⟨pb,off+i*3+2,none⟩=some (.int .i64 (X.p i).by_)) ∧
  w.frozen? ⟨pb,off+i*3+1,none⟩=false∧w.frozen? ⟨pb,off+i*3+2,none⟩=false:=by
 obtain⟨S,hf,⟨e1,e2,e3⟩,h⟩:=h;obtain⟨pb',off',p',g',k1,k2,k3⟩:=PY h hf hi;rw[e1,hpa] at k1;rw[e3,hld] at k2
 cases k1;cases k2
 exact k3
theorem zG.xQ (h:zG w0 w b sp L X R){i mb off:Nat}(hi:i<X.ms.length)(hma:L.ma=some ⟨mb,off,none⟩) :
  (w.cell? ⟨mb,off+i*3,none⟩=some (.int .i64 (X.m i).P)∧w.cell? ⟨mb,off+i*3+1,none⟩=some (.int .i64 (X.m i).G)∧w.cell? ⟨mb,off+i*3+2,none⟩=some (.int .i64 (X.m i).L)) ∧
  w.frozen? ⟨mb,off+i*3,none⟩=false∧w.frozen? ⟨mb,off+i*3+1,none⟩=false∧w.frozen? ⟨mb,off+i*3+2,none⟩=false:=by
 obtain⟨S,hf,⟨e1,e2,e3⟩,h⟩:=h;obtain⟨mb',off',k1,k2⟩:=PJ h hi;rw[e2.1,hma] at k1;cases k1
 exact k2
theorem zG.Lw (h:zG w0 w b sp L X R){i pb off:Nat}(hi:i<X.ps.length)(hpa:L.pa=some ⟨pb,off,none⟩)(t:Int):zG w0 (w.setCell ⟨pb,off+i*3+2,none⟩ (.int .i64 t)) b sp L (X.zI i { X.p i with by_:=t }) R:=by
 obtain⟨S,hf,⟨e1,e2,e3⟩,h⟩:=h;exact⟨S,hf.zI _ _,⟨e1,e2,e3⟩,GQ h hf hi (by rw[e1];exact hpa) t⟩
theorem zG.Hj (h:zG w0 w b sp L X R){i pb off:Nat}(hi:i<X.ps.length)(hpa:L.pa=some ⟨pb,off,none⟩)(t:Nat):zG w0 (w.setCell ⟨pb,off+i*3+1,none⟩ (.int .i64 (t:Int))) b sp L (X.zI i { X.p i with tu:=t }) R:=by
 obtain⟨S,hf,⟨e1,e2,e3⟩,h⟩:=h;exact⟨S,hf.zI _ _,⟨e1,e2,e3⟩,Gi h hf hi (by rw[e1];exact hpa) t⟩
theorem zG.zI (h:zG w0 w b sp L X R){i mb off:Nat}(hi:i<X.ms.length)(hma:L.ma=some ⟨mb,off,none⟩)(t:Int):zG w0 (w.setCell ⟨mb,off+i*3,none⟩ (.int .i64 t)) b sp L (X.zP i { X.m i with P:=t }) R:=by
 obtain⟨S,hf,⟨e1,e2,e3⟩,h⟩:=h;exact⟨S,hf.zP _ _,⟨e1,e2,e3⟩,Fj h hi (by rw[e2.1];exact hma) t⟩
theorem zG.ye (h:zG w0 w b sp L X R){i mb off:Nat}(hi:i<X.ms.length)(hma:L.ma=some ⟨mb,off,none⟩)(t:Int):zG w0 (w.setCell ⟨mb,off+i*3+1,none⟩ (.int .i64 t)) b sp L (X.zP i { X.m i with G:=t }) R:=by
 obtain⟨S,hf,⟨e1,e2,e3⟩,h⟩:=h;exact⟨S,hf.zP _ _,⟨e1,e2,e3⟩,Gk h hi (by rw[e2.1];exact hma) t⟩
theorem zG.setL (h:zG w0 w b sp L X R){i mb off:Nat}(hi:i<X.ms.length)(hma:L.ma=some ⟨mb,off,none⟩)(t:Int):zG w0 (w.setCell ⟨mb,off+i*3+2,none⟩ (.int .i64 t)) b sp L (X.zP i { X.m i with L:=t }) R:=by
 obtain⟨S,hf,⟨e1,e2,e3⟩,h⟩:=h;exact⟨S,hf.zP _ _,⟨e1,e2,e3⟩,Fs h hi (by rw[e2.1];exact hma) t⟩
theorem zG.zU (h:zG w0 w b sp L X R)(t:Nat):zG w0 (w.setCell ⟨b,16,none⟩ (.int .i64 (t:Int))) b sp L { X with st:=t } R:=by
 obtain⟨S,hf,e,h⟩:=h;exact⟨S,⟨hf.w,hf.l⟩,e,h.setAt 0 rfl 16 _⟩
theorem zG.world (h:zG w0 w b sp L X R):∃T Q,Own w0 w (Xg b X.W T::(Q++R))∧∀w' W' R',Own w0 w' (Xg b W' T::(Q++R'))→zG w0 w' b sp L { X with W:=W' } R':=by
 obtain⟨S,hf,e,h⟩:=h;refine⟨UI sp X S,WU X S,h.Dl hf,fun w' W' R' h'=>?_⟩
 obtain⟨D',h1,h2⟩:=Own.Di (X:=X) (S:=S) hf.l h'
 exact⟨_,h1,e,h2⟩
theorem zG.tail (h:zG w0 w b sp L X R):∃S,Own w0 w (R++S)∧∀w' R',Own w0 w' (R'++S)→zG w0 w' b sp L X R':=by
 obtain⟨S,hf,e,h⟩:=h;exact⟨yV b sp X S,h.perm List.perm_append_comm,fun w' R' h'=>⟨S,hf,e,h'.perm List.perm_append_comm⟩⟩
theorem zG.less {A:zv}(h:zG w0 w b sp L X (A::R)):zG w0 w b sp L X R:=by
 obtain⟨S,h1,h2⟩:=h.tail;exact h2 _ _ (Own.drop h1)
theorem MN (h:zG w0 w b sp L X R){i p g:Nat}(hi:i<X.ps.length)(hld:L.ld[i]?=some (p,g)) :
  Calls Tryz.prog 83 #[.pointer (some ⟨p,0,none⟩)] w fun r w'=>r=.returned (Zc (mGet (X.p i).q).2)∧zG w0 w' b sp L (X.zI i { X.p i with q:=(mGet (X.p i).q).1 }) R:=by
 obtain⟨S,hf,⟨e1,e2,e3⟩,h⟩:=h;exact(GJ h hf hi (by rw[e3];exact hld) (fun R' h'=>Lj h')).mono (fun r w' hh=>⟨hh.1,S,hf.zI _ _,⟨e1,e2,e3⟩,hh.2⟩)
theorem Ot (h:zG w0 w b sp L X R){i p g:Nat}(hi:i<X.ps.length)(hld:L.ld[i]?=some (p,g))(hl:X.gl.length≤1000000) :
  Calls Tryz.prog 94 #[.pointer (some ⟨p,0,none⟩),.pointer (some ⟨b,14,none⟩)] w fun r w'=>r=.returned (.int .i64 ((mTurn (X.p i).N (X.p i).q X.gl).2.2:Int))∧zG w0 w' b sp L (yQ X i) R:=by
 obtain⟨S,hf,⟨e1,e2,e3⟩,h⟩:=h;have e:(mTurn (X.p i).N (X.p i).q X.gl).1=⟨none,(mTurn (X.p i).N (X.p i).q X.gl).1.l⟩:=by
  have:=(YQ (X.p i).N (X.p i).q X.gl).2
  cases h2:(mTurn (X.p i).N (X.p i).q X.gl).1 with
  | mk a c=>rw[h2] at this;simp only at this;subst this;rfl
 refine(R4 h hf hi (by rw[e3];exact hld) (fun R' h'=>ON h' hl)).mono (fun r w' hh=>?_)
 obtain⟨h1,a,c,h2⟩:=hh;refine⟨h1,{ S with ga:=a,gc:=c },⟨hf.w,by rw[hf.l];unfold yQ Sd.zI;simp⟩,⟨e1,e2,e3⟩,?_⟩
 rw[←e] at h2;exact h2
theorem MV (h:zG w0 w b sp L X R){i p g:Nat}(hi:i<X.ps.length)(hld:L.ld[i]?=some (p,g))(hl:X.gl.length≤1000000)(k:Int) :
  Calls Tryz.prog 107 #[.pointer (some ⟨p,0,none⟩),.pointer (some ⟨b,14,none⟩),.int .i64 k] w fun r w'=>r=.returned (Zc (mFetch (X.p i).N (X.p i).q X.gl k).2.2)∧zG w0 w' b sp L { X.zI i { X.p i with q:=(mFetch (X.p i).N (X.p i).q X.gl k).1 } with gl:=(mFetch (X.p i).N (X.p i).q X.gl k).2.1 } R:=by
 obtain⟨S,hf,⟨e1,e2,e3⟩,h⟩:=h;refine(R4 h hf hi (by rw[e3];exact hld) (fun R' h'=>PH h' k hl)).mono (fun r w' hh=>?_)
 obtain⟨h1,a,c,h2⟩:=hh;exact⟨h1,{ S with ga:=a,gc:=c },⟨hf.w,by rw[hf.l];unfold Sd.zI;simp⟩,⟨e1,e2,e3⟩,h2⟩
theorem RR (h:zG w0 w b sp L X R){i p g:Nat}(hi:i<X.ps.length)(hld:L.ld[i]?=some (p,g))(hl:X.gl.length≤1000000)(v:Int) :
  Calls Tryz.prog 86 #[.pointer (some ⟨p,0,none⟩),.int .i64 v,.pointer (some ⟨b,14,none⟩)] w fun r w'=>r=.returned (.int .i64 ((xx (X.p i).N (X.p i).q v X.gl).2.2:Int))∧zG w0 w' b sp L { X.zI i { X.p i with q:=(xx (X.p i).N (X.p i).q v X.gl).1 } with gl:=(xx (X.p i).N (X.p i).q v X.gl).2.1 } R:=by
 obtain⟨S,hf,⟨e1,e2,e3⟩,h⟩:=h;refine(R4 h hf hi (by rw[e3];exact hld) (fun R' h'=>PG h' v hl)).mono (fun r w' hh=>?_)
 obtain⟨h1,a,c,h2⟩:=hh;exact⟨h1,{ S with ga:=a,gc:=c },⟨hf.w,by rw[hf.l];unfold Sd.zI;simp⟩,⟨e1,e2,e3⟩,h2⟩
theorem FO {S:Sa}{w':World}{gl:List Int}(hf:S.fits X)(e:S.pa=L.pa∧(S.ma=L.ma∧S.mc=L.mc)∧S.ld=L.ld)(h:Own w0 w' (Ya (Ur b sp X S) gl::yD (Y6 (WY S.ld X.ps))::(OT X S++R))):zG w0 w' b sp L { X with gl:=gl } R:=by
 obtain⟨a,c,h2⟩:=Own.Df (X:=X) (S:=S) (ps:=X.ps) rfl h rfl
 exact⟨{ S with ga:=a,gc:=c },⟨hf.w,hf.l⟩,e,h2⟩
theorem XB (h:zG w0 w b sp L X R)(a:Option Addr)(n c:Nat)(m:List Int)(hn:n=m.length)(hm:yT w a m)(hl:X.gl.length+m.length≤1000000000) :
  Calls Tryz.prog 39 #[.pointer (some ⟨b,14,none⟩),.slice a n c] w fun r w'=>r=.returned (.tuple #[])∧zG w0 w' b sp L { X with gl:=X.gl++m } R:=by
 obtain⟨S,hf,e,h⟩:=h;exact(O8 h.EP a n c m hn hm hl).mono (fun r w' hh=>⟨hh.1,FO hf e hh.2⟩)
theorem MD (h:zG w0 w b sp L X R)(k:Int)(hl:X.gl.length≤1000000) :
  Calls Tryz.prog 106 #[.pointer (some ⟨b,14,none⟩),.int .i64 k] w fun r w'=>∃a' c',r=.returned (.slice a' (xo k X.gl.length) c')∧yT w' a' (X.gl.take (xo k X.gl.length))∧zG w0 w' b sp L { X with gl:=X.gl.drop (xo k X.gl.length) } R:=by
 obtain⟨S,hf,e,h⟩:=h;refine(Pg h.EP k hl).mono (fun r w' hh=>?_)
 obtain⟨a',c',h1,h2⟩:=hh;exact⟨a',c',h1,(h2.row 0 rfl).ints,FO hf e h2.drop⟩
theorem zG.loc (h:zG w0 w b sp L X R){i p g:Nat}(hi:i<X.ps.length)(hld:L.ld[i]?=some (p,g)):yu w p g (X.p i).N (X.p i).q:=by
 obtain⟨S,hf,⟨e1,e2,e3⟩,h⟩:=h;obtain⟨F,⟨-,h1⟩,-⟩:=(h.pick 2 rfl).XC (Wp (Ul (by rw[e3];exact hld) (X.Zt hi)))
 exact h1
theorem P8 (h:zG w0 w b sp L X R){i p g:Nat}(hi:i<X.ps.length)(hld:L.ld[i]?=some (p,g)) :
  Calls Tryz.prog 56 #[.pointer (some ⟨p,0,none⟩)] w fun r w'=>r=.returned (.int .i64 (X.p i).q.num)∧w'=w:=Tf w p g _ _ (h.loc hi hld)
theorem LG (h:zG w0 w b sp L X R){i v p g p' g':Nat}(hi:i<X.ps.length)(hv:v<X.ps.length)(hne:i≠v)(hld:L.ld[i]?=some (p,g))(hld':L.ld[v]?=some (p',g')) :
  Calls Tryz.prog 96 #[.pointer (some ⟨p,0,none⟩),.pointer (some ⟨p',0,none⟩)] w fun r w'=>r=.returned (Zc (mSteal (X.p i).N (X.p i).q (X.p v).q).2.2) ∧
   zG w0 w' b sp L ((X.zI i { X.p i with q:=(mSteal (X.p i).N (X.p i).q (X.p v).q).1 }).zI v { X.p v with q:=(mSteal (X.p i).N (X.p i).q (X.p v).q).2.1 }) R:=by
 obtain⟨S,hf,⟨e1,e2,e3⟩,h⟩:=h;rw[←e3] at hld hld'
 have k0:=(h.pick 2 rfl).FL
 have hL:(Y6 (WY S.ld X.ps))[i]?=some (Zx (Kq (p,g) (X.p i))):=Wp (Ul hld (X.Zt hi))
 have hL':(Y6 (WY S.ld X.ps))[v]?=some (Zx (Kq (p',g') (X.p v))):=Wp (Ul hld' (X.Zt hv))
 obtain⟨R',r1,r2⟩:=V3 _ i v _ _ hL hL' hne;have k1:Own w0 w (Zx (Kq (p,g) (X.p i))::Zx (Kq (p',g') (X.p v))::(R'++(yV b sp X S++R).eraseIdx 2)):=k0.perm (r1.append_right _)
 refine(Q5 k1).mono (fun r w' hh=>⟨hh.1,?_⟩)
 have k2:Own w0 w' ((Y6 (WY S.ld (X.ps.set i { X.p i with q:=(mSteal (X.p i).N (X.p i).q (X.p v).q).1 } |>.set v { X.p v with q:=(mSteal (X.p i).N (X.p i).q (X.p v).q).2.1 })))++(yV b sp X S++R).eraseIdx 2):=by
  rw[←VM v hld',←VM i hld,←WJ,←WJ]
  exact hh.2.perm ((r2 _ _).append_right _)
 have k3:=(Own.Qz k2).back (As:=yV b sp X S++R) (i:=2) (by simp[yV])
 have ev:(X.ps.set i { X.p i with q:=(mSteal (X.p i).N (X.p i).q (X.p v).q).1 })[v]?=some (X.p v):=by rw[List.getElem?_set_ne hne];exact X.Zt hv
 have e4:YK S.ld ((X.ps.set i { X.p i with q:=(mSteal (X.p i).N (X.p i).q (X.p v).q).1 }).set v { X.p v with q:=(mSteal (X.p i).N (X.p i).q (X.p v).q).2.1 })=YK S.ld X.ps:=(P0 hld' ev _).trans (P0 hld (X.Zt hi) _)
 refine⟨S,(hf.zI _ _).zI _ _,⟨e1,e2,e3⟩,?_⟩
 have hlen:((X.ps.set i { X.p i with q:=(mSteal (X.p i).N (X.p i).q (X.p v).q).1 }).set v { X.p v with q:=(mSteal (X.p i).N (X.p i).q (X.p v).q).2.1 }).length=X.ps.length:=by simp
 unfold yV UI Sd.zI;simp only
 rw[hlen,e4];exact k3
end
end Go.Proofs.YtlkjheheofgdgaaGreat
open Go Go.RowKit
namespace Go.Proofs.YtlkjheheofgdgaaGreat
theorem Ln {X:Sd}{i:Nat}(h:(X.p i).tu%7=6)(hg:X.gl≠[]):nearM X i=({ X with gl:=X.gl.tail },X.gl.head?):=by unfold nearM;rw[if_pos ⟨h,hg⟩]
theorem Rf {X:Sd}{i:Nat}(h:¬((X.p i).tu%7=6∧X.gl≠[])):nearM X i=match (mGet (X.p i).q).2 with
  | some g=>(X.zI i { X.p i with q:=(mGet (X.p i).q).1 },some g)
  | none=>({ X.zI i { X.p i with q:=(mFetch (X.p i).N (X.p i).q X.gl 0).1 } with gl:=(mFetch (X.p i).N (X.p i).q X.gl 0).2.1 },(mFetch (X.p i).N (X.p i).q X.gl 0).2.2):=by unfold nearM;rw[if_neg h];rfl
theorem OQ {q:LQ}(h:(mGet q).2=none):(mGet q).1=q:=by
 unfold mGet at *;split
 ·rename_i e;rw[e] at h;cases h
 ·rename_i e
  rw[e] at h;simp only at h
  split
  ·rfl
  ·rename_i e2;rw[e2] at h;cases h
theorem Nd {X:Sd}{i:Nat}(hi:i<X.ps.length){P:Pm}(e:P=X.p i):X.zI i P=X:=by
 unfold Sd.zI;rw[e,yt _ _ _ (X.Zt hi)]
def Vu (X:Sd)(i:Nat):Sd×Option Int:=match (mGet (X.p i).q).2 with
  | some g=>(X.zI i { X.p i with q:=(mGet (X.p i).q).1 },some g)
  | none=>({ X.zI i { X.p i with q:=(mFetch (X.p i).N (X.p i).q X.gl 0).1 } with gl:=(mFetch (X.p i).N (X.p i).q X.gl 0).2.1 },(mFetch (X.p i).N (X.p i).q X.gl 0).2.2)
theorem M9 {w0 w:World}{b sp:Nat}{L:Sl}{X:Sd}{R:List zv}(h:zG w0 w b sp L X R){i pb off:Nat}(hi:i<X.ps.length)(hpa:L.pa=some ⟨pb,off,none⟩)(hl:X.gl.length≤1000000)(htu:(X.p i).tu≤1000000) :
  Calls Tryz.prog 95 #[.pointer (some ⟨b,0,none⟩),.pointer (some ⟨pb,off+i*3,none⟩)] w fun r w'=>r=.returned (Zc (nearM X i).2)∧zG w0 w' b sp L (nearM X i).1 R:=by
 obtain⟨_,_,p,g,-,hld⟩:=h.pa hi;have HLD:=Qq hld;have HPA:=Qq hpa;have HI:=Qq hi;have HL:=Qq hl;obtain⟨tu,htu2⟩:∃tu,tu=(X.p i).tu:=⟨_,rfl⟩
 have x1:=(h.proc hi hpa hld).1.2.1
 rw[←htu2] at x1 htu;have HTU:=Qq htu2;have hmod:IntKind.i64.wrap (Int.tmod (tu:Int) 7)=((tu%7:Nat):Int):=by rw[Int.tmod_eq_emod_of_nonneg (by omega),IntKind.wrap_i64];omega
 have HB:Hid (∀(wx:World),zG w0 wx b sp L X R→Calls Tryz.prog 83 #[.pointer (some ⟨p,0,none⟩)] wx fun r w'=>r=.returned (Zc (mGet (X.p i).q).2) ∧
   ((∃v,(mGet (X.p i).q).2=some v∧zG w0 w' b sp L (Vu X i).1 R∧(Vu X i).2=some v)∨((mGet (X.p i).q).2=none∧zG w0 w' b sp L X R))):=Qq (fun wx hx=>by
  refine(MN hx hi hld).mono (fun r w' hh=>⟨hh.1,?_⟩)
  have h2:=hh.2;cases hg:(mGet (X.p i).q).2 with
  | some v =>
   refine .inl ⟨v,rfl,?_,?_⟩
   ·unfold Vu;rw[hg];exact h2
   ·unfold Vu;rw[hg]
  | none =>
   refine .inr ⟨rfl,?_⟩
   rw[OQ hg,Nd hi rfl] at h2;exact h2)
 have HFE:Hid (∀(wx:World),(mGet (X.p i).q).2=none→zG w0 wx b sp L X R→Calls Tryz.prog 107 #[.pointer (some ⟨p,0,none⟩),.pointer (some ⟨b,14,none⟩),.int .i64 0] wx fun r w'=>r=.returned (Zc (Vu X i).2)∧zG w0 w' b sp L (Vu X i).1 R):=Qq (fun wx hg hx=>by
  refine(MV hx hi hld hl 0).mono (fun r w' hh=>?_)
  unfold Vu;rw[hg]
  exact hh)
 have HX:Hid (∀wx,zG w0 wx b sp L X R→wx.cell? ⟨pb,off+i*3,none⟩=some (.pointer (some ⟨p,0,none⟩))):=Qq (fun wx hx=>(hx.proc hi hpa hld).1.1)
 have H:=Qq h;generalize hnn:nearM X i=nn at *
 have HNN:=Qq hnn;generalize hnb:Vu X i=nb at *
 have HNB:=Qq hnb;have HGT:Hid (∀k,Calls Tryz.prog 106 #[.pointer (some ⟨b,14,none⟩),.int .i64 k] w fun r w'=>∃a' c',r=.returned (.slice a' (xo k X.gl.length) c')∧yT w' a' (X.gl.take (xo k X.gl.length))∧zG w0 w' b sp L { X with gl:=X.gl.drop (xo k X.gl.length) } R):=Qq (fun k=>MD h k hl)
 clear h hld hpa hi hl htu2 hnn hnb;by_cases hs:tu%7=6
 ·have hs2:((tu:Int)%7==6)=true:=by rw[beq_iff_eq];omega
  clear hmod;cases hgl:X.gl with
  | nil =>
   have HG0:Hid (∀k,Calls Tryz.prog 106 #[.pointer (some ⟨b,14,none⟩),.int .i64 k] w fun r w'=>∃a' c',r=.returned (.slice a' 0 c')∧zG w0 w' b sp L X R):=Qq (fun k=>(HGT.out k).mono (fun r w' hh=>by
    obtain⟨a',c',h1,h2,h3⟩:=hh;have e0:xo k X.gl.length=0:=by rw[hgl];unfold xo;simp
    rw[e0] at h1 h3;refine⟨a',c',h1,?_⟩
    have e1:({ X with gl:=X.gl.drop 0 }:Sd)=X:=by simp
    rw[e1] at h3;exact h3))
   have HE:Hid (nn=nb):=Qq (by rw[←HNN.out,←HNB.out,Rf (fun hc=>hc.2 hgl)];rfl)
   clear hgl HGT hs;go_enter Tryz.func95,Tryz.ntmps95
   go_wp2_with fail;refine(HG0.out _).mono ?_
   rintro r w1 ⟨a',c',rfl,h1⟩;have H1:=Qq h1;have x0:=HX.out _ h1;clear h1 x1;go_wp2_with fail;refine(HB.out _ H1.out).mono ?_
   rintro r w2 ⟨rfl,hh⟩;rcases hh with⟨v,hv,h2,e2⟩|⟨hv,h2⟩
   ·rw[hv]
    have HQ:Hid (zG w0 w2 b sp L nn.1 R∧nn.2=some v):=Qq (by rw[HE.out];exact⟨h2,e2⟩)
    clear h2 hv e2;unfold Zc;simp only[Option.getD_some,Option.isSome_some];go_wp2;go_ret2
    exact⟨by rw[HQ.out.2];rfl,HQ.out.1⟩
   ·rw[hv]
    have HFX:=Qq (fun wx (hx:zG w0 wx b sp L X R)=>HFE.out wx hv hx)
    have H2:=Qq h2;have x2:=HX.out _ h2;clear hv h2;unfold Zc;simp only[Option.getD_none,Option.isSome_none];go_upto_region 8 with fail
    refine zk (fun wx=>∃nq,wx=World.drewN (w2) nq) 7 5 (Array.replicate 12 false) (Qj 12 127) (by kernel_rfl) (by kernel_rfl) ?_
    refine zf 0 7 _ (Qj 12 127) 0 (by kernel_rfl) za (zE w2) (by kernel_rfl) ?_
    simp only[QX,QV,QJ];(repeat((first|refine Qx (h:=?_)|refine Qw (h:=?_));simp only[Act.put,QW,QY,QZ]));refine zb ?_;refine zo ?_;refine yA (fun _=>True) 5 0 (Qj 12 4095) ?_
    refine zA 7 _ (Qj 12 255) 4 (by kernel_rfl) (fun K hK=>?_)
    have HKK:=Qq hK;clear hK;simp only[QQ,QJ];refine zc (by rfl) ?_;go_simp;refine(HFX.out _ (H2.out.step (zx w2 _))).mono ?_
    rintro r w3 ⟨rfl,h3⟩;rw[←HE.out] at h3 ⊢;have H3:=Qq h3;clear h3 x2 HFX H2;unfold Zc;refine HKK.out _ _ (trivial) ?_
    clear HKK K;refine zf 8 4 _ (Qj 12 4095) 0 (by kernel_rfl) za (trivial) (by kernel_rfl) ?_
    simp only[QX,QV,QQ,QJ];(repeat((first|refine Qx (h:=?_)|refine Qv (h:=?_));simp only[Act.put,QW,QY,QZ]));refine zb ?_;refine zo ?_;refine zD (by kernel_rfl) (NoPanic.normal ?_)
    go_wp2;go_ret2
    exact⟨rfl,H3.out⟩
  | cons y t =>
   have HG1:Hid (∀k,k=1→Calls Tryz.prog 106 #[.pointer (some ⟨b,14,none⟩),.int .i64 k] w fun r w'=>∃b' off' c',r=.returned (.slice (some ⟨b',off',none⟩) 1 c')∧w'.cell? ⟨b',off',none⟩=some (.int .i64 y)∧zG w0 w' b sp L nn.1 R∧nn.2=some y):=Qq (fun k hk=>(HGT.out k).mono (fun r w' hh=>by
    obtain⟨a',c',h1,h2,h3⟩:=hh;have e0:xo k X.gl.length=1:=by rw[hgl,hk];unfold xo;simp only[List.length_cons];omega
    rw[e0] at h1 h2 h3;rw[hgl] at h2;obtain⟨b',off',e1,e2⟩:=h2 0 (by simp)
    rw[e1] at h1;refine⟨b',off',c',h1,by simpa using e2,?_⟩
    rw[←HNN.out,Ln (by rw[←HTU.out];exact hs) (by rw[hgl];simp)]
    rw[List.drop_one] at h3;exact⟨h3,by rw[hgl];rfl⟩))
   clear hgl HGT hs;go_enter Tryz.func95,Tryz.ntmps95
   go_wp2_with fail;refine(HG1.out _ rfl).mono ?_
   rintro r w1 ⟨b',off',c',rfl,e2,h1,e3⟩;have H1:=Qq h1;have H3:=Qq e3;clear h1 x1 e3 HG1;go_wp2;go_ret2
   exact⟨by rw[H3.out];rfl,H1.out⟩
 ·have hs2:((tu:Int)%7==6)=false:=by rw[beq_eq_false_iff_ne];omega
  have HE:Hid (nn=nb):=Qq (by rw[←HNN.out,←HNB.out,Rf (fun hc=>hs (by rw[HTU.out];exact hc.1))];rfl)
  have H1:=H;have x0:=HX.out _ H.out;clear hmod HGT hs
  ·go_enter Tryz.func95,Tryz.ntmps95
   go_wp2_with fail;refine(HB.out _ H1.out).mono ?_
   rintro r w2 ⟨rfl,hh⟩;rcases hh with⟨v,hv,h2,e2⟩|⟨hv,h2⟩
   ·rw[hv]
    have HQ:Hid (zG w0 w2 b sp L nn.1 R∧nn.2=some v):=Qq (by rw[HE.out];exact⟨h2,e2⟩)
    clear h2 hv e2;unfold Zc;simp only[Option.getD_some,Option.isSome_some];go_wp2;go_ret2
    exact⟨by rw[HQ.out.2];rfl,HQ.out.1⟩
   ·rw[hv]
    have HFX:=Qq (fun wx (hx:zG w0 wx b sp L X R)=>HFE.out wx hv hx)
    have H2:=Qq h2;have x2:=HX.out _ h2;clear hv h2;unfold Zc;simp only[Option.getD_none,Option.isSome_none];go_upto_region 8 with fail
    refine zk (fun wx=>∃nq,wx=World.drewN (w2) nq) 7 5 (Array.replicate 12 false) (Qj 12 127) (by kernel_rfl) (by kernel_rfl) ?_
    refine zf 0 7 _ (Qj 12 127) 0 (by kernel_rfl) za (zE w2) (by kernel_rfl) ?_
    simp only[QX,QV,QJ];(repeat((first|refine Qx (h:=?_)|refine Qw (h:=?_));simp only[Act.put,QW,QY,QZ]));refine zb ?_;refine zo ?_;refine yA (fun _=>True) 5 0 (Qj 12 4095) ?_
    refine zA 7 _ (Qj 12 255) 4 (by kernel_rfl) (fun K hK=>?_)
    have HKK:=Qq hK;clear hK;simp only[QQ,QJ];refine zc (by rfl) ?_;go_simp;refine(HFX.out _ (H2.out.step (zx w2 _))).mono ?_
    rintro r w3 ⟨rfl,h3⟩;rw[←HE.out] at h3 ⊢;have H3:=Qq h3;clear h3 x2 HFX H2;unfold Zc;refine HKK.out _ _ (trivial) ?_
    clear HKK K;refine zf 8 4 _ (Qj 12 4095) 0 (by kernel_rfl) za (trivial) (by kernel_rfl) ?_
    simp only[QX,QV,QQ,QJ];(repeat((first|refine Qx (h:=?_)|refine Qv (h:=?_));simp only[Act.put,QW,QY,QZ]));refine zb ?_;refine zo ?_;refine zD (by kernel_rfl) (NoPanic.normal ?_)
    go_wp2;go_ret2
    exact⟨rfl,H3.out⟩
theorem S6 {P:Program}{w:World}{s by_:Nat}(t ty e:TypeId)(i:TypeInfo)(z:Value)(ht:P.underlying t=some (.slice e))(hi:P.info? e=some i)(hz:i.zero=some z)(hsize:i.size=s)(hby:i.bytes=by_)(hzs:z.cells.size=s)(hs0:0<s)
  {g:Nat} (hg:g<w.heap.size) {b:Option Addr} {c m:Nat} {ds:List Value} (hb:zr w b ds) (hd:ds.length=m*s) (hone:∀u∈ds,u.oneCell'=true) (hm:m≤maxLen) (h47:m*by_≤140737488355328) (ha:(w.cell? ⟨g,0,none⟩)=none) :
  ∃a' cap' w',(Builtin.append_ #[t,t] ty #[.slice (some ⟨g,0,none⟩) 0 0,.slice b m c]).run P w=.ok (.slice a' m cap') w'∧zT s w' a' cap' m ds∧zK [g] w w'∧∀x∈zY a',x=g∨w.heap.size≤x:=by
 by_cases hm0:m=0
 ·subst hm0
  have hdn:ds=[]:=List.length_eq_zero_iff.1 (by rw[hd];simp)
  subst hdn;refine⟨some ⟨g,0,none⟩,0,w,?_,zT.zero hg,zK.refl _ _,fun x hx=>.inl (by simpa [zY] using hx)⟩
  cases b with
  | none=>simp[Builtin.append_,run_underlying ht,sizeOf,typeInfo,hi,Builtin.lenOf,Builtin.firstCells,storeCells]
  | some ad=>simp[Builtin.append_,run_underlying ht,sizeOf,typeInfo,hi,Builtin.lenOf,Builtin.firstCells,storeCells,loadCells,loadCellsFrom]
 ·cases b with
  | none =>
   exfalso
   have:0<ds.length:=by rw[hd];exact Nat.mul_pos (by omega) hs0
   obtain⟨_,_,h1,_⟩:=hb 0 _ (List.getElem?_eq_getElem this)
   cases h1
  | some ad =>
   have hnews:∀j u,ds[j]?=some u→w.cell? (ad.add j)=some u:=fun j u hj=>by
    obtain⟨b,off,h1,h2⟩:=hb j u hj;cases h1
    rw[Addr.add_lit,h2]
   obtain⟨v',w',hr,r1,r2⟩:=run_append_arg_grows (P:=P) w t ty e i z s by_ ht hi hz hsize hby hzs hs0 ⟨g,0,none⟩ 0 0 [] (by simp) (fun j u hj=>by simp at hj) ad m c ds hd hnews (by omega) (by unfold maxLen at hm;unfold maxLen;omega) (by simpa using h47)
   simp only[List.nil_append,Nat.zero_add] at r1;obtain⟨a',cap',rfl,hrow,hbase⟩:=zT.xH r1;exact⟨a',cap',w',hr,by simpa using hrow,(yy r2).mono (by simp),fun x hx=>.inr (hbase x hx)⟩
theorem Wg {P:Program}{w:World}{ops:Array Oper}{rest:List Oper}{o:Oper}{ac:Act}{Q:Exit→Act→World→Prop}{s by_:Nat}(hgd:o.guard=none)(sl x:Operand)(t:TypeId)
  (ho:o.op=.call { callee:=.builtin .append,args:=#[sl,x],argTypes:=#[t,t] }) (e:TypeId) (i:TypeInfo) (z:Value) (ht:P.underlying t=some (.slice e)) (hi:P.info? e=some i) (hz:i.zero=some z) (hsize:i.size=s) (hby:i.bytes=by_) (hzs:z.cells.size=s) (hs0:0<s)
  {g:Nat} {b:Option Addr} {c m:Nat} {ds:List Value} (hs:ac.eval sl=.slice (some ⟨g,0,none⟩) 0 0) (hx:ac.eval x=.slice b m c) (hg:g<w.heap.size) (hb:zr w b ds) (hd:ds.length=m*s) (hone:∀u∈ds,u.oneCell'=true) (hm:m≤maxLen) (h47:m*by_≤140737488355328) (ha:(w.cell? ⟨g,0,none⟩)=none)
  (h:∀a' cap' w',zT s w' a' cap' m ds→zK [g] w w'→(∀x∈zY a',x=g∨w.heap.size≤x)→wpList P ops Q rest (ac.put o.dst (.slice a' m cap')) w'):wpList P ops Q (o::rest) ac w:=by
 refine wpList_plain hgd fun K hK=>?_
 obtain⟨a',cap',w',hr,h2,h3,h4⟩:=S6 (P:=P) (w:=w) t o.type e i z ht hi hz hsize hby hzs hs0 hg hb (c:=c) hd hone hm h47 ha
 unfold Oper.wp execOp;simp only[ho,resolve,invoke,builtin,Sem.run_bind,Sem.run_pure,Result.andThen_ok,List.map_toArray,List.map_cons,List.map_nil,hs,hx,hr];exact hK _ _ (h a' cap' w' h2 h3 h4)









def lim:Nat→Nat
 | 0=>1
 | k+1=>128*lim k



end Go.Proofs.YtlkjheheofgdgaaGreat

open Go Go.RowKit
namespace Go.Proofs.YtlkjheheofgdgaaGreat
def room:Nat→Nat
 | 0=>0
 | f+1=>if f=0 then 2 else 128*room f



def IsRow (k:IntKind)(w:World)(a:Option Addr)(len cap:Nat)(zs:List Int):Prop :=
 (a=none∧len=0∧cap=0∧zs=[]) ∨
 ∃x,a=some x∧len≤cap∧cap≤maxLen∧zs.length=cap∧(∀i,i<zs.length→w.cell? (x.add i)=some (.int k (zs.getD i 0)))∧∀n∈zs,(Lit.int k n).wf=true
def Cells (k:IntKind)(w:World)(a:Option Addr)(zs:List Int):Prop :=
 ∀i (h:i<zs.length),∃b off,a=some ⟨b,off,none⟩∧w.cell? ⟨b,off+i,none⟩=some (.int k zs[i])∧(Lit.int k zs[i]).wf=true
theorem IsRow.cells {k:IntKind}{w:World}{a:Option Addr}{len cap:Nat}{zs:List Int}(h:IsRow k w a len cap zs) :
  len≤cap∧cap≤maxLen∧(zs.take len).length=len∧Cells k w a (zs.take len):=by
 rcases h with⟨rfl,rfl,rfl,rfl⟩|⟨x,rfl,hlc,hcm,hzl,hcell,hwf⟩
 ·exact⟨Nat.le_refl _,Nat.zero_le _,rfl,fun i h=>by simp at h⟩
 ·refine⟨hlc,hcm,by simp;omega,fun i h=>?_⟩
  simp at h
  obtain⟨b,off,rfl,hc⟩:=ints_at hcell (by omega)
  refine⟨b,off,rfl,?_,?_⟩
  ·rw[hc i (by omega),List.getElem_take,List.getD_eq_getElem?_getD,List.getElem?_eq_getElem (by omega)];rfl
  ·rw[List.getElem_take];exact hwf _ (List.getElem_mem _)
end Go.Proofs.YtlkjheheofgdgaaGreat

open Go Go.RowKit
namespace Go.Proofs.YtlkjheheofgdgaaGreat
abbrev Rec:=Int×Nat
def Rec.ok (r:Rec):Prop:=1≤r.1∧r.1≤4∧r.2<4611686018427387904
instance (r:Rec):Decidable (Rec.ok r):=by unfold Rec.ok;infer_instance


def zL (l:List Rec):List Value:=l.flatMap fun r=>[Value.int .i64 r.1,Value.int .u64 (r.2:Int)]



end Go.Proofs.YtlkjheheofgdgaaGreat

open Go Go.RowKit
namespace Go.Proofs.YtlkjheheofgdgaaGreat
def Zl (l:List Nat):List Value:=l.map fun(n:Nat)=>Value.int .u64 (n:Int)
theorem Kg (l:List Nat):(Zl l).length=l.length:=by simp[Zl]
theorem Lo (l:List Nat):∀u∈Zl l,u.oneCell'=true:=by
 intro u hu;unfold Zl at hu;rw[List.mem_map] at hu;obtain⟨n,_,rfl⟩:=hu;rfl
theorem SA (l:List Rec):∀u∈zL l,u.oneCell'=true:=by
 intro u hu;unfold zL at hu;rw[List.mem_flatMap] at hu;obtain⟨r,_,h⟩:=hu;simp at h;rcases h with rfl|rfl<;>rfl
theorem J6:(Tryz.prog.info? 33).map (fun i=>(i.zero,i.size,i.bytes))=some (some (.int .u64 0),1,8):=by kernel_rfl
theorem Rx:(Tryz.prog.info? 93).map (fun i=>(i.zero,i.size,i.bytes))=some (some (.agg #[.int .i64 0,.int .u64 0]),2,16):=by kernel_rfl
theorem R7 (w:World)(a:Option Addr)(n c:Nat)(cs:List Value)(h:zr w a cs)(hn:cs.length=n)(hone:∀u∈cs,u.oneCell'=true)(h0:a=none→n=0∧c=0)(hl:n*8≤140737488355328) :
  Calls Tryz.prog 49 #[.slice a n c] w fun r w'=>∃a' c',r=.returned (.slice a' n c')∧zT 1 w' a' c' n cs∧(∀x∈zY a',w.heap.size≤x)∧Below w.heap.size w w':=by
 cases a with
 | none =>
  obtain⟨rfl,rfl⟩:=h0 rfl;obtain rfl:=List.length_eq_zero_iff.1 hn
  clear h hone;have he:∀w:World,(binOp .eql 29 (.slice none 0 0) (.slice none 0 0)).run Tryz.prog w=.ok (.bool true) w:=fun _=>rfl
  go_enter Tryz.func49,Tryz.ntmps49
  go_wp2;go_ret;exact⟨none,0,rfl,zT.nil _ _,fun x hx=>by simp[zY] at hx,Below.refl _ _⟩
 | some ad =>
  obtain⟨i0,hi0,hz0,hz1,hz2⟩:=info_parts J6;have Hi:=Qq hi0;clear hi0
  have Hz0:=Qq hz0;clear hz0
  have Hz1:=Qq hz1;clear hz1
  have Hz2:=Qq hz2;clear hz2
  have H:=Qq h;have HO:=Qq hone;have HN:=Qq hn;clear h hone h0 hn;have he:∀w:World,(binOp .eql 29 (.slice (some ad) n c) (.slice none 0 0)).run Tryz.prog w=.ok (.bool false) w:=fun _=>rfl
  go_enter Tryz.func49,Tryz.ntmps49
  go_wp2_with (at_builtin;refine Wg (m:=n) (ds:=cs) rfl _ _ 29 rfl 33 i0 _ Tryz.underlying29 Hi.out Hz0.out Hz1.out Hz2.out rfl (by omega) rfl rfl (by simp) (H.out.below (below_alloc1 _ _)) (by rw[HN.out];simp) HO.out (by unfold maxLen;omega) (by omega) (by rw[World.cell?_alloc_mark];rfl) ?_)
  intro a1 c1 w1 k1 ch1 f1;have hf:zT 1 w1 a1 c1 n cs∧(∀x∈zY a1,w.heap.size≤x)∧Below w.heap.size w w1:=by
   refine⟨by simpa using k1,fun x hx=>?_,zK.below (below_alloc1 _ _) ch1 (fun x hx=>by simp at hx;omega)⟩
   rcases f1 x hx with h|h
   ·omega
   ·first|omega|(simp at h;omega)
  have HF:=Qq hf;clear hf k1 ch1 f1;go_wp2;go_ret;exact⟨a1,c1,by simp,HF.out⟩
end Go.Proofs.YtlkjheheofgdgaaGreat
