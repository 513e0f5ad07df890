/-
  Texts put together: WdC, WdB2, WdCas, WdFin, WdWake, WdGo, WdSend, WdRecv, WPk2, WdTry, WdClose, SegP, WdAsk, WFr3, WdPure.
-/
import Derived.Test.YtlkjheheofgdgaaGreatLo2
import Derived.Test.YtlkjheheofgdgaaGreatLo1
import Derived.Recover
set_option maxRecDepth 100000
set_option maxHeartbeats 16000000
set_option linter.unusedSimpArgs false
set_option linter.unusedVariables false
open Go Go.RowKit
namespace Go.Proofs.YtlkjheheofgdgaaGreat
structure Dq where
 q:Nat
 g:Nat
 x:yq
 th:Bool
 dr:Int
 go:Bool
def Ed (w0 w:World)(p:Nat)(T:List Value)(d:Dq)(W:Wd)(D:Wa)(rd:List Int)(ra:Option Addr)(rc:Nat)(R:List zv):Prop :=
 D.fits W∧Own w0 w (zj p W D T++(ze d.q (yp p (d.g:Int) d.x d.th d.dr d.go ra rd.length rc)::zd 1 ra rc rd.length (zt rd)::R))
def yL (w0 w:World)(p:Nat)(T:List Value)(d:Dq)(W:Wd)(rd:List Int)(R:List zv):Prop:=∃D ra rc,Ed w0 w p T d W D rd ra rc R
def WA (k:Int):Ending:=.panicked [{ v:=.iface 249 (.int .i64 k),recovered:=false }]
def Db (d:Dd):Ending:=match d.tr with
 | none=>.returned (.tuple #[])
 | some k=>WA k
def ZQ (w0:World)(p:Nat)(T:List Value)(d:Dq)(R:List zv)(m:Dd)(r:Ending)(w':World):Prop:=r=Db m∧yL w0 w' p T d m.W m.rd R
theorem yL.step {w0 w w':World}{p:Nat}{T:List Value}{d:Dq}{W:Wd}{rd:List Int}{R:List zv}(h:yL w0 w p T d W rd R)(hb:Below w.heap.size w w'):yL w0 w' p T d W rd R:=by
 obtain⟨D,ra,rc,hf,h⟩:=h;exact⟨D,ra,rc,hf,h.step hb⟩
theorem ZO {w:World}{s cap:Nat}{G:Gt}(h:zQ w s G.n cap G.z)(hn:1≤G.n)(a:Nat)(ha:a<8):w.cell? ⟨s,(G.n-1)*11+2+a,none⟩=some (.int .i64 (G.rg (a:Int)))∧w.frozen? ⟨s,(G.n-1)*11+2+a,none⟩=false:=by
 obtain⟨x,hx,h1,h2⟩:=h.cell ((G.n-1)*11+2+a) (by omega)
 have e:G.rg (a:Int)=x:=by unfold Gt.rg Gt.o;rw[List.getD_eq_getElem?_getD];simp only[Int.toNat_natCast];rw[hx];rfl
 rw[e];exact⟨h1,h2⟩
theorem yN {a:Int}{n:Nat}(h:0≤a∧a<(n:Int)):∃k:Nat,a=(k:Int)∧k<n:=⟨a.toNat,by omega,by omega⟩
theorem zx (w:World)(k:Nat):Below w.heap.size w (w.drewN k):=⟨rfl,rfl,rfl,Nat.le_refl _,fun _ _=>rfl⟩
theorem Own.q2 {w0 w w':World}{As:List zv}{j k:Nat}(h:Own w0 w As)(e:w'=(w.drewN j).drewN k):Own w0 w' As:=by rw[e];exact(h.step (zx w j)).step (zx _ k)
theorem Own.q1 {w0 w w':World}{As:List zv}{k:Nat}(h:Own w0 w As)(e:w'=w.drewN k):Own w0 w' As:=by rw[e];exact h.step (zx w k)
theorem VQ {w w':World}{j k:Nat}(e:w'=(w.drewN j).drewN k):∃n,w'=w.drewN n:=⟨j+k,by rw[e,World.drewN_drewN]⟩
theorem zE (w:World):∃n,w.drew=w.drewN n:=⟨1,rfl⟩
structure F0 (w0 w:World) (p:Nat) (T:List Value) (d:Dq) (W:Wd) (D:Wa) (b off s cap:Nat):Prop where
 top:QS w d.q p d.g b off s (W.g d.g).n cap W.gs.length D.ac
 aa:D.aa=some ⟨b,off,none⟩
 sk:D.sk[d.g]?=some (s,cap)
 stk:zQ w s (W.g d.g).n cap (W.g d.g).z
 st:w.cell? ⟨b,off+d.g*2,none⟩=some (.int .i64 (W.g d.g).st)∧w.frozen? ⟨b,off+d.g*2,none⟩=false
 sl:w.frozen? ⟨b,off+d.g*2+1,none⟩=false
theorem ZB {w0 w:World}{p:Nat}{T:List Value}{d:Dq}{W:Wd}{D:Wa}{ra:Option Addr}{n rc:Nat}{Y:List zv}(hf:D.fits W)(h:Own w0 w (zj p W D T++(ze d.q (yp p (d.g:Int) d.x d.th d.dr d.go ra n rc)::Y)))(hg:d.g<W.gs.length)(hm:1≤(W.g d.g).n∧(W.g d.g).n≤16) :
  ∃b off s cap,F0 w0 w p T d W D b off s cap:=by
 obtain⟨s,cap,hs⟩:=hf.Yh hg;obtain⟨b,off,h1,h2,h3,h4,h5⟩:=Yt h hg hs;exact⟨b,off,s,cap,Ss h (h.zi 10 rfl) hg hs h1 hm,h1,hs,(YY h hg hs).1,⟨h2,h3⟩,h5⟩
theorem F0.Z2 {w0 w:World}{p:Nat}{T:List Value}{d:Dq}{W:Wd}{D:Wa}{b off s cap m:Nat}(h:F0 w0 w p T d W D b off s cap)(hm:m=(W.g d.g).n-1)(k:Nat) :
  Calls Tryz.prog 118 #[.pointer (some ⟨d.q,0,none⟩)] (w.drewN k) fun r w'=>r=.returned (.pointer (some ⟨s,m*11,none⟩))∧∃j,w'=(w.drewN k).drewN j:=by
 rw[hm];exact Xj (h.top.drewN k)
theorem F0.FI {w0 w:World}{p:Nat}{T:List Value}{d:Dq}{W:Wd}{D:Wa}{b off s cap:Nat}(h:F0 w0 w p T d W D b off s cap)(k:Nat) :
  Calls Tryz.prog 121 #[.pointer (some ⟨d.q,0,none⟩)] (w.drewN k) fun r w'=>r=.returned (.pointer (some ⟨b,off+d.g*2,none⟩))∧∃j,w'=(w.drewN k).drewN j:=R8 (h.top.drewN k)
theorem Hx {lp:List Nat}{Ls:List (List Int)}{i pt:Nat}{L:List Int}(hp:lp[i]?=some pt)(hL:Ls[i]?=some L):(SO lp Ls)[i]?=some (Ye pt L):=by
 unfold SO;rw[List.getElem?_zipWith,hp,hL]
theorem Ja {lp:List Nat}{Ls:List (List Int)}{i pt:Nat}(L:List Int)(hp:lp[i]?=some pt)(hi:i<Ls.length):(SO lp Ls).set i (Ye pt L)=SO lp (Ls.set i L):=by
 apply List.ext_getElem?
 intro j;have hpl:=(List.getElem?_eq_some_iff.1 hp).1
 unfold SO;rw[List.getElem?_set]
 by_cases e:i=j
 ·subst e
  rw[if_pos rfl,if_pos (by simp;omega),List.getElem?_zipWith,hp,List.getElem?_set_self hi]
 ·rw[if_neg e,List.getElem?_zipWith,List.getElem?_zipWith,List.getElem?_set_ne e]
theorem Wd.SI {W:Wd}{i:Nat}(hi:i<W.Ls.length):W.Ls[i]?=some (W.lk (i:Int)):=by unfold Wd.lk;rw[List.getD_eq_getElem?_getD,Int.toNat_natCast,List.getElem?_eq_getElem hi];rfl
theorem Wd.U9 {W:Wd}{i:Nat}(hi:i<W.Cs.length):W.Cs[i]?=some (W.ch (i:Int)):=by unfold Wd.ch;rw[List.getD_eq_getElem?_getD,Int.toNat_natCast,List.getElem?_eq_getElem hi];rfl
theorem Wd.Yn (W:Wd)(i j:Nat)(G:Gt)(hi:i<W.gs.length):(W.ye i G).g j=if i=j then G else W.g j:=by
 unfold Wd.g Wd.ye;simp only[List.getD_eq_getElem?_getD,List.getElem?_set]
 by_cases e:i=j
 ·rw[if_pos e,if_pos e,if_pos hi];rfl
 ·rw[if_neg e,if_neg e]
theorem Wd.PX (W:Wd)(i:Nat)(k v:Int):(W.put i k v).gs.length=W.gs.length:=by unfold Wd.put Wd.ye;simp
theorem Wd.Ht (W:Wd)(i j:Nat)(k v:Int)(hi:i<W.gs.length):((W.put i k v).g j).n=(W.g j).n:=by
 unfold Wd.put;rw[Wd.Yn _ _ _ _ hi];split
 ·rename_i e;subst e;rfl
 ·rfl
theorem Ro {w0 w:World}{p:Nat}{W:Wd}{D:Wa}{T:List Value}{R:List zv}(h:Own w0 w (zj p W D T++R))(hf:D.fits W){i:Nat}(hi:i<W.Ls.length) :
  ∃pt b off R',D.la=some ⟨b,off,none⟩∧w.cell? ⟨b,off+i,none⟩=some (.pointer (some ⟨pt,0,none⟩))∧Own w0 w (Ye pt (W.lk (i:Int))::R') ∧
   ∀w' L',Own w0 w' (Ye pt L'::R')→Own w0 w' (zj p { W with Ls:=W.Ls.set i L' } D T++R)∧D.fits { W with Ls:=W.Ls.set i L' }:=by
 have hlp:i<D.lp.length:=by rw[hf.l];exact hi
 have hp:=List.getElem?_eq_getElem hlp
 obtain⟨b,off,h1,h2⟩:=(h.xl 6 rfl).cells i (.pointer (some ⟨D.lp[i],0,none⟩)) (by unfold W8;rw[List.getElem?_map,hp];rfl)
 obtain⟨R',k1,k2⟩:=(h.pick 7 rfl).ZT (Hx hp (Wd.SI hi))
 refine⟨D.lp[i],b,off,_,h1,h2,k1,fun w' L' h'=>⟨?_,⟨hf.f,hf.g,hf.c,hf.n,by simp[hf.l],hf.k⟩⟩⟩
 have h3:=k2 w' _ _ h';rw[Ja L' hp hi] at h3
 have h4:=h3.back (i:=7) (As:=zj p W D T++R) (by simp[zj])
 have e:(zj p W D T++R).set 7 (yD (SO D.lp (W.Ls.set i L')))=zj p { W with Ls:=W.Ls.set i L' } D T++R:=by
  simp only[zj,yH,List.length_set];rfl
 rw[e] at h4;exact h4
theorem YG {w0 w:World}{p:Nat}{W:Wd}{D:Wa}{T:List Value}{R:List zv}(h:Own w0 w (zj p W D T++R))(hf:D.fits W){i:Nat}(hi:i<W.Cs.length) :
  ∃pt b off R',D.ps[i]?=some pt∧D.ha=some ⟨b,off,none⟩∧w.cell? ⟨b,off+i,none⟩=some (.pointer (some ⟨pt,0,none⟩))∧Own w0 w (yv pt (W.Ns.getD i 0) (W.ch (i:Int))::R') ∧
   ∀w' C',Own w0 w' (yv pt (W.Ns.getD i 0) C'::R')→Own w0 w' (zj p (W.zW (i:Int) C') D T++R)∧D.fits (W.zW (i:Int) C'):=by
 have hlp:i<D.ps.length:=by rw[hf.c];exact hi
 have hln:i<W.Ns.length:=by rw[hf.n];exact hi
 have hz:(List.zip D.ps W.Ns)[i]?=some (D.ps[i],W.Ns.getD i 0):=WI (List.getElem?_eq_getElem hlp) (by rw[List.getD_eq_getElem?_getD,List.getElem?_eq_getElem hln];rfl)
 obtain⟨b,off,h1,h2⟩:=(h.xl 4 rfl).cells i _ (TT _ i _ hz)
 obtain⟨R',k1,k2⟩:=(h.pick 5 rfl).ZT (T3 hz (Wd.U9 hi))
 refine⟨D.ps[i],b,off,_,List.getElem?_eq_getElem hlp,h1,h2,k1,fun w' C' h'=>⟨?_,⟨hf.f,hf.g,by simp[hf.c,Wd.zW],by simp[hf.n,Wd.zW],hf.l,hf.k⟩⟩⟩
 have h3:=k2 w' _ _ h';rw[T8 C' hz hi] at h3
 have h4:=h3.back (i:=5) (As:=zj p W D T++R) (by simp[zj])
 have e:(zj p W D T++R).set 5 (yD (YD (List.zip D.ps W.Ns) (W.Cs.set i C')))=zj p (W.zW (i:Int) C') D T++R:=by
  simp only[zj,yH,List.length_set,Wd.zW,Int.toNat_natCast];rfl
 rw[e] at h4;exact h4
theorem Lp:∀w,(sizeOf (Tryz.prog.elem 63)).run Tryz.prog w=.ok 3 w:=fun w=>by kernel_rfl
theorem Mu:Tryz.prog.underlying 63=some (.slice (Tryz.prog.elem 63)):=by kernel_rfl
theorem N9 {P:Program}{t:TypeId}{s:Nat}(ht:P.underlying t=some (.slice (P.elem t)))(hs:∀w,(sizeOf (P.elem t)).run P w=.ok s w)(a:Option Addr)(n cap A B:Nat)(hB:1≤B)(hn:A+B≤n)(hc:n≤cap) :
  ∃a',(∀w,(Instr.slice t (.slice a n cap) (some (.int .i64 (A:Int))) (some (.int .i64 ((A:Int)+(B:Int)))) none).run P w=.ok (.slice a' B (cap-A)) w)∧zY a'=zY a ∧
   ∀w cs,zr w a cs→zr w a' ((cs.drop (A*s)).take (B*s)):=by
 refine⟨a.map (·.add (A*s)),fun w=>?_,?_,fun w cs h=>?_⟩
 ·rw[run_slice_lh (P:=P) (w:=w) t a n cap ht .i64 .i64 (A:Int) ((A:Int)+(B:Int)) (by omega) (by omega) (by omega),hs w]
  have e1:((A:Int)+(B:Int)).toNat=A+B:=by omega
  have e2:(A:Int).toNat=A:=by omega
  have e3:¬cap=A:=by omega
  have e4:A+B-A=B:=by omega
  simp only[Result.andThen,sliced,e1,e2,if_neg e3,e4]
 ·cases a with
  | none=>rfl
  | some x=>simp[zY,Addr.add];cases x;simp[Addr.add];split<;>rfl
 ·intro j v hj
  rw[List.getElem?_take] at hj
  split at hj
  ·rw[List.getElem?_drop] at hj
   obtain⟨b,off,rfl,hc⟩:=h _ _ hj;exact⟨b,off+A*s,by simp[Addr.add],by rw[Nat.add_assoc];exact hc⟩
  ·cases hj
def QN (W:Wd)(x:yq):Prop:=x.1=13∨x.1=14∨x.1=16∧0≤x.2.1∧1≤x.2.2.1∧x.2.1+x.2.2.1≤(W.ks.length:Int)
def SG (D:Wa)(W:Wd)(x:yq)(a:Option Addr)(Z:zv):Prop:=∀w F G,(Xq D.fa D.fr W.fs D.ca W.ks).at_ w F→Z.at_ w G→zr w a (WM (W.yK x))
theorem Kw (l:List Zm)(n:Nat):WM (l.drop n)=(WM l).drop (n*3):=LD l n
theorem Lk (l:List Zm)(n:Nat):WM (l.take n)=(WM l).take (n*3):=RT l n
theorem IA (l:List Zm):(WM l).length=l.length*3:=P3 l
theorem SG.cells {D:Wa}{W:Wd}{x:yq}{a:Option Addr}{Z:zv}(hP:SG D W x a Z){w0 w:World}{As:List zv}(h:Own w0 w As)(i k:Nat)(hi:As[i]?=some (Xq D.fa D.fr W.fs D.ca W.ks))(hk:As[k]?=some Z):zr w a (WM (W.yK x)):=by
 obtain⟨F,h1,-⟩:=h.fact i hi;obtain⟨G,h2,-⟩:=h.fact k hk;exact hP w F G h1 h2
theorem ZU {w0 w:World}{p:Nat}{W:Wd}{D:Wa}{T:List Value}{Y:List zv}(h:Own w0 w (zj p W D T++Y))(hf:D.fits W)(x:yq)(hx:QN W x)(hk:W.ks.length≤1000) :
  Calls Tryz.prog 116 #[.pointer (some ⟨p,0,none⟩),.agg #[.int .i64 x.1,.int .i64 x.2.1,.int .i64 x.2.2.1,.int .i64 x.2.2.2]] w fun r w'=>∃a c Z,r=.returned (.slice a (W.yK x).length c)∧SG D W x a Z∧(W.yK x).length≤1000∧Own w0 w' (Z::(zj p W D T++Y))∧Below w.heap.size w w':=by
 obtain⟨op,A,B,C⟩:=x;have hw1:w.heap.size<(w.alloc (.cells #[.int .i64 op,.int .i64 A,.int .i64 B,.int .i64 C] 86)).heap.size:=by simp
 have hB:=below_alloc1 w (.cells #[.int .i64 op,.int .i64 A,.int .i64 B,.int .i64 C] 86)
 have HX:=zH.mk w [.int .i64 op,.int .i64 A,.int .i64 B,.int .i64 C] 86 w.heap.size rfl
 have x0:=(HX 0 _ rfl).1
 have x1:=(HX 1 _ rfl).1
 have x2:=(HX 2 _ rfl).1
 have h1:=h.step hB;have p1:=(h1.zi 0 rfl 1 _ rfl).1
 go_enter Tryz.func116,Tryz.ntmps116
 go_upto_region 1 with fail
 generalize w.alloc (.cells #[.int .i64 op,.int .i64 A,.int .i64 B,.int .i64 C] 86)=w1 at *
 generalize hsz:w.heap.size=sz at *
 have HSZ:=Qq hsz;clear hsz;have HB:=Qq hB;have H1:=Qq h1;clear hB h1 h HX;rcases hx with hx|hx|⟨hx,hA0,hB0,hAB⟩
 ·simp only at hx
  subst hx;have HZ:Hid (∃a c Z,Value.slice (some ⟨w1.heap.size,0,none⟩) 1 1=.slice a (W.yK (13,A,B,C)).length c∧SG D W (13,A,B,C) a Z∧(W.yK (13,A,B,C)).length≤1000∧Own w0 (w1.alloc (.cells #[.int .i64 1,.int .i64 A,.int .i64 B] 129)) (Z::(zj p W D T++Y))∧Below sz w (w1.alloc (.cells #[.int .i64 1,.int .i64 A,.int .i64 B] 129))):=Qq
   ⟨_,1,zd 3 (some ⟨w1.heap.size,0,none⟩) 1 1 (WM [(1,A,B)]),rfl,fun w F G hF hG=>hG.2.cells,by simp[Wd.yK],H1.out.add (below_alloc1 _ _) (F:=[w1.heap.size]) ⟨rfl,zT.new 3 1 w1 (WM [(1,A,B)]) _ rfl (by simp[maxLen]) rfl⟩ (fun x hx=>by simp at hx;omega),HB.out.trans ((below_alloc1 w1 _).mono (by omega))⟩
  clear p1 H1 HB;go_wp2;go_ret;obtain⟨a,c,Z,e,k⟩:=HZ.out;rw[HSZ.out];exact⟨a,c,Z,by rw[e];rfl,k⟩
 ·simp only at hx
  subst hx;have HZ:Hid (∃a c Z,Value.slice (some ⟨w1.heap.size,0,none⟩) 1 1=.slice a (W.yK (14,A,B,C)).length c∧SG D W (14,A,B,C) a Z∧(W.yK (14,A,B,C)).length≤1000∧Own w0 (w1.alloc (.cells #[.int .i64 0,.int .i64 A,.int .i64 B] 129)) (Z::(zj p W D T++Y))∧Below sz w (w1.alloc (.cells #[.int .i64 0,.int .i64 A,.int .i64 B] 129))):=Qq
   ⟨_,1,zd 3 (some ⟨w1.heap.size,0,none⟩) 1 1 (WM [(0,A,B)]),rfl,fun w F G hF hG=>hG.2.cells,by simp[Wd.yK],H1.out.add (below_alloc1 _ _) (F:=[w1.heap.size]) ⟨rfl,zT.new 3 1 w1 (WM [(0,A,B)]) _ rfl (by simp[maxLen]) rfl⟩ (fun x hx=>by simp at hx;omega),HB.out.trans ((below_alloc1 w1 _).mono (by omega))⟩
  clear p1 H1 HB;go_wp2;go_ret;obtain⟨a,c,Z,e,k⟩:=HZ.out;rw[HSZ.out];exact⟨a,c,Z,by rw[e];rfl,k⟩
 ·simp only at hx hA0 hB0 hAB
  subst hx;obtain⟨a,rfl⟩:=Int.eq_ofNat_of_zero_le hA0;obtain⟨n,rfl⟩:=Int.eq_ofNat_of_zero_le (by omega:0≤B)
  obtain⟨a',s1,s2,s3⟩:=N9 Mu Lp D.ca W.ks.length D.cc a n (by omega) (by omega) hf.k
  have hw:IntKind.i64.wrap ((a:Int)+(n:Int))=(a:Int)+(n:Int):=by rw[IntKind.wrap_i64];omega
  have e:W.yK (16,(a:Int),(n:Int),C)=(W.ks.drop a).take n:=by simp[Wd.yK]
  have el:((W.ks.drop a).take n).length=n:=by rw[List.length_take,List.length_drop];omega
  have He:=Qq e;have Hel:=Qq el;have HZ:Hid (∀k,∃Z,SG D W (16,(a:Int),(n:Int),C) a' Z∧Own w0 (w1.drewN k) (Z::(zj p W D T++Y))∧Below sz w (w1.drewN k)):=Qq
   (fun k=>⟨Er,fun w F G hF hG=>by rw[e,Lk,Kw];exact s3 w _ hF.2.2.1.2,(H1.out.step (zx w1 k)).add (Below.refl _ _) (F:=[]) rfl (fun x hx=>by simp at hx),HB.out.trans ((zx w1 k).mono (by omega))⟩)
  have HS:=Qq s1;have hn1:n≤1000:=by omega
  clear s2 s3 H1 HB e el hf hAB;go_upto_region 6 with fail
  refine zk (fun wx=>∃nq,wx=World.drewN (w1) nq) 13 0 (Array.replicate 13 false) (Qj 13 8191) (by kernel_rfl) (by kernel_rfl) ?_
  refine zf 0 13 _ (Qj 13 8191) 0 (by kernel_rfl) za (zE w1) (by kernel_rfl) ?_
  simp only[QX,QV,QJ];(repeat((first|refine Qx (h:=?_)|refine Qw (h:=?_));simp only[Act.put,QW,QY,QZ]));refine zb ?_;refine zo ?_;refine zD (by kernel_rfl) (NoPanic.normal ?_)
  go_wp2;go_ret;obtain⟨Z,k1,k2⟩:=HZ.out 1;rw[HSZ.out,He.out,Hel.out];exact⟨a',D.cc-a,Z,rfl,k1,hn1,k2⟩
theorem Own.X5 {w0 w:World}{A:zv}{L Y:List zv}(h:Own w0 w (A::(L++Y))):Own w0 w (L++(A::Y)):=h.perm (List.perm_middle).symm
theorem Own.yC {w0 w:World}{A:zv}{L Y:List zv}(h:Own w0 w (L++(A::Y))):Own w0 w (A::(L++Y)):=h.perm List.perm_middle
structure WC (W:Wd) (x:yq) (by_:Wt):Prop where
 ix:QN W x
 k:W.ks.length≤1000
 g:0≤by_.1∧by_.1<(W.gs.length:Int)
 gl:W.gs.length≤1000
 n:1≤(W.g by_.1.toNat).n∧(W.g by_.1.toNat).n≤16
 j:0≤by_.2.1∧by_.2.1<((W.yK x).length:Int)
 c:∀c∈W.yK x,c.1=0→0≤c.2.2∧c.2.2<8
 r:x.1=14∨x.1=16→0≤x.2.2.2∧x.2.2.2<8
theorem TS {w0 w:World}{p:Nat}{W:Wd}{D:Wa}{T:List Value}{Y:List zv}{x:yq}{by_:Wt}(some_:Bool)(h:Own w0 w (zj p W D T++Y))(hf:D.fits W)(ok:WC W x by_) :
  Calls Tryz.prog 172 #[.pointer (some ⟨p,0,none⟩),.agg #[.int .i64 x.1,.int .i64 x.2.1,.int .i64 x.2.2.1,.int .i64 x.2.2.2],wv by_,.bool some_] w fun r w'=>r=.returned (.tuple #[])∧Own w0 w' (zj p (W.fin x by_ some_) D T++Y)∧D.fits (W.fin x by_ some_):=by
 obtain⟨hx,hk,hg,hgl,hm,hj,hc,hr⟩:=ok;obtain⟨k,hK,hk8⟩:=yN (n:=W.gs.length) hg
 obtain⟨j,hJ,hj8⟩:=yN (n:=(W.yK x).length) hj
 obtain⟨op,A,B,C⟩:=x;obtain⟨b1,b2,v⟩:=by_;simp only at hK hJ
 subst hK hJ;simp only[Int.toNat_natCast] at hm;obtain⟨s,cap,hs⟩:=hf.Yh hk8;have hA:=(((h.alloc [.int .i64 op,.int .i64 A,.int .i64 B,.int .i64 C] 86 (b:=w.heap.size) rfl).alloc [.int .i64 (k:Int),.int .i64 (j:Int),.int .i64 v] 270 (b:=w.heap.size+1) (by simp)).X5 (L:=ze w.heap.size [.int .i64 op,.int .i64 A,.int .i64 B,.int .i64 C]::zj p W D T)).X5
 unfold wv;simp only
 obtain⟨m,hmm⟩:∃m,m=(W.g k).n-1:=⟨_,rfl⟩
 have Z2:∀w,Calls Tryz.prog 112 #[.slice (some ⟨s,0,none⟩) (W.g k).n cap] w fun e w'=>e=.returned (.pointer (some ⟨s,m*11,none⟩))∧w'=w:=fun w=>by
  have:=WL s m cap w (by omega)
  rw[show m+1=(W.g k).n by omega] at this
  exact this
 have HT:=Qq Z2;have HS:Hid (∀(W1:Wd) (wx:World) (Y1:List zv),Own w0 wx (zj p W1 D T++Y1)→D.fits W1→W1.gs.length=W.gs.length→(W1.g k).n=(W.g k).n→∀(a:Nat) (u:Int),a<8 →
   (∃v0,wx.cell? ⟨s,m*11+2+a,none⟩=some v0)∧wx.frozen? ⟨s,m*11+2+a,none⟩=false∧Own w0 (wx.setCell ⟨s,m*11+2+a,none⟩ (.int .i64 u)) (zj p (W1.put k (a:Int) u) D T++Y1)∧D.fits (W1.put k (a:Int) u)):=Qq (fun W1 wx Y1 ho hf1 hl1 hn1 a u ha=>by
  have hk1:k<W1.gs.length:=by omega
  obtain⟨r0,r1⟩:=ZO (YY ho hk1 hs).1 (by rw[hn1];exact hm.1) a ha
  have r2:=VI ho hk1 hs a u;rw[hn1,←hmm] at r0 r1 r2;exact⟨⟨_,r0⟩,r1,r2,hf1.ye _ _⟩)
 clear Z2;obtain⟨b,off,haa,-,-,sl,-⟩:=Yt hA hk8 hs;have p2:=(hA.zi 0 rfl 2 _ rfl).1
 have q0:=(hA.zi 11 rfl 0 _ rfl).1
 rw[haa] at p2;have k0:(0:Int)≤(k:Int):=by omega
 have k8:(k:Int)<(W.gs.length:Int):=by omega
 have j0:(0:Int)≤(j:Int):=by omega
 have j8:(j:Int)<((W.yK (op,A,B,C)).length:Int):=by omega
 have HA:=Qq hA;have HK:=Qq hk;have HX:=Qq hx;obtain⟨n,hn⟩:∃n,n=(W.g k).n:=⟨_,rfl⟩
 obtain⟨N,hN⟩:∃N,N=W.gs.length:=⟨_,rfl⟩
 rw[←hn] at HT sl;rw[←hN] at p2 k8;have HN:=Qq hN;have Hn:=Qq hn;have HF:=Qq hf;have HCx:=Qq hc;have HRx:=Qq hr;have HK8:=Qq hk8;clear hA h hs hmm haa hm hgl hg hj hN hn hf hk hx hc hr hk8;go_enter Tryz.func172,Tryz.ntmps172
 go_upto_region 1 with fail
 generalize ((w.alloc (.cells #[.int .i64 op,.int .i64 A,.int .i64 B,.int .i64 C] 86)).alloc (.cells #[.int .i64 (k:Int),.int .i64 (j:Int),.int .i64 v] 270))=w1 at *
 generalize w.heap.size=bx at *;refine zk (fun wx=>∃nq,wx=World.drewN (w1) nq) 13 0 (Array.replicate 13 false) (Qj 13 8191) (by kernel_rfl) (by kernel_rfl) ?_
 refine zf 0 9 _ (Qj 13 511) 4 (by kernel_rfl) za (zE w1) (by kernel_rfl) ?_
 simp only[QX,QV,QJ];(repeat((first|refine Qx (h:=?_)|refine Qw (h:=?_));simp only[Act.put,QW,QY,QZ]));refine zb ?_;refine zA 9 _ (Qj 13 1023) 3 (by kernel_rfl) (fun K hK=>?_)
 have HKK:=Qq hK;clear hK;simp only[QQ,QJ];refine zc (by rfl) ?_;go_simp;refine(HT.out _).mono ?_
 rintro r w2 ⟨rfl,rfl⟩;refine HKK.out _ _ (zE w1) ?_
 clear HKK K;refine zf 10 3 _ (Qj 13 8191) 0 (by kernel_rfl) za (zE w1) (by kernel_rfl) ?_
 simp only[QX,QV,QQ,QJ];(repeat((first|refine Qx (h:=?_)|refine Qw (h:=?_));simp only[Act.put,QW,QY,QZ]));refine zb ?_;refine zo ?_;refine zD (by kernel_rfl) (NoPanic.normal ?_)
 go_upto_region 2 with fail
 have H1:=Qq (HA.out.step (zg w1))
 clear HA q0 p2 sl;obtain⟨c0,c1,c2,hcc⟩:∃c0 c1 c2,(W.yK (op,A,B,C))[j]?=some (c0,c1,c2):=⟨_,_,_,List.getElem?_eq_getElem hj8⟩
 have HCC:=Qq hcc;have hge:(W.yK (op,A,B,C))[j]=(c0,c1,c2):=(List.getElem?_eq_some_iff.1 hcc).2
 have HGE:=Qq hge;clear hcc hge;go_cut [9] (fun s9 wx=>∃cb c0 c1 c2,s9=.pointer (some ⟨cb,0,none⟩)∧(W.yK (op,A,B,C))[j]?=some (c0,c1,c2)∧Own w0 wx (zj p W D T++(ze cb [.int .i64 c0,.int .i64 c1,.int .i64 c2]::ze bx [.int .i64 op,.int .i64 A,.int .i64 B,.int .i64 C]::ze (bx+1) [.int .i64 (k:Int),.int .i64 (j:Int),.int .i64 v]::Y)))
 case first =>
  have SB:∀(wx:World) (Z:List zv),Own w0 wx (zj p W D T++(ze bx [.int .i64 op,.int .i64 A,.int .i64 B,.int .i64 C]::ze (bx+1) [.int .i64 (k:Int),.int .i64 (j:Int),.int .i64 v]::Z)) →
    wx.cell? ⟨bx,0,none⟩=some (.int .i64 op)∧wx.cell? ⟨bx,1,none⟩=some (.int .i64 A)∧wx.cell? ⟨bx,2,none⟩=some (.int .i64 B)∧wx.cell? ⟨bx,3,none⟩=some (.int .i64 C)∧wx.cell? ⟨bx+1,1,none⟩=some (.int .i64 (j:Int))∧bx<wx.heap.size:=by
   intro wx Z ho;have hc:=ho.zi 10 rfl;exact⟨(hc 0 _ rfl).1,(hc 1 _ rfl).1,(hc 2 _ rfl).1,(hc 3 _ rfl).1,(ho.zi 11 rfl 1 _ rfl).1,World.block_lt_of_cell? wx _ (hc 0 _ rfl).1⟩
  have o1:=H1.out.step (zg _)
  refine xh (fun wx=>wx.cell? ⟨bx,0,none⟩=some (.int .i64 op)∧wx.cell? ⟨bx,1,none⟩=some (.int .i64 A)∧wx.cell? ⟨bx,2,none⟩=some (.int .i64 B)∧wx.cell? ⟨bx,3,none⟩=some (.int .i64 C)∧wx.cell? ⟨bx+1,1,none⟩=some (.int .i64 (j:Int))∧bx<wx.heap.size) 9 (Array.replicate 9 false) (by kernel_rfl) (by kernel_rfl) ?_
  refine zF 0 2 _ (Qj 9 3) 7 (by kernel_rfl) za (SB _ _ o1) (by kernel_rfl) ?_
  simp only[QX,QV,QJ];(repeat((first|refine Qx (h:=?_)|refine Qv (h:=?_));simp only[Act.put,QW,QY,QZ]));refine zb ?_;refine zF 3 2 _ (Qj 9 27) 5 (by kernel_rfl) za (SB _ _ o1) (by kernel_rfl) ?_
  simp only[QX,QV,QQ,QJ];(repeat((first|refine Qx (h:=?_)|refine Qv (h:=?_));simp only[Act.put,QW,QY,QZ]));refine zb ?_;refine xI 2 7 _ (Qj 9 31) (Qj 9 155) 4 (by kernel_rfl) (fun K hK=>?_) (fun K hK=>?_)
  ·skip
   have HKK:=Qq hK;clear hK;simp only[QQ,QJ];refine zc (by rfl) ?_;go_simp;refine(ZU o1 HF.out (op,A,B,C) HX.out HK.out).mono ?_
   rintro r w3 ⟨a,ca,Z,rfl,hP,hl,o3,-⟩
   obtain⟨cbk,co,rfl,y0,y1,y2⟩:=(hP.cells o3 2 0 rfl rfl).wt j (by simpa using hj8)
   rw[HGE.out] at y0 y1 y2;have o4:=o3.drop;refine HKK.out _ _ (SB _ _ o4) ?_
   clear HKK K;refine zF 5 1 _ (Qj 9 63) 3 (by kernel_rfl) za (SB _ _ o4) (by kernel_rfl) ?_
   simp only[QX,QV,QQ,QJ];(repeat((first|refine Qx (h:=?_)|refine Qv (h:=?_));simp only[Act.put,QW,QY,QZ]));refine zb ?_;refine xI 6 7 _ (Qj 9 127) (Qj 9 191) 2 (by kernel_rfl) (fun K hK=>?_) (fun K hK=>?_)
   ·skip
    have HKK:=Qq hK;clear hK;simp only[QQ,QJ];refine zc (by rfl) ?_;go_simp;refine HKK.out _ _ (SB _ _ o4) ?_
    clear HKK K;have o5:=o4.alloc [.int .i64 0,.int .i64 0,.int .i64 0] 129 (b:=w3.heap.size) rfl
    refine zM 7 _ (Qj 9 255) 1 (by kernel_rfl) (fun K hK=>?_)
    have HKK:=Qq hK;clear hK;simp only[QQ,QJ];refine zc (by rfl) ?_;go_simp;refine HKK.out _ _ (SB _ _ o5.drop) ?_
    clear HKK K;have HOx:=Qq ((o4.alloc [.int .i64 c0,.int .i64 c1,.int .i64 c2] 129 (b:=w3.heap.size) rfl).X5)
    refine yG 8 _ (Qj 9 511) (by kernel_rfl) (fun K hK=>?_)
    have HKK:=Qq hK;clear hK;simp only[QQ,QJ];refine zc (by rfl) ?_;go_simp;refine HKK.out _ _ (NoPanic.normal ?_)
    clear HKK K;go_wp2_with fail;go_meet;exact⟨_,c0,c1,c2,rfl,HCC.out,HOx.out⟩
   ·skip
    have HKK:=Qq hK;clear hK;simp only[QQ,QJ];refine zc (by rfl) ?_;go_simp;have o5:=o4.alloc [.int .i64 0,.int .i64 0,.int .i64 0] 129 (b:=w3.heap.size) rfl
    refine HKK.out _ _ (SB _ _ o5.drop) ?_
    clear HKK K;have y0':∀q,(w3.alloc q).cell? ⟨cbk,co+j*3,none⟩=some (.int .i64 c0):=fun q=>zq y0 (below_alloc1 w3 q)
    have y1':∀q,(w3.alloc q).cell? ⟨cbk,co+j*3+1,none⟩=some (.int .i64 c1):=fun q=>zq y1 (below_alloc1 w3 q)
    have y2':∀q,(w3.alloc q).cell? ⟨cbk,co+j*3+2,none⟩=some (.int .i64 c2):=fun q=>zq y2 (below_alloc1 w3 q)
    refine zM 6 _ (Qj 9 255) 1 (by kernel_rfl) (fun K hK=>?_)
    have HKK:=Qq hK;clear hK;simp only[QQ,QJ];refine zc (by rfl) ?_;go_simp;refine HKK.out _ _ (SB _ _ o5.drop) ?_
    clear HKK K;have HOx:=Qq ((o4.alloc [.int .i64 c0,.int .i64 c1,.int .i64 c2] 129 (b:=w3.heap.size) rfl).X5)
    refine yG 8 _ (Qj 9 511) (by kernel_rfl) (fun K hK=>?_)
    have HKK:=Qq hK;clear hK;simp only[QQ,QJ];refine zc (by rfl) ?_;go_simp;refine HKK.out _ _ (NoPanic.normal ?_)
    clear HKK K;go_wp2_with fail;go_meet;exact⟨_,c0,c1,c2,rfl,HCC.out,HOx.out⟩
  ·skip
   have o5:=(o1.alloc [.int .i64 0,.int .i64 0,.int .i64 0] 129 (b:=w1.heap.size) rfl).X5
   have hcb:=World.block_lt_of_cell? _ _ (o5.zi 10 rfl 0 _ rfl).1
   have HKK:=Qq hK;clear hK;simp only[QQ,QJ];refine zc (by rfl) ?_;go_simp;refine HKK.out _ _ (SB _ _ o5.yC.drop) ?_
   clear HKK K;refine zM 2 _ (Qj 9 159) 3 (by kernel_rfl) (fun K hK=>?_)
   have HKK:=Qq hK;clear hK;simp only[QQ,QJ];refine zc (by rfl) ?_;go_simp;refine(ZU o5 HF.out (op,A,B,C) HX.out HK.out).mono ?_
   rintro r w3 ⟨a,ca,Z,rfl,hP,hl,o3,-⟩
   obtain⟨cbk,co,rfl,y0,y1,y2⟩:=(hP.cells o3 2 0 rfl rfl).wt j (by simpa using hj8)
   rw[HGE.out] at y0 y1 y2;have o6:=o3.drop;refine HKK.out _ _ (SB _ _ o6.yC.drop) ?_
   clear HKK K;refine zF 5 1 _ (Qj 9 191) 2 (by kernel_rfl) za (SB _ _ o6.yC.drop) (by kernel_rfl) ?_
   simp only[QX,QV,QQ,QJ];(repeat((first|refine Qx (h:=?_)|refine Qv (h:=?_));simp only[Act.put,QW,QY,QZ]));refine zb ?_;refine zM 6 _ (Qj 9 255) 1 (by kernel_rfl) (fun K hK=>?_)
   have HKK:=Qq hK;clear hK;simp only[QQ,QJ];refine zc (by rfl) ?_;go_simp;refine HKK.out _ _ (SB _ _ o6.yC.drop) ?_
   clear HKK K;obtain⟨z0,f0⟩:=o6.zi 10 rfl 0 _ rfl;obtain⟨z1,f1⟩:=o6.zi 10 rfl 1 _ rfl;obtain⟨z2,f2⟩:=o6.zi 10 rfl 2 _ rfl;have HOx:=Qq (((o6.yC.set 0 (.int .i64 c0)).set 1 (.int .i64 c1)).set 2 (.int .i64 c2)).X5
   refine yG 8 _ (Qj 9 511) (by kernel_rfl) (fun K hK=>?_)
   have HKK:=Qq hK;clear hK;simp only[QQ,QJ];refine zc (by rfl) ?_;go_simp;refine HKK.out _ _ (NoPanic.normal ?_)
   clear HKK K;go_wp2_with fail;go_meet;exact⟨_,c0,c1,c2,rfl,HCC.out,HOx.out⟩
 case rest =>
  obtain⟨cb,d0,d1,d2,rfl,hdd,ho⟩:=hcut;have hd:(d0,d1,d2)=(c0,c1,c2):=by have:=HCC.out;rw[hdd] at this;exact Option.some.inj this
  simp only[Prod.mk.injEq] at hd;obtain⟨rfl,rfl,rfl⟩:=hd;clear hdd;have e:W.fin (op,A,B,C) ((k:Int),(j:Int),v) some_=(let W1:=if d0=0 then W.put k d2 v else W;if op=16 then W1.put k C (j:Int) else if op=14 then W1.put k C (if some_ then 1 else 0) else W1):=by
   unfold Wd.fin;simp only[Int.toNat_natCast,List.getD_eq_getElem?_getD,HCC.out,Option.getD_some]
  have HE:=Qq e;clear e;have hb0:=(ho.zi 10 rfl 0 _ rfl).1
  have hb2:=(ho.zi 10 rfl 2 _ rfl).1
  have hv2:=(ho.zi 12 rfl 2 _ rfl).1
  have HO:=Qq ho;clear ho H1;go_upto_if 31 with fail
  go_cut [] (fun wx=>∃W1:Wd,W1=(if d0=0 then W.put k d2 v else W)∧W1.gs.length=W.gs.length∧(W1.g k).n=(W.g k).n∧D.fits W1∧Own w0 wx (zj p W1 D T++(ze cb [.int .i64 d0,.int .i64 d1,.int .i64 d2]::ze bx [.int .i64 op,.int .i64 A,.int .i64 B,.int .i64 C]::ze (bx+1) [.int .i64 (k:Int),.int .i64 (j:Int),.int .i64 v]::Y)))
  case first =>
   by_cases h0:d0=0
   ·have h2:=HCx.out _ (List.mem_of_getElem? HCC.out) h0
    simp only at h2
    obtain⟨a,ha,ha8⟩:=yN (n:=8) h2
    have ht:(d0==0)=true:=by simp[h0]
    have a0:(0:Int)≤(a:Int):=by omega
    have a8:(a:Int)<8:=by omega
    have hX:Hid (∀W1:Wd,W1=W.put k d2 v→∃W1:Wd,W1=(if d0=0 then W.put k d2 v else W)∧W1.gs.length=W.gs.length∧(W1.g k).n=(W.g k).n∧D.fits W1∧True):=Qq (fun W1 e=>⟨W1,by rw[if_pos h0,e],by rw[e,Wd.PX],by rw[e,Wd.Ht _ _ _ _ _ HK8.out],by rw[e];exact HF.out.ye _ _,trivial⟩)
    rw[ha] at hb2;obtain⟨⟨v0,r0⟩,r1,r2,r3⟩:=HS.out W _ _ HO.out HF.out rfl rfl a v ha8;have HO2:=Qq (r2.step (zg _))
    have H0:=Qq h0;have HAa:=Qq ha;clear h0 ha h2 r2;go_upto_region 4 with fail
    refine zk (fun wx=>∃nq,wx=World.drewN (wc) nq) 7 1 (Array.replicate 8 false) (Qj 8 127) (by kernel_rfl) (by kernel_rfl) ?_
    refine zf 0 7 _ (Qj 8 127) 0 (by kernel_rfl) za (zE wc) (by kernel_rfl) ?_
    simp only[QX,QV,QJ];(repeat((first|refine Qx (h:=?_)|refine Qw (h:=?_));simp only[Act.put,QW,QY,QZ]));refine zb ?_;refine zo ?_;refine zS 7 (by kernel_rfl) ?_
    simp only[QQ,QJ];have r0':wc.drew.cell? ⟨s,m*11+2+a,none⟩=some v0:=r0
    have r1':wc.drew.frozen? ⟨s,m*11+2+a,none⟩=false:=r1
    go_wp2_with fail;refine NoPanic.normal ?_
    go_wp2_with fail;go_meet;exact⟨W.put k d2 v,by rw[if_pos H0.out],Wd.PX _ _ _ _,Wd.Ht _ _ _ _ _ HK8.out,by rw[HAa.out];exact r3,by have:=HO2.out;rw[←HAa.out] at this;exact this⟩
   ·have ht:(d0==0)=false:=by simp[h0]
    have H0:=Qq h0;clear h0;go_wp2_with fail;go_meet;exact⟨W,by rw[if_neg H0.out],rfl,rfl,HF.out,HO.out⟩
  case rest =>
   obtain⟨W1,hW1,hl1,hn1,hf1,ho1⟩:=hcut;have HW1:=Qq hW1;have hx0:=(ho1.zi 11 rfl 0 _ rfl).1
   have hx3:=(ho1.zi 11 rfl 3 _ rfl).1
   have hbj:=(ho1.zi 12 rfl 1 _ rfl).1
   have HO1:=Qq ho1;clear hW1 ho1 HO hb0 hb2 hv2;rcases HX.out with hx|hx|⟨hx,-⟩
   ·simp only at hx
    subst hx;have HF1:=Qq hf1;clear hf1;go_wp2
    all_goals
     go_end0
     rw[HE.out,←HW1.out];exact⟨rfl,HO1.out.yC.drop.yC.drop.yC.drop,HF1.out⟩
   ·simp only at hx
    subst hx;have hC8:=HRx.out (.inl rfl)
    simp only at hC8
    cases some_ with
    | true =>
     obtain⟨a,ha,ha8⟩:=yN (n:=8) hC8
     subst ha;have a0:(0:Int)≤(a:Int):=by omega
     have a8:(a:Int)<8:=by omega
     obtain⟨⟨v0,r0⟩,r1,r2,r3⟩:=HS.out W1 _ _ HO1.out hf1 hl1 hn1 a 1 ha8;have HO2:=Qq (r2.step (zg _))
     have HF2:=Qq r3;clear r2 r3 hf1;go_upto_region 8 with fail
     refine zk (fun wx=>∃nq,wx=World.drewN (wc) nq) 5 1 (Array.replicate 6 false) (Qj 6 31) (by kernel_rfl) (by kernel_rfl) ?_
     refine zf 0 5 _ (Qj 6 31) 0 (by kernel_rfl) za (zE wc) (by kernel_rfl) ?_
     simp only[QX,QV,QJ];(repeat((first|refine Qx (h:=?_)|refine Qw (h:=?_));simp only[Act.put,QW,QY,QZ]));refine zb ?_;refine zo ?_;refine zS 5 (by kernel_rfl) ?_
     simp only[QQ,QJ];go_wp2_with fail;refine NoPanic.normal ?_
     go_wp2_with fail;go_end0
     rw[HE.out,←HW1.out];exact⟨rfl,HO2.out.yC.drop.yC.drop.yC.drop,HF2.out⟩
    | false =>
     obtain⟨a,ha,ha8⟩:=yN (n:=8) hC8
     subst ha;have a0:(0:Int)≤(a:Int):=by omega
     have a8:(a:Int)<8:=by omega
     obtain⟨⟨v0,r0⟩,r1,r2,r3⟩:=HS.out W1 _ _ HO1.out hf1 hl1 hn1 a 0 ha8;have HO2:=Qq (r2.step (zg _))
     have HF2:=Qq r3;clear r2 r3 hf1;go_upto_region 10 with fail
     refine zk (fun wx=>∃nq,wx=World.drewN (wc) nq) 5 1 (Array.replicate 6 false) (Qj 6 31) (by kernel_rfl) (by kernel_rfl) ?_
     refine zf 0 5 _ (Qj 6 31) 0 (by kernel_rfl) za (zE wc) (by kernel_rfl) ?_
     simp only[QX,QV,QJ];(repeat((first|refine Qx (h:=?_)|refine Qw (h:=?_));simp only[Act.put,QW,QY,QZ]));refine zb ?_;refine zo ?_;refine zS 5 (by kernel_rfl) ?_
     simp only[QQ,QJ];go_wp2_with fail;refine NoPanic.normal ?_
     go_wp2_with fail;go_end0
     rw[HE.out,←HW1.out];exact⟨rfl,HO2.out.yC.drop.yC.drop.yC.drop,HF2.out⟩
   ·simp only at hx
    subst hx;have hC8:=HRx.out (.inr rfl)
    simp only at hC8
    obtain⟨a,ha,ha8⟩:=yN (n:=8) hC8
    subst ha;have a0:(0:Int)≤(a:Int):=by omega
    have a8:(a:Int)<8:=by omega
    obtain⟨⟨v0,r0⟩,r1,r2,r3⟩:=HS.out W1 _ _ HO1.out hf1 hl1 hn1 a (j:Int) ha8
    have HO2:=Qq (r2.step (zg _))
    have HF2:=Qq r3;clear r2 r3 hf1;go_upto_region 6 with fail
    refine zk (fun wx=>∃nq,wx=World.drewN (wc) nq) 7 1 (Array.replicate 8 false) (Qj 8 127) (by kernel_rfl) (by kernel_rfl) ?_
    refine zf 0 7 _ (Qj 8 127) 0 (by kernel_rfl) za (zE wc) (by kernel_rfl) ?_
    simp only[QX,QV,QJ];(repeat((first|refine Qx (h:=?_)|refine Qw (h:=?_));simp only[Act.put,QW,QY,QZ]));refine zb ?_;refine zo ?_;refine zS 7 (by kernel_rfl) ?_
    simp only[QQ,QJ];go_wp2_with fail;refine NoPanic.normal ?_
    go_wp2_with fail;go_end0
    rw[HE.out,←HW1.out];exact⟨rfl,HO2.out.yC.drop.yC.drop.yC.drop,HF2.out⟩
theorem WO {w0 w:World}{p:Nat}{T:List Value}{d:Dq}{W:Wd}{rd:List Int}{R:List zv}(h:yL w0 w p T d W rd R)(k:Nat)(hk:k<W.gs.length)(hk2:W.gs.length≤1000)(hr:rd.length≤1000000) :
  Calls Tryz.prog 157 #[.pointer (some ⟨d.q,0,none⟩),.int .i64 (k:Int)] w fun r w'=>r=.returned (.tuple #[])∧yL w0 w' p T d (W.zU k 1) (rd++[(k:Int)]) R:=by
 obtain⟨D,ra,rc,hf,h⟩:=h;obtain⟨s,cap,hs⟩:=hf.Yh hk;obtain⟨b,off,haa,c0,c1,-,-⟩:=Yt h hk hs;have q0:=(h.zi 10 rfl 0 _ rfl).1
 have p2:=(h.zi 0 rfl 2 _ rfl).1
 rw[haa] at p2;have o1:=Ve h hf hk haa 1;have hf1:D.fits (W.zU k 1):=hf.ye _ _
 have q9:=(o1.zi 10 rfl 9 _ rfl).1
 have q0':=(o1.zi 10 rfl 0 _ rfl).1
 have k0:(0:Int)≤(k:Int):=by omega
 have k8:(k:Int)<(W.gs.length:Int):=by omega
 have hrow:=o1.xl 11 rfl;have H1:=Qq o1;have HF:=Qq hf1;have HR:=Qq hrow;obtain⟨i0,hi0,hz0,hz1,hz2⟩:=info_parts Zq;have Hi:=Qq hi0;clear hi0
 have Hz0:=Qq hz0;clear hz0
 have Hz1:=Qq hz1;clear hz1
 have Hz2:=Qq hz2;clear hz2
 obtain⟨n,hn⟩:∃n,n=rd.length:=⟨_,rfl⟩
 rw[←hn] at q9 HR hr;have HN:=Qq hn;generalize W.gs.length=N at *;clear hrow hf h o1 hf1 hs hn hk haa;go_enter Tryz.func157,Tryz.ntmps157
 go_upto_region 1 with fail
 generalize w.setCell ⟨b,off+k*2,none⟩ (.int .i64 1)=w1 at *
 go_wp2_with (at_builtin;refine yk (m:=1) (ds:=zt [(k:Int)]) rfl _ _ 23 rfl 3 i0 _ Tryz.underlying23 Hi.out Hz0.out Hz1.out Hz2.out rfl (by omega) (by omega) rfl rfl (HR.out.below (below_alloc1 _ _)) (zr.new _ (zt [(k:Int)]) _ rfl) rfl (ZL _) (by omega) ?_)
 intro a9 c9 w9 k9 ch9 f9;have o3:=H1.out.step (below_alloc1 w1 (.cells #[.int .i64 (k:Int)] 3))
 have e1:(rd++[(k:Int)]).length=n+1:=by rw[List.length_append,←HN.out];rfl
 have o4:=(Own.yJ (o3.pick 11 rfl) k9 ch9 (by simpa using f9)).back (i:=11) (As:=zj p (W.zU k 1) D T++(ze d.q (yp p (d.g:Int) d.x d.th d.dr d.go ra rd.length rc)::zd 1 ra rc rd.length (zt rd)::R)) (by simp[zj])
 have o5:=o4.setAt 10 rfl 9 (.slice a9 (n+1) c9)
 obtain⟨z9,f9'⟩:=o4.zi 10 rfl 9 _ rfl;have HFin:Hid (yL w0 (w9.setCell ⟨d.q,9,none⟩ (.slice a9 (n+1) c9)) p T d (W.zU k 1) (rd++[(k:Int)]) R):=Qq ⟨D,a9,c9,HF.out,by
  rw[e1,ZM];exact o5⟩
 clear o3 o4 o5 k9 ch9 f9 e1 H1 HF HR;go_wp2;go_end0
 exact⟨rfl,HFin.out⟩
def xm (W:Wd)(k:Int):Int:=if 0≤k∧k<(W.gs.length:Int) then(W.g k.toNat).st else 0
theorem X9 {w0 w:World}{p:Nat}{W:Wd}{D:Wa}{T:List Value}{Y:List zv}(h:Own w0 w (zj p W D T++Y))(hf:D.fits W)(k:Int) :
  Calls Tryz.prog 35 #[.pointer (some ⟨p,0,none⟩),.int .i64 k] w fun r w'=>r=.returned (.int .i64 (xm W k))∧w'=w:=by
 have p2:=(h.zi 0 rfl 2 _ rfl).1
 have HH:=Qq (fun w=>LP D.aa W.gs.length D.ac k w)
 by_cases hk:0≤k∧k<(W.gs.length:Int)
 ·obtain⟨n,rfl,hn⟩:=yN (n:=W.gs.length) hk
  obtain⟨s,cap,hs⟩:=hf.Yh hn;obtain⟨b,off,haa,c0,-,-,-⟩:=Yt h hn hs;have e:xm W (n:Int)=(W.g n).st:=by unfold xm;rw[if_pos hk];rfl
  rw[e];have hd:decide (0≤(n:Int)∧(n:Int)<(W.gs.length:Int))=true:=decide_eq_true hk
  rw[hd,haa] at HH;rw[haa] at p2;have k0:(0:Int)≤(n:Int):=by omega
  have k8:(n:Int)<(W.gs.length:Int):=by omega
  generalize W.gs.length=N at *;clear h hf hk hs haa hd e;go_enter Tryz.func35,Tryz.ntmps35
  go_wp2_with fail;refine(HH.out _).mono ?_
  rintro r w1 ⟨rfl,rfl⟩;go_wp2;go_ret;exact⟨rfl,rfl⟩
 ·have e:xm W k=0:=by unfold xm;rw[if_neg hk]
  rw[e];have hd:decide (0≤k∧k<(W.gs.length:Int))=false:=decide_eq_false hk
  rw[hd] at HH;generalize W.gs.length=N at *;clear h hf hk hd e;go_enter Tryz.func35,Tryz.ntmps35
  go_wp2_with fail;refine(HH.out _).mono ?_
  rintro r w1 ⟨rfl,rfl⟩;go_wp2;go_ret;exact⟨rfl,rfl⟩
theorem Om {w0 w:World}{p:Nat}{W:Wd}{D:Wa}{T:List Value}{Y:List zv}(h:Own w0 w (zj p W D T++Y))(hf:D.fits W){fn i:Nat}{l:List yq}{x:yq}(hl:W.fs[fn]?=some l)(hx:l[i]?=some x) :
  ∃b off c bb oo,D.fa=some ⟨b,off,none⟩∧w.cell? ⟨b,off+fn,none⟩=some (.slice (some ⟨bb,oo,none⟩) l.length c)∧w.cell? ⟨bb,oo+i*4,none⟩=some (.int .i64 x.1)∧w.cell? ⟨bb,oo+i*4+1,none⟩=some (.int .i64 x.2.1)∧w.cell? ⟨bb,oo+i*4+2,none⟩=some (.int .i64 x.2.2.1)∧w.cell? ⟨bb,oo+i*4+3,none⟩=some (.int .i64 x.2.2.2):=by
 have hfl:fn<D.fr.length:=by rw[hf.f];exact(List.getElem?_eq_some_iff.1 hl).1
 obtain⟨F,⟨-,⟨-,h2⟩,-,h4⟩,-⟩:=h.fact 1 rfl;have hr:=List.getElem?_eq_getElem hfl
 obtain⟨b,off,e1,e2⟩:=h2 fn (.slice (D.fr[fn]).1 l.length (D.fr[fn]).2) (by unfold Oy;rw[List.getElem?_zipWith,hr,hl])
 obtain⟨hi,hxe⟩:=List.getElem?_eq_some_iff.1 hx
 obtain⟨bb,oo,e3,e4⟩:=zr.rec (f:=FK) (s:=4) (fun _=>rfl) (h4 fn _ l hr hl).2 i hi (by omega)
 rw[hxe] at e4;rw[e3] at e2;exact⟨b,off,_,bb,oo,e1,e2,e4 0 _ rfl,e4 1 _ rfl,e4 2 _ rfl,e4 3 _ rfl⟩
theorem JS {w0 w:World}{p:Nat}{W:Wd}{D:Wa}{T:List Value}{Y:List zv}(h:Own w0 w (zj p W D T++Y))(hf:D.fits W) :
  ∃R',Own w0 w (YD (List.zip D.ps W.Ns) W.Cs++zd 1 D.ha D.hc W.Cs.length (xT (List.zip D.ps W.Ns))::R') ∧
   ∀w' Cs',Cs'.length=W.Cs.length→Own w0 w' (YD (List.zip D.ps W.Ns) Cs'++zd 1 D.ha D.hc W.Cs.length (xT (List.zip D.ps W.Ns))::R')→Own w0 w' (zj p { W with Cs:=Cs' } D T++Y)∧D.fits { W with Cs:=Cs' }:=by
 have h1:=((h.pick 5 rfl).pick 5 rfl).pick 1 rfl
 refine⟨_,h1.FL,fun w' Cs' hl h'=>⟨?_,⟨hf.f,hf.g,by simp[hf.c,hl],by simp[hf.n,hl],hf.l,hf.k⟩⟩⟩
 have h2:=(((((Own.Qz h').pick 1 rfl).pick 5 rfl).pick 5 rfl).pick 5 rfl).pick 5 rfl
 simp only[zj,yH,hl];exact h2
theorem Gv (W:Wd)(i:Nat)(k v:Int):∃gs',W.put i k v={ W with gs:=gs' }∧gs'.length=W.gs.length:=⟨_,rfl,by simp⟩
theorem Gz (W:Wd)(x:yq)(by_:Wt)(some_:Bool):∃gs',W.fin x by_ some_={ W with gs:=gs' }∧gs'.length=W.gs.length:=by
 have h1:∀W1:Wd,(∃gs',W1={ W with gs:=gs' }∧gs'.length=W.gs.length)→∀i k v,∃gs',W1.put i k v={ W with gs:=gs' }∧gs'.length=W.gs.length:=by
  rintro W1 ⟨gs',rfl,hl⟩ i k v
  obtain⟨g2,e,hl2⟩:=Gv { W with gs:=gs' } i k v
  exact⟨g2,e,by rw[hl2];exact hl⟩
 have h0:∃gs',W={ W with gs:=gs' }∧gs'.length=W.gs.length:=⟨W.gs,rfl,rfl⟩
 unfold Wd.fin;simp only
 split<;>split<;>(try split)<;>(try split)<;>first|exact h0|exact h1 _ h0 _ _ _|exact h1 _ (h1 _ h0 _ _ _) _ _ _
structure Li (W:Wd) (by_:Wt):Prop where
 g:0≤by_.1∧by_.1<(W.gs.length:Int)
 gl:W.gs.length≤1000
 ins:(W.g by_.1.toNat).st=2→∃x,W.Zi (W.g by_.1.toNat).fn ((W.g by_.1.toNat).pc-1)=some x∧WC W x by_∧0≤(W.g by_.1.toNat).fn∧(W.g by_.1.toNat).pc≤100000
 cs:RI 100000 W.Cs∧W.Cs.length≤100000
theorem TM {w0 w:World}{p:Nat}{T:List Value}{d:Dq}{W:Wd}{rd:List Int}{R:List zv}(h:yL w0 w p T d W rd R)(by_:Wt)(some_:Bool)(ok:Li W by_)(hr:rd.length≤1000000) :
  Calls Tryz.prog 161 #[.pointer (some ⟨d.q,0,none⟩),wv by_,.bool some_] w fun r w'=>r=.returned (.tuple #[])∧yL w0 w' p T d (goOnM W rd by_ some_).1 (goOnM W rd by_ some_).2 R:=by
 obtain⟨hg,hgl,hins,hlim,hcl⟩:=ok;obtain⟨D,ra,rc,hf,h⟩:=h;obtain⟨k,hK,hk8⟩:=yN (n:=W.gs.length) hg
 obtain⟨b1,b2,v⟩:=by_;simp only at hK
 subst hK;simp only[Int.toNat_natCast] at hins;have hA:=(h.alloc [.int .i64 (k:Int),.int .i64 b2,.int .i64 v] 270 (b:=w.heap.size) rfl).X5 (L:=zj p W D T)
 have q0:=(hA.zi 11 rfl 0 _ rfl).1
 have z0:=(hA.zi 10 rfl 0 _ rfl).1
 have hst:=Qq (X9 (hA.step (zg _)) hf (k:Int))
 have es:xm W (k:Int)=(W.g k).st:=by unfold xm;rw[if_pos hg];rfl
 rw[es] at hst;unfold wv;simp only
 by_cases hw:(W.g k).st=2
 ·obtain⟨x,hx,okf,hfn,hpc⟩:=hins hw
  have e:goOnM W rd ((k:Int),b2,v) some_=(((W.fin x ((k:Int),b2,v) some_).leave (k:Int)).zU k 1,rd++[(k:Int)]):=by
   unfold goOnM;simp only[Int.toNat_natCast];rw[if_pos hw,hx]
  have HE:=Qq e;obtain⟨f,hfe⟩:=Int.eq_ofNat_of_zero_le hfn;have hx':=hx;unfold Wd.Zi at hx'
  have hpc1:¬(W.g k).pc-1<0:=by intro hh;rw[if_pos hh] at hx';cases hx'
  rw[if_neg hpc1,hfe,Int.toNat_natCast,List.getD_eq_getElem?_getD] at hx'
  obtain⟨i,hie⟩:=Int.eq_ofNat_of_zero_le (by omega:0≤(W.g k).pc-1)
  rw[hie,Int.toNat_natCast] at hx'
  obtain⟨l,hl⟩:∃l,W.fs[f]?=some l:=by
   cases hc:W.fs[f]? with
   | none=>rw[hc] at hx';simp at hx'
   | some l=>exact⟨l,rfl⟩
  rw[hl,Option.getD_some] at hx'
  obtain⟨s,cap,hs⟩:=hf.Yh hk8;obtain⟨b,off,haa,-,-,sl,-⟩:=Yt hA hk8 hs;obtain⟨cb0,co0,cc,cbb,coo,hfa,y1,x0,x1,x2,x3⟩:=Om hA hf hl hx';have p2:=(hA.zi 0 rfl 2 _ rfl).1
  have p0:=(hA.zi 0 rfl 0 _ rfl).1
  have p3:=(hA.zi 0 rfl 3 _ rfl).1
  have z1:=(hA.zi 10 rfl 1 _ rfl).1
  have z2:=(hA.zi 10 rfl 2 _ rfl).1
  rw[haa] at p2;rw[hfa] at p0;obtain⟨m,hmm⟩:∃m,m=(W.g k).n-1:=⟨_,rfl⟩
  have hm:=okf.n;simp only[Int.toNat_natCast] at hm;have hS:=(YY hA hk8 hs).1
  have hfc:((w.alloc (.cells #[.int .i64 (k:Int),.int .i64 b2,.int .i64 v] 270))).cell? ⟨s,m*11,none⟩=some (.int .i64 (f:Int)):=by
   refine(hS.at ?_).1
   have hlt:m*11<(W.g k).z.length:=by rw[hS.len];omega
   rw[List.getElem?_eq_getElem hlt,←hfe]
   unfold Gt.fn Gt.o;rw[List.getD_eq_getElem?_getD,←hmm,List.getElem?_eq_getElem hlt];rfl
  obtain⟨pc,hpe⟩:∃pc,pc=(W.g k).pc:=⟨_,rfl⟩
  have hac:((w.alloc (.cells #[.int .i64 (k:Int),.int .i64 b2,.int .i64 v] 270))).cell? ⟨s,m*11+1,none⟩=some (.int .i64 pc):=by
   refine(hS.at ?_).1
   have hlt:m*11+1<(W.g k).z.length:=by rw[hS.len];omega
   rw[List.getElem?_eq_getElem hlt,hpe]
   unfold Gt.pc Gt.o;rw[List.getD_eq_getElem?_getD,←hmm,List.getElem?_eq_getElem hlt];rfl
  have hil:i<l.length:=(List.getElem?_eq_some_iff.1 hx').1
  have hsub:IntKind.i64.wrap (pc-1)=(i:Int):=by rw[IntKind.wrap_i64];omega
  have f0:(0:Int)≤(f:Int):=by omega
  have f8:(f:Int)<(W.fs.length:Int):=by have:=(List.getElem?_eq_some_iff.1 hl).1;omega
  have i0:(0:Int)≤(i:Int):=by omega
  have i8:(i:Int)<(l.length:Int):=by omega
  have k0:(0:Int)≤(k:Int):=by omega
  have k8:(k:Int)<(W.gs.length:Int):=by omega
  have Z2:∀w,Calls Tryz.prog 112 #[.slice (some ⟨s,0,none⟩) (W.g k).n cap] w fun e w'=>e=.returned (.pointer (some ⟨s,m*11,none⟩))∧w'=w:=fun w=>by
   have:=WL s m cap w (by omega)
   rw[show m+1=(W.g k).n by omega] at this
   exact this
  have HT:=Qq Z2;have HFn:=Qq (fun j=>TS some_ (hA.step (zx _ j)) hf okf)
  have HLim:=Qq hlim;have HCl:=Qq hcl;have HG:=Qq hgl;obtain⟨g2,hge,hgl2⟩:=Gz W x ((k:Int),b2,v) some_
  have HGE:=Qq hge;have HG2:=Qq hgl2;have HK8:=Qq hk8;have hpx:p<(w.alloc (.cells #[.int .i64 (k:Int),.int .i64 b2,.int .i64 v] 270)).heap.size:=World.block_lt_of_cell? _ _ p0
  rw[hw] at hst;obtain⟨N,hN⟩:∃N,N=W.gs.length:=⟨_,rfl⟩
  rw[←hN] at p2 k8;obtain⟨NF,hNF⟩:∃NF,NF=W.fs.length:=⟨_,rfl⟩
  rw[←hNF] at p0 f8;obtain⟨n,hn⟩:∃n,n=(W.g k).n:=⟨_,rfl⟩
  rw[←hn] at HT sl;clear hN hNF hw e es hA h hins hlim hcl hf hg hgl hx hx' hl hs haa hfa hS okf hfn hpc hfe hpc1 hie hmm hm hpe hil Z2 hge hgl2 hk8 hn;unfold wv at HFn;simp only at HFn
  go_enter Tryz.func161,Tryz.ntmps161
  go_upto_region 1 with fail
  generalize w.alloc (.cells #[.int .i64 (k:Int),.int .i64 b2,.int .i64 v] 270)=w1 at *
  generalize w.heap.size=bb at *;refine zk (fun wx=>∃nq,wx=World.drewN (w1) nq) 8 0 (Array.replicate 8 false) (Qj 8 255) (by kernel_rfl) (by kernel_rfl) ?_
  refine zf 0 6 _ (Qj 8 63) 2 (by kernel_rfl) za (zE w1) (by kernel_rfl) ?_
  simp only[QX,QV,QJ];(repeat((first|refine Qx (h:=?_)|refine Qw (h:=?_));simp only[Act.put,QW,QY,QZ]));refine zb ?_;refine zA 6 _ (Qj 8 127) 1 (by kernel_rfl) (fun K hK=>?_)
  have HKK:=Qq hK;clear hK;simp only[QQ,QJ];refine zc (by rfl) ?_;go_simp;refine hst.out.mono ?_
  rintro r w2 ⟨rfl,rfl⟩;refine HKK.out _ _ (zE w1) ?_
  clear HKK K;refine zf 7 1 _ (Qj 8 255) 0 (by kernel_rfl) za (zE w1) (by kernel_rfl) ?_
  simp only[QX,QV,QQ,QJ];(repeat((first|refine Qx (h:=?_)|refine Qw (h:=?_));simp only[Act.put,QW,QY,QZ]));refine zb ?_;refine zo ?_;refine zD (by kernel_rfl) (NoPanic.normal ?_)
  go_upto_region 2 with fail
  refine zk (fun wx=>∃nq,wx=World.drewN (w1.drew) nq) 14 0 (Array.replicate 14 false) (Qj 14 16383) (by kernel_rfl) (by kernel_rfl) ?_
  refine zf 0 12 _ (Qj 14 4095) 2 (by kernel_rfl) za (zE w1.drew) (by kernel_rfl) ?_
  simp only[QX,QV,QJ];(repeat((first|refine Qx (h:=?_)|refine Qw (h:=?_));simp only[Act.put,QW,QY,QZ]));refine zb ?_;refine zA 12 _ (Qj 14 8191) 1 (by kernel_rfl) (fun K hK=>?_)
  have HKK:=Qq hK;clear hK;simp only[QQ,QJ];refine zc (by rfl) ?_;go_simp;refine(HT.out _).mono ?_
  rintro r w2 ⟨rfl,rfl⟩;refine HKK.out _ _ ((by first|exact⟨1,rfl⟩|exact⟨_,rfl⟩)) ?_
  clear HKK K;refine zf 13 1 _ (Qj 14 16383) 0 (by kernel_rfl) za ((by first|exact⟨1,rfl⟩|exact⟨_,rfl⟩)) (by kernel_rfl) ?_
  simp only[QX,QV,QQ,QJ];(repeat((first|refine Qx (h:=?_)|refine Qw (h:=?_));simp only[Act.put,QW,QY,QZ]));refine zb ?_;refine zo ?_;refine zD (by kernel_rfl) (NoPanic.normal ?_)
  go_upto_region 3 with fail
  refine zk (fun wx=>∃nq,wx=World.drewN (w1) nq) 26 1 (Array.replicate 27 false) (Qj 27 67108863) (by kernel_rfl) (by kernel_rfl) ?_
  refine zf 0 26 _ (Qj 27 67108863) 0 (by kernel_rfl) za ((by first|exact⟨3,rfl⟩|exact⟨_,rfl⟩)) (by kernel_rfl) ?_
  simp only[QX,QV,QJ];(repeat((first|refine Qx (h:=?_)|refine Qw (h:=?_));simp only[Act.put,QW,QY,QZ]));refine zb ?_;refine zo ?_;refine zS 26 (by kernel_rfl) ?_
  simp only[QQ,QJ];go_wp2_with fail;refine(HFn.out 3).mono ?_
  rintro r w3 ⟨rfl,h3,hf3⟩;go_wp2_with fail;refine NoPanic.normal ?_
  generalize hWf:W.fin x ((k:Int),b2,v) some_=W3 at *
  have hg3:W3.gs.length=W.gs.length:=by rw[HGE.out];exact HG2.out
  have hC3:W3.Cs=W.Cs:=by rw[HGE.out]
  obtain⟨R',o1,o2⟩:=JS h3 hf3;have hpl:W3.Cs.length=(List.zip D.ps W3.Ns).length:=by rw[List.length_zip,hf3.c,hf3.n];omega
  have hlv:=Qq (fun j=>N8 (o1.step (zx w3 j)) hpl (by rw[hpl]) (k:Int) (by rw[hC3];exact HLim.out) (by rw[hC3];exact HCl.out))
  have HO2:Hid (∀w',Own w0 w' (YD (List.zip D.ps W3.Ns) (W3.Cs.map (R9 (k:Int)))++zd 1 D.ha D.hc W3.Cs.length (xT (List.zip D.ps W3.Ns))::R')→yL w0 w' p T d (W3.leave (k:Int)) rd R∧w'.cell? ⟨bb,0,none⟩=some (.int .i64 (k:Int))):=Qq (fun w' h'=>by
   obtain⟨k1,k2⟩:=o2 w' (W3.Cs.map (R9 (k:Int))) (by simp) h'
   exact⟨⟨D,ra,rc,k2,k1.yC.drop⟩,(k1.zi 10 rfl 0 _ rfl).1⟩)
  have p3:=(h3.zi 0 rfl 3 _ rfl).1
  have q0:=(h3.zi 11 rfl 0 _ rfl).1
  have z0:=(h3.zi 10 rfl 0 _ rfl).1
  have HWk:Hid (∀w',yL w0 w' p T d (W3.leave (k:Int)) rd R→Calls Tryz.prog 157 #[.pointer (some ⟨d.q,0,none⟩),.int .i64 (k:Int)] w' fun r w''=>r=.returned (.tuple #[])∧yL w0 w'' p T d ((W3.leave (k:Int)).zU k 1) (rd++[(k:Int)]) R) :=
   Qq (fun w' h'=>WO h' k (by show k<W3.gs.length;rw[hg3];exact HK8.out) (by show W3.gs.length≤1000;rw[hg3];exact HG.out) hr)
  have HWf:=Qq hWf;clear o1 o2 h3 hf3 HFn hg3 hC3 hpl hWf HGE;generalize W3.Cs.length=NC at *;go_upto_region 4 with fail
  refine zk (fun wx=>∃nq,wx=World.drewN (w3) nq) 9 1 (Array.replicate 10 false) (Qj 10 511) (by kernel_rfl) (by kernel_rfl) ?_
  refine zf 0 9 _ (Qj 10 511) 0 (by kernel_rfl) za ((by first|exact⟨1,rfl⟩|exact⟨_,rfl⟩)) (by kernel_rfl) ?_
  simp only[QX,QV,QJ];(repeat((first|refine Qx (h:=?_)|refine Qw (h:=?_));simp only[Act.put,QW,QY,QZ]));refine zb ?_;refine zo ?_;refine zS 9 (by kernel_rfl) ?_
  simp only[QQ,QJ];go_wp2_with fail;refine(hlv.out 1).mono ?_
  rintro r w4 ⟨rfl,h4⟩;have H4:=Qq (HO2.out _ h4).1
  have hb4:=(HO2.out _ h4).2
  clear h4 HO2 hlv;go_wp2_with fail;refine NoPanic.normal ?_
  go_wp2_with fail;refine(HWk.out _ H4.out).mono ?_
  rintro r w5 ⟨rfl,h5⟩;have H5:=Qq h5;clear h5 H4 HWk;go_wp2;go_end0
  rw[HE.out];exact⟨rfl,H5.out⟩
 ·have e:goOnM W rd ((k:Int),b2,v) some_=(W,rd):=by unfold goOnM;simp only[Int.toNat_natCast];rw[if_neg hw]
  have HE:=Qq e;have HW:=Qq (show yL w0 (w.alloc (.cells #[.int .i64 (k:Int),.int .i64 b2,.int .i64 v] 270)) p T d W rd R from⟨D,ra,rc,hf,hA.yC.drop⟩)
  have ht:((W.g k).st==2)=false:=by simpa using hw
  have ht2:((W.g k).st !=2)=true:=by simpa using hw
  have ht3:(!((W.g k).st==2))=true:=by simpa using hw
  generalize (W.g k).st=st at *
  clear hw e es hA h hins hlim hcl hf hg;go_enter Tryz.func161,Tryz.ntmps161
  go_upto_region 1 with fail
  generalize w.alloc (.cells #[.int .i64 (k:Int),.int .i64 b2,.int .i64 v] 270)=w1 at *
  generalize w.heap.size=bb at *;refine zk (fun wx=>∃nq,wx=World.drewN (w1) nq) 8 0 (Array.replicate 8 false) (Qj 8 255) (by kernel_rfl) (by kernel_rfl) ?_
  refine zf 0 6 _ (Qj 8 63) 2 (by kernel_rfl) za (zE w1) (by kernel_rfl) ?_
  simp only[QX,QV,QJ];(repeat((first|refine Qx (h:=?_)|refine Qw (h:=?_));simp only[Act.put,QW,QY,QZ]));refine zb ?_;refine zA 6 _ (Qj 8 127) 1 (by kernel_rfl) (fun K hK=>?_)
  have HKK:=Qq hK;clear hK;simp only[QQ,QJ];refine zc (by rfl) ?_;go_simp;refine hst.out.mono ?_
  rintro r w2 ⟨rfl,rfl⟩;refine HKK.out _ _ (zE w1) ?_
  clear HKK K;refine zf 7 1 _ (Qj 8 255) 0 (by kernel_rfl) za (zE w1) (by kernel_rfl) ?_
  simp only[QX,QV,QQ,QJ];(repeat((first|refine Qx (h:=?_)|refine Qw (h:=?_));simp only[Act.put,QW,QY,QZ]));refine zb ?_;refine zo ?_;refine zD (by kernel_rfl) (NoPanic.normal ?_)
  go_wp2;exact bodyPost_ret (v:=.tuple #[]) (by simp[results,Tryz.results161]) rfl ⟨rfl,by rw[HE.out];exact HW.out.step (zg _)⟩
def V0 (w0:World)(p:Nat)(T:List Value)(d:Dq)(R:List zv)(W:Wd)(rd:List Int)(o:Option Dd)(r:Ending)(w':World):Prop :=
 match o with
 | none=>r=.returned (.bool false)∧yL w0 w' p T d W rd R
 | some m=>(r=match m.tr with
  | none=>.returned (.bool true)
  | some k=>WA k)∧yL w0 w' p T d m.W m.rd R
theorem VG {w0 w:World}{p q:Nat}{W:Wd}{D:Wa}{T:List Value}{Y:List zv}(h:Own w0 w (zj p W D T++Y)){g s cap:Nat}{cs:List Value}(hq:zH w q (.pointer (some ⟨p,0,none⟩)::.int .i64 (g:Int)::cs))(hg:g<W.gs.length)(hs:D.sk[g]?=some (s,cap))(hm:1≤(W.g g).n∧(W.g g).n≤16) :
  Calls Tryz.prog 118 #[.pointer (some ⟨q,0,none⟩)] w fun r w'=>r=.returned (.pointer (some ⟨s,((W.g g).n-1)*11,none⟩))∧∃k,w'=w.drewN k:=by
 obtain⟨b,off,h1,-,-,-,-⟩:=Yt h hg hs;exact Xj (Ss h hq hg hs h1 hm)
theorem X4 (W:Wd)(i:Nat)(hi:i<W.Cs.length):W.zW (i:Int) (W.ch (i:Int))=W:=by
 unfold Wd.zW;rw[Int.toNat_natCast,yt _ _ _ (Wd.U9 hi)]
theorem OL (N:Nat)(C:Ch)(v:Int):(mSend N C v).2.2.2=10∧(mSend N C v).1=C∨(mSend N C v).2.2.2=0∨(mSend N C v).2.2.2=6∧(mSend N C v).1=C:=by
 unfold mSend;split
 ·left;exact⟨rfl,rfl⟩
 ·split
  ·right;left;rfl
  ·split
   ·right;left;rfl
   ·right;right;exact⟨rfl,rfl⟩
structure Pn (W:Wd) (rd:List Int) (g:Nat) (x:yq) (c:Zm) (place:Int):Prop where
 c0:0≤c.2.1∧c.2.1<(W.Cs.length:Int)
 cl:W.Cs.length≤1000
 r:0≤c.2.2∧c.2.2<8
 lim:RI 100000 W.Cs
 go:(mSend (W.Ns.getD c.2.1.toNat 0) (W.ch c.2.1) ((W.g g).rg c.2.2)).2.2.1=true→Li (W.zW c.2.1 (mSend (W.Ns.getD c.2.1.toNat 0) (W.ch c.2.1) ((W.g g).rg c.2.2)).1) (mSend (W.Ns.getD c.2.1.toNat 0) (W.ch c.2.1) ((W.g g).rg c.2.2)).2.1
 fin:(mSend (W.Ns.getD c.2.1.toNat 0) (W.ch c.2.1) ((W.g g).rg c.2.2)).2.2.2=0→WC (if(mSend (W.Ns.getD c.2.1.toNat 0) (W.ch c.2.1) ((W.g g).rg c.2.2)).2.2.1 then goOnM (W.zW c.2.1 (mSend (W.Ns.getD c.2.1.toNat 0) (W.ch c.2.1) ((W.g g).rg c.2.2)).1) rd (mSend (W.Ns.getD c.2.1.toNat 0) (W.ch c.2.1) ((W.g g).rg c.2.2)).2.1 true else(W.zW c.2.1 (mSend (W.Ns.getD c.2.1.toNat 0) (W.ch c.2.1) ((W.g g).rg c.2.2)).1,rd)).1 x ((g:Int),place,0)
theorem NQ {w0 w:World}{p:Nat}{T:List Value}{d:Dq}{W:Wd}{rd:List Int}{R:List zv}(h:yL w0 w p T d W rd R)(hg:d.g<W.gs.length)(hm:1≤(W.g d.g).n∧(W.g d.g).n≤16)(c:Zm)(place:Int)(ok:Pn W rd d.g d.x c place)(hr:rd.length≤1000) :
  Calls Tryz.prog 169 #[.pointer (some ⟨d.q,0,none⟩),.agg #[.int .i64 c.1,.int .i64 c.2.1,.int .i64 c.2.2],.int .i64 place] w fun r w'=>V0 w0 p T d R W rd (Yy W rd d.g d.x c place) r w':=by
 obtain⟨D,ra,rc,hf,h⟩:=h;obtain⟨hc0,hcl,hreg,hlim,hgo,hfin⟩:=ok;obtain⟨k1,k2,k3⟩:=c;simp only at *
 obtain⟨i,rfl,hi8⟩:=yN (n:=W.Cs.length) hc0
 obtain⟨a,rfl,ha8⟩:=yN (n:=8) hreg
 obtain⟨v,hv⟩:∃v,v=(W.g d.g).rg (a:Int):=⟨_,rfl⟩
 obtain⟨m,hmm⟩:∃m,m=(W.g d.g).n-1:=⟨_,rfl⟩
 have hA:=(h.alloc [.int .i64 k1,.int .i64 (i:Int),.int .i64 (a:Int)] 129 (b:=w.heap.size) rfl).X5 (L:=zj p W D T)
 obtain⟨s,cap,hs⟩:=hf.Yh hg;obtain⟨pt,hb,ho,-,hpt,hha,-,-,-⟩:=YG hA hf hi8;rw[Int.toNat_natCast] at *;obtain⟨N,hN⟩:∃N,N=W.Ns.getD i 0:=⟨_,rfl⟩
 obtain⟨C,hC⟩:∃C,C=W.ch (i:Int):=⟨_,rfl⟩
 rw[←hN,←hC,←hv] at hgo hfin;have e:Yy W rd d.g d.x (k1,(i:Int),(a:Int)) place=(if(mSend N C v).2.2.2=10 then some ⟨W,rd,some (-1)⟩ else if(mSend N C v).2.2.2=0 then(let y:=if(mSend N C v).2.2.1 then goOnM (W.zW (i:Int) (mSend N C v).1) rd (mSend N C v).2.1 true else(W.zW (i:Int) (mSend N C v).1,rd);some ⟨y.1.fin d.x ((d.g:Int),place,0) false,y.2,none⟩) else none):=by
  unfold Yy;simp only[Int.toNat_natCast];rw[←hN,←hC,←hv]
 rw[e];have SB:∀(W':Wd) (wx:World) (Z:List zv),W'.gs=W.gs→W'.Cs.length=W.Cs.length→D.fits W'→Own w0 wx (zj p W' D T++(ze w.heap.size [.int .i64 k1,.int .i64 (i:Int),.int .i64 (a:Int)]::ze d.q (yp p (d.g:Int) d.x d.th d.dr d.go ra rd.length rc)::Z)) →
   wx.cell? ⟨d.q,0,none⟩=some (.pointer (some ⟨p,0,none⟩))∧wx.cell? ⟨p,3,none⟩=some (.slice (some ⟨hb,ho,none⟩) W.Cs.length D.hc)∧wx.cell? ⟨hb,ho+i,none⟩=some (.pointer (some ⟨pt,0,none⟩))∧wx.cell? ⟨w.heap.size,1,none⟩=some (.int .i64 (i:Int))∧wx.cell? ⟨w.heap.size,2,none⟩=some (.int .i64 (a:Int))∧wx.cell? ⟨s,m*11+2+a,none⟩=some (.int .i64 v):=by
  intro W' wx Z hgs hcs hf' hx;have hp3:=(hx.zi 0 rfl 3 _ rfl).1
  rw[hha,hcs] at hp3;obtain⟨pt',hb',ho',R',h0,h1,h2,-,-⟩:=YG hx hf' (i:=i) (by rw[hcs];exact hi8)
  rw[hha] at h1;rw[hpt] at h0;simp only[Option.some.injEq,Addr.mk.injEq,and_true] at h0 h1;obtain⟨rfl,rfl⟩:=h1;subst h0;have hgg:W'.g d.g=W.g d.g:=by unfold Wd.g;rw[hgs]
  have hrg:=(ZO (YY hx (by rw[hgs];exact hg) hs).1 (by rw[hgg];exact hm.1) a ha8).1
  rw[hgg,←hmm,←hv] at hrg;exact⟨(hx.zi 11 rfl 0 _ rfl).1,hp3,h2,(hx.zi 10 rfl 1 _ rfl).1,(hx.zi 10 rfl 2 _ rfl).1,hrg⟩
 have HTop:Hid (∀(wx:World) (Z:List zv),Own w0 wx (zj p W D T++(ze w.heap.size [.int .i64 k1,.int .i64 (i:Int),.int .i64 (a:Int)]::ze d.q (yp p (d.g:Int) d.x d.th d.dr d.go ra rd.length rc)::Z)) →
   Calls Tryz.prog 118 #[.pointer (some ⟨d.q,0,none⟩)] wx fun r w'=>r=.returned (.pointer (some ⟨s,m*11,none⟩))∧∃k,w'=wx.drewN k):=Qq (fun wx Z hx=>by
  rw[hmm];exact VG hx (hx.zi 11 rfl) hg hs hm)
 have HTop2:Hid (∀(wx:World) (A:zv) (Z:List zv),Own w0 wx (zj p W D T++(A::ze w.heap.size [.int .i64 k1,.int .i64 (i:Int),.int .i64 (a:Int)]::ze d.q (yp p (d.g:Int) d.x d.th d.dr d.go ra rd.length rc)::Z)) →
   Calls Tryz.prog 118 #[.pointer (some ⟨d.q,0,none⟩)] wx fun r w'=>r=.returned (.pointer (some ⟨s,m*11,none⟩))∧∃k,w'=wx.drewN k):=Qq (fun wx A Z hx=>by
  rw[hmm];exact VG hx (hx.zi 12 rfl) hg hs hm)
 have HSnd:Hid (∀(wx:World) (Z:List zv),Own w0 wx (zj p W D T++Z)→Calls Tryz.prog 179 #[.pointer (some ⟨pt,0,none⟩),.int .i64 v] wx fun r w'=>r=.returned (.tuple #[wv (mSend N C v).2.1,.bool (mSend N C v).2.2.1,.int .i64 (mSend N C v).2.2.2])∧Own w0 w' (zj p (W.zW (i:Int) (mSend N C v).1) D T++Z)∧D.fits (W.zW (i:Int) (mSend N C v).1)):=Qq (fun wx Z hx=>by
  obtain⟨pt',hb',ho',R',h0,-,-,h3,h4⟩:=YG hx hf hi8;rw[hpt] at h0;simp only[Option.some.injEq] at h0;subst h0;rw[←hN,←hC] at h3;rw[←hN] at h4;have hL:=hlim _ (List.mem_of_getElem? (Wd.U9 hi8))
  rw[←hC] at hL;exact(OF h3 v hL.1 hL.2.2).mono (fun r w' hh=>⟨hh.1,h4 _ _ hh.2⟩))
 have hW1:∀C',(W.zW (i:Int) C').gs=W.gs∧(W.zW (i:Int) C').Cs.length=W.Cs.length:=fun C'=>⟨rfl,by unfold Wd.zW;simp⟩
 have hsame:=X4 W i hi8;rw[←hC] at hsame;have herr:=OL N C v;generalize mSend N C v=M at *;obtain⟨C1,⟨r1,r2,r3⟩,wk,er⟩:=M;unfold wv at HSnd;simp only at *
 obtain⟨W1,hWe⟩:∃W1,W1=W.zW (i:Int) C1:=⟨_,rfl⟩
 rw[←hWe] at hgo hfin HSnd ⊢;have HS0:=Qq (SB W · · rfl rfl hf)
 have hf1:D.fits W1:=by rw[hWe];exact⟨hf.f,hf.g,by simp[hf.c,Wd.zW],by simp[hf.n,Wd.zW],hf.l,hf.k⟩
 have HS1:=Qq (SB W1 · · (by rw[hWe];exact(hW1 C1).1) (by rw[hWe];exact(hW1 C1).2) hf1)
 have HA:=Qq hA;have HF:=Qq hf;have HF1:=Qq hf1;have HWe:=Qq hWe;have HSame:=Qq hsame;have HErr:=Qq herr;have HGo:=Qq hgo;have HFi:=Qq hfin;have i0:(0:Int)≤(i:Int):=by omega
 have i8:(i:Int)<(W.Cs.length:Int):=by omega
 have a0:(0:Int)≤(a:Int):=by omega
 have a8:(a:Int)<8:=by omega
 obtain⟨NC,hNC⟩:∃NC,NC=W.Cs.length:=⟨_,rfl⟩
 rw[←hNC] at HS0 HS1 i8;generalize hoe:(if er=10 then some (Dd.mk W rd (some (-1))) else if er=0 then(let y:=if wk then goOnM W1 rd (r1,r2,r3) true else(W1,rd);some (Dd.mk (y.1.fin d.x ((d.g:Int),place,0) false) y.2 none)) else none)=o
 have HOE:=Qq hoe;have HRD:=Qq hr;clear hA h hf hf1 hWe hsame herr hgo hfin SB hW1 hoe hN hC hv hmm hha hpt hs hi8 hlim hcl hc0 hg hm hNC e hreg;go_enter Tryz.func169,Tryz.ntmps169
 go_upto_region 1 with fail
 generalize w.alloc (.cells #[.int .i64 k1,.int .i64 (i:Int),.int .i64 (a:Int)] 129)=w1 at *
 generalize w.heap.size=bc at *;go_cut [7,8,9] (fun s7 s8 s9 wx=>∃b7,s7=.pointer (some ⟨b7,0,none⟩)∧s8=.bool wk∧s9=.int .i64 er∧Own w0 wx (zj p W1 D T++(ze b7 [.int .i64 r1,.int .i64 r2,.int .i64 r3]::ze bc [.int .i64 k1,.int .i64 (i:Int),.int .i64 (a:Int)]::ze d.q (yp p (d.g:Int) d.x d.th d.dr d.go ra rd.length rc)::zd 1 ra rc rd.length (zt rd)::R)))
 case first =>
  have o1:=HA.out.step (zg _)
  refine zV (fun wx=>wx.cell? ⟨d.q,0,none⟩=some (.pointer (some ⟨p,0,none⟩))∧wx.cell? ⟨p,3,none⟩=some (.slice (some ⟨hb,ho,none⟩) NC D.hc)∧wx.cell? ⟨hb,ho+i,none⟩=some (.pointer (some ⟨pt,0,none⟩))∧wx.cell? ⟨bc,1,none⟩=some (.int .i64 (i:Int))∧wx.cell? ⟨bc,2,none⟩=some (.int .i64 (a:Int))∧wx.cell? ⟨s,m*11+2+a,none⟩=some (.int .i64 v)) 28 (Array.replicate 28 false) (by kernel_rfl) (by kernel_rfl) ?_
  refine zm 0 12 _ (Qj 28 4095) 16 (by kernel_rfl) za (HS0.out _ _ o1) (by kernel_rfl) ?_
  simp only[QX,QV,QJ];(repeat((first|refine Qx (h:=?_)|refine Qv (h:=?_));simp only[Act.put,QW,QY,QZ]));refine zb ?_;refine zm 13 2 _ (Qj 28 28671) 14 (by kernel_rfl) za (HS0.out _ _ o1) (by kernel_rfl) ?_
  simp only[QX,QV,QQ,QJ];(repeat((first|refine Qx (h:=?_)|refine Qv (h:=?_));simp only[Act.put,QW,QY,QZ]));refine zb ?_;refine yz 12 24 _ (Qj 28 32767) (Qj 28 16805887) 13 (by kernel_rfl) (fun K hK=>?_) (fun K hK=>?_)
  ·skip
   have HKK:=Qq hK;clear hK;simp only[QQ,QJ];refine zc (by rfl) ?_;go_simp;refine(HTop.out _ _ o1).mono ?_
   rintro r w2 ⟨rfl,k2,hw2⟩;have o2:=o1.q1 hw2;clear hw2;refine HKK.out _ _ (HS0.out _ _ o2) ?_
   clear HKK K;refine zm 15 4 _ (Qj 28 524287) 9 (by kernel_rfl) za (HS0.out _ _ o2) (by kernel_rfl) ?_
   simp only[QX,QV,QQ,QJ];(repeat((first|refine Qx (h:=?_)|refine Qv (h:=?_));simp only[Act.put,QW,QY,QZ]));refine zb ?_;refine yz 19 24 _ (Qj 28 1048575) (Qj 28 17301503) 8 (by kernel_rfl) (fun K hK=>?_) (fun K hK=>?_)
   ·skip
    have HKK:=Qq hK;clear hK;simp only[QQ,QJ];refine zc (by rfl) ?_;go_simp;refine(HSnd.out _ _ o2).mono ?_
    rintro r w3 ⟨rfl,o3,-⟩
    refine HKK.out _ _ (HS1.out _ _ o3) ?_
    clear HKK K;refine zm 20 4 _ (Qj 28 16777215) 4 (by kernel_rfl) za (HS1.out _ _ o3) (by kernel_rfl) ?_
    simp only[QX,QV,QQ,QJ];(repeat((first|refine Qx (h:=?_)|refine Qv (h:=?_));simp only[Act.put,QW,QY,QZ]));refine zb ?_;have o4:=o3.alloc [.int .i64 0,.int .i64 0,.int .i64 0] 270 (b:=w3.heap.size) rfl
    refine zh 24 _ (Qj 28 33554431) 3 (by kernel_rfl) (fun K hK=>?_)
    have HKK:=Qq hK;clear hK;simp only[QQ,QJ];refine zc (by rfl) ?_;go_simp;refine HKK.out _ _ (HS1.out _ _ o4.drop) ?_
    clear HKK K;have o5:=o3.alloc [.int .i64 r1,.int .i64 r2,.int .i64 r3] 270 (b:=w3.heap.size) rfl
    refine zh 25 _ (Qj 28 67108863) 2 (by kernel_rfl) (fun K hK=>?_)
    have HKK:=Qq hK;clear hK;simp only[QQ,QJ];refine zc (by rfl) ?_;go_simp;refine HKK.out _ _ (HS1.out _ _ o5.drop) ?_
    clear HKK K;refine zm 26 2 _ (Qj 28 268435455) 0 (by kernel_rfl) za (HS1.out _ _ o5.drop) (by kernel_rfl) ?_
    simp only[QX,QV,QQ,QJ];(repeat((first|refine Qx (h:=?_)|refine Qv (h:=?_));simp only[Act.put,QW,QY,QZ]));refine zb ?_;refine wpAnyH_done (by kernel_rfl) (NoPanic.normal ?_) _
    go_wp2_with fail;go_meet;exact⟨_,rfl,rfl,rfl,o5.X5⟩
   ·skip
    have o3:=(o2.alloc [.int .i64 0,.int .i64 0,.int .i64 0] 270 (b:=w2.heap.size) rfl).X5
    have hlt:=World.block_lt_of_cell? _ _ (o3.zi 10 rfl 0 _ rfl).1
    have HKK:=Qq hK;clear hK;simp only[QQ,QJ];refine zc (by rfl) ?_;go_simp;refine HKK.out _ _ (HS0.out _ _ o3.yC.drop) ?_
    clear HKK K;refine zh 19 _ (Qj 28 17825791) 7 (by kernel_rfl) (fun K hK=>?_)
    have HKK:=Qq hK;clear hK;simp only[QQ,QJ];refine zc (by rfl) ?_;go_simp;refine(HSnd.out _ _ o3).mono ?_
    rintro r w3 ⟨rfl,o4,-⟩
    refine HKK.out _ _ (HS1.out _ _ o4.yC.drop) ?_
    clear HKK K;refine zm 20 4 _ (Qj 28 33554431) 3 (by kernel_rfl) za (HS1.out _ _ o4.yC.drop) (by kernel_rfl) ?_
    simp only[QX,QV,QQ,QJ];(repeat((first|refine Qx (h:=?_)|refine Qv (h:=?_));simp only[Act.put,QW,QY,QZ]));refine zb ?_;obtain⟨z0,f0⟩:=o4.zi 10 rfl 0 _ rfl;obtain⟨z1,f1⟩:=o4.zi 10 rfl 1 _ rfl;obtain⟨z2,f2⟩:=o4.zi 10 rfl 2 _ rfl;have o5:=((o4.yC.set 0 (.int .i64 r1)).set 1 (.int .i64 r2)).set 2 (.int .i64 r3)
    refine zh 25 _ (Qj 28 67108863) 2 (by kernel_rfl) (fun K hK=>?_)
    have HKK:=Qq hK;clear hK;simp only[QQ,QJ];refine zc (by rfl) ?_;go_simp;refine HKK.out _ _ (HS1.out _ _ o5.drop) ?_
    clear HKK K;refine zm 26 2 _ (Qj 28 268435455) 0 (by kernel_rfl) za (HS1.out _ _ o5.drop) (by kernel_rfl) ?_
    simp only[QX,QV,QQ,QJ];(repeat((first|refine Qx (h:=?_)|refine Qv (h:=?_));simp only[Act.put,QW,QY,QZ]));refine zb ?_;refine wpAnyH_done (by kernel_rfl) (NoPanic.normal ?_) _
    go_wp2_with fail;go_meet;exact⟨_,rfl,rfl,rfl,o5.X5⟩
  ·skip
   have o2:=(o1.alloc [.int .i64 0,.int .i64 0,.int .i64 0] 270 (b:=w1.heap.size) rfl).X5
   have hlt:=World.block_lt_of_cell? _ _ (o2.zi 10 rfl 0 _ rfl).1
   have HKK:=Qq hK;clear hK;simp only[QQ,QJ];refine zc (by rfl) ?_;go_simp;refine HKK.out _ _ (HS0.out _ _ o2.yC.drop) ?_
   clear HKK K;refine zh 12 _ (Qj 28 16809983) 12 (by kernel_rfl) (fun K hK=>?_)
   have HKK:=Qq hK;clear hK;simp only[QQ,QJ];refine zc (by rfl) ?_;go_simp;refine(HTop2.out _ _ _ o2).mono ?_
   rintro r w2 ⟨rfl,k2,hw2⟩;have o3:=o2.q1 hw2;clear hw2;refine HKK.out _ _ (HS0.out _ _ o3.yC.drop) ?_
   clear HKK K;refine zm 15 4 _ (Qj 28 17301503) 8 (by kernel_rfl) za (HS0.out _ _ o3.yC.drop) (by kernel_rfl) ?_
   simp only[QX,QV,QQ,QJ];(repeat((first|refine Qx (h:=?_)|refine Qv (h:=?_));simp only[Act.put,QW,QY,QZ]));refine zb ?_;refine zh 19 _ (Qj 28 17825791) 7 (by kernel_rfl) (fun K hK=>?_)
   have HKK:=Qq hK;clear hK;simp only[QQ,QJ];refine zc (by rfl) ?_;go_simp;refine(HSnd.out _ _ o3).mono ?_
   rintro r w3 ⟨rfl,o4,-⟩
   refine HKK.out _ _ (HS1.out _ _ o4.yC.drop) ?_
   clear HKK K;refine zm 20 4 _ (Qj 28 33554431) 3 (by kernel_rfl) za (HS1.out _ _ o4.yC.drop) (by kernel_rfl) ?_
   simp only[QX,QV,QQ,QJ];(repeat((first|refine Qx (h:=?_)|refine Qv (h:=?_));simp only[Act.put,QW,QY,QZ]));refine zb ?_;obtain⟨z0,f0⟩:=o4.zi 10 rfl 0 _ rfl;obtain⟨z1,f1⟩:=o4.zi 10 rfl 1 _ rfl;obtain⟨z2,f2⟩:=o4.zi 10 rfl 2 _ rfl;have o5:=((o4.yC.set 0 (.int .i64 r1)).set 1 (.int .i64 r2)).set 2 (.int .i64 r3)
   refine zh 25 _ (Qj 28 67108863) 2 (by kernel_rfl) (fun K hK=>?_)
   have HKK:=Qq hK;clear hK;simp only[QQ,QJ];refine zc (by rfl) ?_;go_simp;refine HKK.out _ _ (HS1.out _ _ o5.drop) ?_
   clear HKK K;refine zm 26 2 _ (Qj 28 268435455) 0 (by kernel_rfl) za (HS1.out _ _ o5.drop) (by kernel_rfl) ?_
   simp only[QX,QV,QQ,QJ];(repeat((first|refine Qx (h:=?_)|refine Qv (h:=?_));simp only[Act.put,QW,QY,QZ]));refine zb ?_;refine wpAnyH_done (by kernel_rfl) (NoPanic.normal ?_) _
   go_wp2_with fail;go_meet;exact⟨_,rfl,rfl,rfl,o5.X5⟩
 case rest =>
  obtain⟨b7,rfl,rfl,rfl,ho⟩:=hcut;have z0:=(ho.zi 10 rfl 0 _ rfl).1
  have z1:=(ho.zi 10 rfl 1 _ rfl).1
  have z2:=(ho.zi 10 rfl 2 _ rfl).1
  have HD:Hid (yL w0 wc p T d W1 rd R):=Qq ⟨D,ra,rc,HF1.out,ho.yC.drop.yC.drop⟩
  clear ho HA HTop HTop2 HSnd HS0 HS1;rcases HErr.out with⟨h1,h2⟩|h1|⟨h1,h2⟩
  ·subst h1
   have hW:W1=W:=by rw[HWe.out,h2];exact HSame.out
   have ho:o=some ⟨W,rd,some (-1)⟩:=by rw[←HOE.out,if_pos rfl]
   have HO:=Qq ho;have HD2:Hid (yL w0 wc p T d W rd R):=Qq (by rw[←hW];exact HD.out)
   clear HOE HGo HFi hW ho HD h2;go_wp2;exact⟨rfl,by rw[HO.out];exact⟨rfl,HD2.out⟩⟩
  ·subst h1
   obtain⟨y,hy⟩:∃y,y=(if wk then goOnM W1 rd (r1,r2,r3) true else(W1,rd)):=⟨_,rfl⟩
   have ho:o=some ⟨y.1.fin d.x ((d.g:Int),place,0) false,y.2,none⟩:=by rw[←HOE.out,if_neg (by decide),if_pos rfl,←hy]
   have hfi:=HFi.out rfl;rw[←hy] at hfi;have HO:=Qq ho;have HY:=Qq hy;have HFi2:=Qq hfi;clear HOE HFi ho hy hfi;go_upto_if 39 with fail
   go_cut [] (fun wx=>yL w0 wx p T d y.1 y.2 R)
   case first =>
    cases wk with
    | true =>
     go_wp2_with fail;refine(TM HD.out (r1,r2,r3) true (HGo.out (by first|rfl|trivial)) (by have:=HRD.out;omega)).mono ?_
     rintro r w2 ⟨rfl,h2⟩;have H2:=Qq h2;clear h2;go_wp2_with fail;go_meet;rw[HY.out];exact H2.out
    | false =>
     go_wp2_with fail;go_meet;rw[HY.out];exact HD.out
   case rest =>
    have HC:=Qq hcut;obtain⟨D2,ra2,rc2,hf2,h2⟩:=hcut;have q0:=(h2.zi 10 rfl 0 _ rfl).1
    have q1:=(h2.zi 10 rfl 1 _ rfl).1
    have q2:=(h2.zi 10 rfl 2 _ rfl).1
    have q3:=(h2.zi 10 rfl 3 _ rfl).1
    have q4:=(h2.zi 10 rfl 4 _ rfl).1
    have q5:=(h2.zi 10 rfl 5 _ rfl).1
    have HN:=Qq (fun j=>TS false (h2.step (zx wc j)) hf2 HFi2.out)
    unfold wv at HN;simp only at HN
    clear h2 hf2 HC HGo HErr HD z0 z1 z2;go_upto_region 8 with fail
    refine zk (fun wx=>∃nq,wx=World.drewN (wc) nq) 14 1 (Array.replicate 15 false) (Qj 15 16383) (by kernel_rfl) (by kernel_rfl) ?_
    refine zf 0 14 _ (Qj 15 16383) 0 (by kernel_rfl) za (zE wc) (by kernel_rfl) ?_
    simp only[QX,QV,QJ];(repeat((first|refine Qx (h:=?_)|refine Qw (h:=?_));simp only[Act.put,QW,QY,QZ]));refine zb ?_;refine zo ?_;refine zS 14 (by kernel_rfl) ?_
    simp only[QQ,QJ];go_wp2_with fail;refine(HN.out 1).mono ?_
    rintro r w3 ⟨rfl,h3,hf3⟩;have H3:Hid (yL w0 w3 p T d (y.1.fin d.x ((d.g:Int),place,0) false) y.2 R):=Qq ⟨D2,ra2,rc2,hf3,h3⟩
    clear h3 hf3 HN;go_wp2_with fail;refine NoPanic.normal ?_
    go_wp2;go_ret;rw[HO.out];exact⟨rfl,H3.out⟩
  ·subst h1
   have hW:W1=W:=by rw[HWe.out,h2];exact HSame.out
   have ho:o=none:=by rw[←HOE.out,if_neg (by decide),if_neg (by decide)]
   have HO:=Qq ho;have HD2:Hid (yL w0 wc p T d W rd R):=Qq (by rw[←hW];exact HD.out)
   clear HOE HGo HFi hW ho HD h2;go_wp2;go_ret;rw[HO.out];exact⟨rfl,HD2.out⟩
theorem OV (C:Ch):(mRecv C).2.2=0∨(mRecv C).2.2=5∧(mRecv C).1=C:=by
 unfold mRecv;cases C.S with
 | cons x t=>left;simp only;split<;>rfl
 | nil =>
  cases hb:C.buf with
  | cons y b=>left;rfl
  | nil =>
   cases hc:C.cl with
   | true=>left;simp
   | false=>right;simp
structure PC (W:Wd) (rd:List Int) (g:Nat) (x:yq) (c:Zm) (place:Int):Prop where
 c0:0≤c.2.1∧c.2.1<(W.Cs.length:Int)
 cl:W.Cs.length≤1000
 lim:RI 100000 W.Cs
 go:(mRecv (W.ch c.2.1)).2.1.2.2.2=true→Li (W.zW c.2.1 (mRecv (W.ch c.2.1)).1) (mRecv (W.ch c.2.1)).2.1.2.2.1
 fin:(mRecv (W.ch c.2.1)).2.2=0→WC (if(mRecv (W.ch c.2.1)).2.1.2.2.2 then goOnM (W.zW c.2.1 (mRecv (W.ch c.2.1)).1) rd (mRecv (W.ch c.2.1)).2.1.2.2.1 false else(W.zW c.2.1 (mRecv (W.ch c.2.1)).1,rd)).1 x ((g:Int),place,(mRecv (W.ch c.2.1)).2.1.1)
theorem Nh {w0 w:World}{p:Nat}{T:List Value}{d:Dq}{W:Wd}{rd:List Int}{R:List zv}(h:yL w0 w p T d W rd R)(c:Zm)(place:Int)(ok:PC W rd d.g d.x c place)(hr:rd.length≤1000) :
  Calls Tryz.prog 170 #[.pointer (some ⟨d.q,0,none⟩),.agg #[.int .i64 c.1,.int .i64 c.2.1,.int .i64 c.2.2],.int .i64 place] w fun r w'=>V0 w0 p T d R W rd (YA W rd d.g d.x c place) r w':=by
 obtain⟨D,ra,rc,hf,h⟩:=h;obtain⟨hc0,hcl,hlim,hgo,hfin⟩:=ok;obtain⟨k1,k2,k3⟩:=c;simp only at *
 obtain⟨i,rfl,hi8⟩:=yN (n:=W.Cs.length) hc0
 have hA:=(h.alloc [.int .i64 k1,.int .i64 (i:Int),.int .i64 k3] 129 (b:=w.heap.size) rfl).X5 (L:=zj p W D T)
 obtain⟨pt,hb,ho,-,hpt,hha,-,-,-⟩:=YG hA hf hi8;obtain⟨C,hC⟩:∃C,C=W.ch (i:Int):=⟨_,rfl⟩
 rw[←hC] at hgo hfin;have e:YA W rd d.g d.x (k1,(i:Int),k3) place=(if(mRecv C).2.2=0 then(let y:=if(mRecv C).2.1.2.2.2 then goOnM (W.zW (i:Int) (mRecv C).1) rd (mRecv C).2.1.2.2.1 false else(W.zW (i:Int) (mRecv C).1,rd);some ⟨y.1.fin d.x ((d.g:Int),place,(mRecv C).2.1.1) (mRecv C).2.1.2.1,y.2,none⟩) else none):=by
  unfold YA;simp only
  rw[←hC]
 rw[e];have SB:∀(W':Wd) (wx:World) (Z:List zv),W'.Cs.length=W.Cs.length→D.fits W'→Own w0 wx (zj p W' D T++(ze w.heap.size [.int .i64 k1,.int .i64 (i:Int),.int .i64 k3]::ze d.q (yp p (d.g:Int) d.x d.th d.dr d.go ra rd.length rc)::Z)) →
   wx.cell? ⟨d.q,0,none⟩=some (.pointer (some ⟨p,0,none⟩))∧wx.cell? ⟨p,3,none⟩=some (.slice (some ⟨hb,ho,none⟩) W.Cs.length D.hc)∧wx.cell? ⟨hb,ho+i,none⟩=some (.pointer (some ⟨pt,0,none⟩))∧wx.cell? ⟨w.heap.size,1,none⟩=some (.int .i64 (i:Int)):=by
  intro W' wx Z hcs hf' hx;have hp3:=(hx.zi 0 rfl 3 _ rfl).1
  rw[hha,hcs] at hp3;obtain⟨pt',hb',ho',R',h0,h1,h2,-,-⟩:=YG hx hf' (i:=i) (by rw[hcs];exact hi8)
  rw[hha] at h1;rw[hpt] at h0;simp only[Option.some.injEq,Addr.mk.injEq,and_true] at h0 h1;obtain⟨rfl,rfl⟩:=h1;subst h0;exact⟨(hx.zi 11 rfl 0 _ rfl).1,hp3,h2,(hx.zi 10 rfl 1 _ rfl).1⟩
 have HSnd:Hid (∀(wx:World) (Z:List zv),Own w0 wx (zj p W D T++Z)→Calls Tryz.prog 180 #[.pointer (some ⟨pt,0,none⟩)] wx fun r w'=>r=.returned (.tuple #[TH (mRecv C).2.1.1 (mRecv C).2.1.2.1 (mRecv C).2.1.2.2.1 (mRecv C).2.1.2.2.2,.int .i64 (mRecv C).2.2])∧Own w0 w' (zj p (W.zW (i:Int) (mRecv C).1) D T++Z)∧D.fits (W.zW (i:Int) (mRecv C).1)):=Qq (fun wx Z hx=>by
  obtain⟨pt',hb',ho',R',h0,-,-,h3,h4⟩:=YG hx hf hi8;rw[hpt] at h0;simp only[Option.some.injEq] at h0;subst h0;rw[←hC] at h3;have hL:=hlim _ (List.mem_of_getElem? (Wd.U9 hi8))
  rw[←hC] at hL;exact(NZ h3 hL.1 hL.2.1).mono (fun r w' hh=>⟨hh.1,h4 _ _ hh.2⟩))
 have hW1:∀C',(W.zW (i:Int) C').Cs.length=W.Cs.length:=fun C'=>by unfold Wd.zW;simp
 have hsame:=X4 W i hi8;rw[←hC] at hsame;have herr:=OV C;generalize mRecv C=M at *;obtain⟨C1,⟨mv,sm,⟨r1,r2,r3⟩,wk⟩,er⟩:=M;unfold TH at HSnd;simp only at *
 obtain⟨W1,hWe⟩:∃W1,W1=W.zW (i:Int) C1:=⟨_,rfl⟩
 rw[←hWe] at hgo hfin HSnd ⊢;have HS0:=Qq (SB W · · rfl hf)
 have hf1:D.fits W1:=by rw[hWe];exact⟨hf.f,hf.g,by simp[hf.c,Wd.zW],by simp[hf.n,Wd.zW],hf.l,hf.k⟩
 have HS1:=Qq (SB W1 · · (by rw[hWe];exact hW1 C1) hf1)
 have HA:=Qq hA;have HF1:=Qq hf1;have HWe:=Qq hWe;have HSame:=Qq hsame;have HErr:=Qq herr;have HGo:=Qq hgo;have HFi:=Qq hfin;have i0:(0:Int)≤(i:Int):=by omega
 have i8:(i:Int)<(W.Cs.length:Int):=by omega
 obtain⟨NC,hNC⟩:∃NC,NC=W.Cs.length:=⟨_,rfl⟩
 rw[←hNC] at HS0 HS1 i8;generalize hoe:(if er=0 then(let y:=if wk then goOnM W1 rd (r1,r2,r3) false else(W1,rd);some (Dd.mk (y.1.fin d.x ((d.g:Int),place,mv) sm) y.2 none)) else none)=o
 have HOE:=Qq hoe;have HRD:=Qq hr;clear hA h hf hf1 hWe hsame herr hgo hfin SB hW1 hoe hC hha hpt hi8 hlim hcl hc0 hNC e;go_enter Tryz.func170,Tryz.ntmps170
 go_upto_region 1 with fail
 generalize w.alloc (.cells #[.int .i64 k1,.int .i64 (i:Int),.int .i64 k3] 129)=w1 at *
 generalize w.heap.size=bc at *;go_cut [7,8] (fun s7 s8 wx=>∃b7,s7=.pointer (some ⟨b7,0,none⟩)∧s8=.int .i64 er∧Own w0 wx (zj p W1 D T++(ze b7 [.int .i64 mv,.bool sm,.int .i64 r1,.int .i64 r2,.int .i64 r3,.bool wk]::ze bc [.int .i64 k1,.int .i64 (i:Int),.int .i64 k3]::ze d.q (yp p (d.g:Int) d.x d.th d.dr d.go ra rd.length rc)::zd 1 ra rc rd.length (zt rd)::R)))
 case first =>
  have o1:=HA.out.step (zg _)
  refine zV (fun wx=>wx.cell? ⟨d.q,0,none⟩=some (.pointer (some ⟨p,0,none⟩))∧wx.cell? ⟨p,3,none⟩=some (.slice (some ⟨hb,ho,none⟩) NC D.hc)∧wx.cell? ⟨hb,ho+i,none⟩=some (.pointer (some ⟨pt,0,none⟩))∧wx.cell? ⟨bc,1,none⟩=some (.int .i64 (i:Int))) 18 (Array.replicate 18 false) (by kernel_rfl) (by kernel_rfl) ?_
  refine zm 0 11 _ (Qj 18 2047) 7 (by kernel_rfl) za (HS0.out _ _ o1) (by kernel_rfl) ?_
  simp only[QX,QV,QJ];(repeat((first|refine Qx (h:=?_)|refine Qv (h:=?_));simp only[Act.put,QW,QY,QZ]));refine zb ?_;refine yz 11 15 _ (Qj 18 4095) (Qj 18 34815) 6 (by kernel_rfl) (fun K hK=>?_) (fun K hK=>?_)
  ·skip
   have HKK:=Qq hK;clear hK;simp only[QQ,QJ];refine zc (by rfl) ?_;go_simp;refine(HSnd.out _ _ o1).mono ?_
   rintro r w3 ⟨rfl,o3,-⟩
   refine HKK.out _ _ (HS1.out _ _ o3) ?_
   clear HKK K;refine zm 12 3 _ (Qj 18 32767) 3 (by kernel_rfl) za (HS1.out _ _ o3) (by kernel_rfl) ?_
   simp only[QX,QV,QQ,QJ];(repeat((first|refine Qx (h:=?_)|refine Qv (h:=?_));simp only[Act.put,QW,QY,QZ]));refine zb ?_;have o4:=o3.alloc [.int .i64 0,.bool false,.int .i64 0,.int .i64 0,.int .i64 0,.bool false] 290 (b:=w3.heap.size) rfl
   refine zh 15 _ (Qj 18 65535) 2 (by kernel_rfl) (fun K hK=>?_)
   have HKK:=Qq hK;clear hK;simp only[QQ,QJ];refine zc (by rfl) ?_;go_simp;refine HKK.out _ _ (HS1.out _ _ o4.drop) ?_
   clear HKK K;have o5:=o3.alloc [.int .i64 mv,.bool sm,.int .i64 r1,.int .i64 r2,.int .i64 r3,.bool wk] 290 (b:=w3.heap.size) rfl
   refine zh 16 _ (Qj 18 131071) 1 (by kernel_rfl) (fun K hK=>?_)
   have HKK:=Qq hK;clear hK;simp only[QQ,QJ];refine zc (by rfl) ?_;go_simp;refine HKK.out _ _ (HS1.out _ _ o5.drop) ?_
   clear HKK K;refine zm 17 1 _ (Qj 18 262143) 0 (by kernel_rfl) za (HS1.out _ _ o5.drop) (by kernel_rfl) ?_
   simp only[QX,QV,QQ,QJ];(repeat((first|refine Qx (h:=?_)|refine Qv (h:=?_));simp only[Act.put,QW,QY,QZ]));refine zb ?_;refine wpAnyH_done (by kernel_rfl) (NoPanic.normal ?_) _
   go_wp2_with fail;go_meet;exact⟨_,rfl,rfl,o5.X5⟩
  ·skip
   have o3:=(o1.alloc [.int .i64 0,.bool false,.int .i64 0,.int .i64 0,.int .i64 0,.bool false] 290 (b:=w1.heap.size) rfl).X5
   have hlt:=World.block_lt_of_cell? _ _ (o3.zi 10 rfl 0 _ rfl).1
   have HKK:=Qq hK;clear hK;simp only[QQ,QJ];refine zc (by rfl) ?_;go_simp;refine HKK.out _ _ (HS0.out _ _ o3.yC.drop) ?_
   clear HKK K;refine zh 11 _ (Qj 18 36863) 5 (by kernel_rfl) (fun K hK=>?_)
   have HKK:=Qq hK;clear hK;simp only[QQ,QJ];refine zc (by rfl) ?_;go_simp;refine(HSnd.out _ _ o3).mono ?_
   rintro r w3 ⟨rfl,o4,-⟩
   refine HKK.out _ _ (HS1.out _ _ o4.yC.drop) ?_
   clear HKK K;refine zm 12 3 _ (Qj 18 65535) 2 (by kernel_rfl) za (HS1.out _ _ o4.yC.drop) (by kernel_rfl) ?_
   simp only[QX,QV,QQ,QJ];(repeat((first|refine Qx (h:=?_)|refine Qv (h:=?_));simp only[Act.put,QW,QY,QZ]));refine zb ?_;obtain⟨z0,f0⟩:=o4.zi 10 rfl 0 _ rfl;obtain⟨z1,f1⟩:=o4.zi 10 rfl 1 _ rfl;obtain⟨z2,f2⟩:=o4.zi 10 rfl 2 _ rfl;obtain⟨z3,f3⟩:=o4.zi 10 rfl 3 _ rfl;obtain⟨z4,f4⟩:=o4.zi 10 rfl 4 _ rfl;obtain⟨z5,f5⟩:=o4.zi 10 rfl 5 _ rfl;have o5:=(((((o4.yC.set 0 (.int .i64 mv)).set 1 (.bool sm)).set 2 (.int .i64 r1)).set 3 (.int .i64 r2)).set 4 (.int .i64 r3)).set 5 (.bool wk)
   refine zh 16 _ (Qj 18 131071) 1 (by kernel_rfl) (fun K hK=>?_)
   have HKK:=Qq hK;clear hK;simp only[QQ,QJ];refine zc (by rfl) ?_;go_simp;refine HKK.out _ _ (HS1.out _ _ o5.drop) ?_
   clear HKK K;refine zm 17 1 _ (Qj 18 262143) 0 (by kernel_rfl) za (HS1.out _ _ o5.drop) (by kernel_rfl) ?_
   simp only[QX,QV,QQ,QJ];(repeat((first|refine Qx (h:=?_)|refine Qv (h:=?_));simp only[Act.put,QW,QY,QZ]));refine zb ?_;refine wpAnyH_done (by kernel_rfl) (NoPanic.normal ?_) _
   go_wp2_with fail;go_meet;exact⟨_,rfl,rfl,o5.X5⟩
 case rest =>
  obtain⟨b7,rfl,rfl,ho⟩:=hcut;have z2:=(ho.zi 10 rfl 2 _ rfl).1
  have z3:=(ho.zi 10 rfl 3 _ rfl).1
  have z4:=(ho.zi 10 rfl 4 _ rfl).1
  have z5:=(ho.zi 10 rfl 5 _ rfl).1
  have HD:Hid (yL w0 wc p T d W1 rd (ze b7 [.int .i64 mv,.bool sm,.int .i64 r1,.int .i64 r2,.int .i64 r3,.bool wk]::R)):=Qq ⟨D,ra,rc,HF1.out,by
   have h1:=(ho.pick 11 rfl).drop
   have h2:=(h1.pick 10 rfl)
   exact((h2.X5 (L:=zj p W1 D T++[ze d.q (yp p (d.g:Int) d.x d.th d.dr d.go ra rd.length rc),zd 1 ra rc rd.length (zt rd)])).perm (by rw[List.append_assoc];exact List.Perm.refl _))⟩
  clear ho HA HSnd HS0 HS1;rcases HErr.out with h1|⟨h1,h2⟩
  ·subst h1
   obtain⟨y,hy⟩:∃y,y=(if wk then goOnM W1 rd (r1,r2,r3) false else(W1,rd)):=⟨_,rfl⟩
   have ho:o=some ⟨y.1.fin d.x ((d.g:Int),place,mv) sm,y.2,none⟩:=by rw[←HOE.out,if_pos rfl,←hy]
   have hfi:=HFi.out rfl;rw[←hy] at hfi;have HO:=Qq ho;have HY:=Qq hy;have HFi2:=Qq hfi;clear HOE HFi ho hy hfi;go_upto_if 27 with fail
   go_cut [] (fun wx=>yL w0 wx p T d y.1 y.2 (ze b7 [.int .i64 mv,.bool sm,.int .i64 r1,.int .i64 r2,.int .i64 r3,.bool wk]::R))
   case first =>
    cases wk with
    | true =>
     go_wp2_with fail;refine(TM HD.out (r1,r2,r3) false (HGo.out (by first|rfl|trivial)) (by have:=HRD.out;omega)).mono ?_
     rintro r w2 ⟨rfl,h2⟩;have H2:=Qq h2;clear h2;go_wp2_with fail;go_meet;rw[HY.out];exact H2.out
    | false =>
     go_wp2_with fail;go_meet;rw[HY.out];exact HD.out
   case rest =>
    obtain⟨D2,ra2,rc2,hf2,h2⟩:=hcut;have q0:=(h2.zi 10 rfl 0 _ rfl).1
    have q1:=(h2.zi 10 rfl 1 _ rfl).1
    have q2:=(h2.zi 10 rfl 2 _ rfl).1
    have q3:=(h2.zi 10 rfl 3 _ rfl).1
    have q4:=(h2.zi 10 rfl 4 _ rfl).1
    have q5:=(h2.zi 10 rfl 5 _ rfl).1
    have y0:=(h2.zi 12 rfl 0 _ rfl).1
    have y1:=(h2.zi 12 rfl 1 _ rfl).1
    have HN:=Qq (fun j=>TS sm (h2.step (zx wc j)) hf2 HFi2.out)
    unfold wv at HN;simp only at HN
    clear h2 hf2 HGo HErr HD z2 z3 z4 z5;go_upto_region 6 with fail
    refine zk (fun wx=>∃nq,wx=World.drewN (wc) nq) 18 1 (Array.replicate 19 false) (Qj 19 262143) (by kernel_rfl) (by kernel_rfl) ?_
    refine zf 0 18 _ (Qj 19 262143) 0 (by kernel_rfl) za (zE wc) (by kernel_rfl) ?_
    simp only[QX,QV,QJ];(repeat((first|refine Qx (h:=?_)|refine Qw (h:=?_));simp only[Act.put,QW,QY,QZ]));refine zb ?_;refine zo ?_;refine zS 18 (by kernel_rfl) ?_
    simp only[QQ,QJ];go_wp2_with fail;refine(HN.out 1).mono ?_
    rintro r w3 ⟨rfl,h3,hf3⟩;have H3:Hid (yL w0 w3 p T d (y.1.fin d.x ((d.g:Int),place,mv) sm) y.2 R):=Qq ⟨D2,ra2,rc2,hf3,(h3.pick 12 rfl).drop⟩
    clear h3 hf3 HN;go_wp2_with fail;refine NoPanic.normal ?_
    go_wp2;go_ret;rw[HO.out];exact⟨rfl,H3.out⟩
  ·subst h1
   have hW:W1=W:=by rw[HWe.out,h2];exact HSame.out
   have ho:o=none:=by rw[←HOE.out,if_neg (by decide)]
   have HO:=Qq ho;have HD2:Hid (yL w0 wc p T d W rd (ze b7 [.int .i64 mv,.bool sm,.int .i64 r1,.int .i64 r2,.int .i64 r3,.bool wk]::R)):=Qq (by rw[←hW];exact HD.out)
   clear HOE HGo HFi hW ho HD h2;go_wp2;go_ret;rw[HO.out];obtain⟨D2,ra2,rc2,hf2,h2⟩:=HD2.out;exact⟨rfl,D2,ra2,rc2,hf2,(h2.pick 12 rfl).drop⟩
theorem TZ (k1 k2 k3:Int)(w:World) :
  Calls Tryz.prog 175 #[.agg #[.int .i64 k1,.int .i64 k2,.int .i64 k3]] w fun r w'=>r=.returned (.bool (k1==2))∧Below w.heap.size w w':=by
 go_enter Tryz.func175,Tryz.ntmps175
 go_wp2;go_ret;exact⟨rfl,by first|exact Below.refl _ _|exact below_alloc1 _ _⟩
theorem RF (w:World)(ka:Option Addr)(m kc:Nat)(ks:List Zm)(hk:zr w ka (WM ks))(hm:m=ks.length)(hm2:m≤100000) :
  Calls Tryz.prog 174 #[.slice ka m kc,.func (.func 175) #[] #[]] w fun r w'=>r=.returned (.int .i64 (UL 0 ks))∧Below w.heap.size w w':=by
 have H:=Qq hk;have HN:=Qq hm;clear hk hm;go_enter Tryz.func174,Tryz.ntmps174
 go_wp2_with fail;go_loopw [8] (fun s wr=>∃i:Nat,i≤m∧s=.int .i64 i∧Hid (Below w.heap.size w wr∧UL 0 ks=UL i (ks.drop i))) (fun s _=>m-(intOf s).toNat)
 case atStart=>exact⟨0,by omega,rfl,Qq ⟨Below.refl _ _,rfl⟩⟩
 case round =>
  obtain⟨i,hi,rfl,hr⟩:=hrel;obtain⟨r1,r2⟩:=hr.out;by_cases hlt:i<m
  ·have hil:i<ks.length:=by have:=HN.out;omega
   obtain⟨b,off,rfl,q0,q1,q2⟩:=zr.wt (l:=ks) ((H.out.below r1)) i hil
   rw[M6 ks i hil] at r2;obtain⟨x,hx⟩:∃x,x=ks[i]:=⟨_,rfl⟩
   rw[←hx] at q0 q1 q2 r2;clear hx;obtain⟨k1,k2,k3⟩:=x;simp only at q0 q1 q2 r2
   have hli:(i:Int)<(m:Int):=by omega
   have HP:=Qq (TZ k1 k2 k3 wr)
   have R1:=Qq r1;by_cases hyg:k1=2
   ·have hb:(k1==2)=true:=by rw[beq_iff_eq];exact hyg
    rw[hb] at HP;rw[if_pos hyg] at r2;have R2:=Qq r2;clear hb hyg hr r1 r2;go_wp2_with fail;refine HP.out.mono ?_
    rintro r w3 ⟨rfl,b3⟩;have HZ:=Qq (zB R1.out b3)
    clear b3;go_wp2;go_ret;exact⟨by rw[R2.out];rfl,HZ.out⟩
   ·have hb:(k1==2)=false:=by rw[beq_eq_false_iff_ne];exact hyg
    rw[hb] at HP;rw[if_neg hyg] at r2;have R2:=Qq r2;clear hb hyg hr r1 r2;go_wp2_with fail;refine HP.out.mono ?_
    rintro r w3 ⟨rfl,b3⟩;have HZ:=Qq (And.intro (zB R1.out b3) R2.out)
    clear b3;go_wp2;exact⟨⟨i+1,by omega,by go_num,HZ⟩,by simp[intOf];omega⟩
  ·have hge:¬(i:Int)<(m:Int):=by omega
   have hd:ks.drop i=[]:=List.drop_of_length_le (by have:=HN.out;omega)
   rw[hd] at r2;have HF:=Qq (And.intro r1 r2)
   clear hr r1 r2 hd;go_wp2;go_ret;exact⟨by rw[HF.out.2];rfl,HF.out.1⟩
theorem MS (w:World)(ka:Option Addr)(m kc:Nat)(ks:List Zm)(hk:zr w ka (WM ks))(hm:m=ks.length)(hm2:m≤100000) :
  Calls Tryz.prog 162 #[.slice ka m kc] w fun r w'=>r=.returned (.tuple #[.int .i64 (if UL 0 ks<0 then 0 else UL 0 ks),.bool (!decide (UL 0 ks<0))])∧Below w.heap.size w w':=by
 have hx:=RF w ka m kc ks hk hm hm2;obtain⟨e,he⟩:∃e,e=UL 0 ks:=⟨_,rfl⟩
 rw[←he] at hx ⊢;have HX:=Qq hx;clear hx he hk hm;by_cases h:e<0
 ·rw[if_pos h,show(!decide (e<0))=false by simp[h]]
  go_enter Tryz.func162,Tryz.ntmps162
  go_wp2_with fail;refine HX.out.mono ?_
  rintro r w2 ⟨rfl,b2⟩;have B2:=Qq b2;clear b2;go_wp2;go_ret2
  exact⟨rfl,B2.out⟩
 ·rw[if_neg h,show(!decide (e<0))=true by simp[h]]
  go_enter Tryz.func162,Tryz.ntmps162
  go_wp2_with fail;refine HX.out.mono ?_
  rintro r w2 ⟨rfl,b2⟩;have B2:=Qq b2;clear b2;go_wp2;go_ret2
  exact⟨rfl,B2.out⟩
theorem ML {w0 w:World}{ps:List Pl}{Cs:List Ch}{R:List zv}{la:Option Addr}{lc n:Nat}(h:Own w0 w (YD ps Cs++zd 1 la lc n (xT ps)::R))(hn:n=ps.length)(hl:ps.length=Cs.length)(g:Int)(ka:Option Addr)(m kc:Nat)(ks:List Zm)(ra:Option Addr)(rn rc:Nat)(yU:List Int)
  (hk:∀w' Cs',Own w0 w' (YD ps Cs'++zd 1 la lc n (xT ps)::R)→zr w' ka (WM ks)∧zr w' ra (zt yU)) (hm:m=ks.length) (hm2:m≤1000) (hr8:yU.length=8) (hrn:rn=8) (hok:Ua n ks) (B:Nat) (hB:RI B Cs) (hB2:B≤90000) :
  Calls Tryz.prog 171 #[.int .i64 g,.slice ka m kc,.slice ra rn rc,.slice la n lc] w fun r w'=>r=.returned (.tuple #[])∧Own w0 w' (YD ps (wasF g yU 0 ks Cs)++zd 1 la lc n (xT ps)::R):=by
 have H:=Qq h;have HK:=Qq hk;have HN:=Qq hn;have HM:=Qq hm;have HO:=Qq hok;have HL:=Qq hl;have HBB:=Qq hB;subst hrn;clear h hk hn hm hok hl hB;go_enter Tryz.func171,Tryz.ntmps171
 go_wp2_with fail;go_loopw [12] (fun s wr=>∃i:Nat,∃Cs',i≤m∧s=.int .i64 i∧Hid (Own w0 wr (YD ps Cs'++zd 1 la lc n (xT ps)::R)∧wasF g yU i (ks.drop i) Cs'=wasF g yU 0 ks Cs∧Cs'.length=Cs.length∧RI (B+i) Cs')) (fun s _=>m-(intOf s).toNat)
 case atStart=>exact⟨0,Cs,by omega,rfl,Qq ⟨H.out,rfl,rfl,HBB.out⟩⟩
 case round =>
  obtain⟨i,Cs',hi,rfl,hr⟩:=hrel;obtain⟨r1,r2,r3,r4⟩:=hr.out;by_cases hlt:i<m
  ·have hil:i<ks.length:=by have:=HM.out;omega
   obtain⟨kk,kr⟩:=HK.out _ _ r1;obtain⟨b,off,rfl,q0,q1,q2⟩:=zr.wt (l:=ks) (kk) i hil
   have hok:=HO.out ks[i] (List.getElem_mem hil)
   rw[Na g yU ks i hil] at r2;obtain⟨x,hx⟩:∃x,x=ks[i]:=⟨_,rfl⟩
   rw[←hx] at q0 q1 q2 hok r2;clear hx kk;obtain⟨k1,k2,k3⟩:=x;simp only at q0 q1 q2 hok
   obtain⟨h0,h1,h2,h3,h4⟩:=hok;have hli:(i:Int)<(m:Int):=by omega
   obtain⟨j,rfl⟩:∃j:Nat,k2=(j:Int):=⟨k2.toNat,by omega⟩
   by_cases h22:k1=2
   ·subst h22
    have e:waF g yU i (2,(j:Int),k3) Cs'=Cs':=by unfold waF;split<;>simp
    rw[e] at r2;have HR:=Qq (show _∧_∧_∧RI (B+(i+1)) Cs' from⟨r1.step (below_alloc1 wr (.cells #[.int .i64 2,.int .i64 (j:Int),.int .i64 k3] 129)),r2,r3,r4.mono (by omega)⟩)
    clear hr r1 r2 r3 r4 h0 h1 h2 h3 h4 e kr;go_wp2;exact⟨⟨i+1,Cs',by omega,by go_num,HR⟩,by simp[intOf];omega⟩
   ·have hjn:j<ps.length:=by have:=h2 h22;have:=HN.out;omega
    have hjC:j<Cs'.length:=by rw[r3,←HL.out];exact hjn
    have hp:ps[j]?=some ps[j]:=List.getElem?_eq_getElem hjn
    have hC:Cs'[j]?=some Cs'[j]:=List.getElem?_eq_getElem hjC
    have hlim:=r4 Cs'[j] (List.getElem_mem hjC)
    generalize ps[j]=p at hp
    generalize Cs'[j]=C at hC hlim
    obtain⟨pb,poff,rfl,gp⟩:=PK r1 hp;obtain⟨R',hR,hback⟩:=r1.Q4 hp hC;have gpl:=World.block_lt_of_cell? _ _ gp
    have hjn':(j:Int)<(n:Int):=by have:=HN.out;omega
    obtain⟨buf,S,Rv,cl⟩:=C;simp only at hlim
    rcases(by omega:k1=0∨k1=1) with rfl|rfl
    ·have e:waF g yU i (0,(j:Int),k3) Cs'=Cs'.set j ⟨buf,S,Rv++[(g,(i:Int),0)],cl⟩:=by unfold waF;simp[hC]
     rw[e] at r2;have hw:=Q6 (hR.step (below_alloc1 wr (.cells #[.int .i64 0,.int .i64 (j:Int),.int .i64 k3] 129))) (g,(i:Int),0) (by omega)
     have HW:=Qq hw;have HX:=Qq (fun(w':World) (h':Own w0 w' (yv p.1 p.2 ⟨buf,S,Rv++[(g,(i:Int),0)],cl⟩::R'))=>(show Own w0 w' (YD ps (Cs'.set j ⟨buf,S,Rv++[(g,(i:Int),0)],cl⟩)++zd 1 (some ⟨pb,poff,none⟩) lc n (xT ps)::R)∧wasF g yU (i+1) (ks.drop (i+1)) (Cs'.set j ⟨buf,S,Rv++[(g,(i:Int),0)],cl⟩)=wasF g yU 0 ks Cs∧(Cs'.set j ⟨buf,S,Rv++[(g,(i:Int),0)],cl⟩).length=Cs.length∧RI (B+(i+1)) (Cs'.set j ⟨buf,S,Rv++[(g,(i:Int),0)],cl⟩) from
      ⟨hback w' _ h',r2,by simpa using r3,(r4.mono (by omega)).set _ _ ⟨by simp only;omega,by simp only;omega,by simp;omega⟩⟩))
     unfold wv at HW;simp only at HW
     clear hr r1 r2 r3 r4 h0 h1 h2 h3 h4 h22 e kr hw hback hR hC hp hjC hjn hlim;go_wp2_with fail;refine HW.out.mono ?_
     rintro r w3 ⟨rfl,h3⟩;have HR:=Qq (HX.out _ h3)
     clear h3;go_wp2;exact⟨⟨i+1,_,by omega,by go_num,HR⟩,by simp[intOf];omega⟩
    ·obtain⟨q,rfl⟩:∃q:Nat,k3=(q:Int):=⟨k3.toNat,by omega⟩
     have hq8:q<yU.length:=by omega
     have hq8':(q:Int)<8:=by omega
     obtain⟨rb,ro,rfl,gr⟩:=kr.int q hq8;obtain⟨v,hv⟩:∃v,v=yU[q]:=⟨_,rfl⟩
     have HQ9:=Qq (show q<yU.length∧∀h:q<yU.length,yU[q]=v from⟨hq8,fun _=>hv.symm⟩)
     have HP9:=Qq hp;have HLIM:=Qq hlim;have hlim2:=hlim;clear hlim;rw[←hv] at gr;have e:waF g yU i (1,(j:Int),(q:Int)) Cs'=Cs'.set j ⟨buf,S++[(g,(i:Int),v)],Rv,cl⟩:=by unfold waF;simp[hC,hv,List.getD_eq_getElem?_getD,List.getElem?_eq_getElem hq8]
     rw[e] at r2;have hw:=True.intro;have HW:=hw;have HX:=Qq (fun(w':World) (h':Own w0 w' (yv p.1 p.2 ⟨buf,S++[(g,(i:Int),v)],Rv,cl⟩::R'))=>(show Own w0 w' (YD ps (Cs'.set j ⟨buf,S++[(g,(i:Int),v)],Rv,cl⟩)++zd 1 (some ⟨pb,poff,none⟩) lc n (xT ps)::R)∧wasF g yU (i+1) (ks.drop (i+1)) (Cs'.set j ⟨buf,S++[(g,(i:Int),v)],Rv,cl⟩)=wasF g yU 0 ks Cs∧(Cs'.set j ⟨buf,S++[(g,(i:Int),v)],Rv,cl⟩).length=Cs.length∧RI (B+(i+1)) (Cs'.set j ⟨buf,S++[(g,(i:Int),v)],Rv,cl⟩) from
      ⟨hback w' _ h',r2,by simpa using r3,(r4.mono (by omega)).set _ _ ⟨by simp only;omega,by simp;omega,by simp only;omega⟩⟩))
     obtain⟨s0,hs0⟩:∃s0,s0=wr.heap.size:=⟨_,rfl⟩
     have hA:=hR.alloc [.int .i64 1,.int .i64 (j:Int),.int .i64 (q:Int)] 129 hs0
     have HA:=Qq hA;have HB9:=Qq hback;have grl:=World.block_lt_of_cell? _ _ gr
     clear hr r1 r2 r3 r4 h0 h1 h2 h3 h4 h22 e kr hw HW hback hR hC hp hjC hjn hlim2 hv hq8 hA;go_upto_region 7 with fail
     rw[←hs0];have gp9:=zq gp (below_alloc1 wr (.cells #[.int .i64 1,.int .i64 (j:Int),.int .i64 (q:Int)] 129))
     have gr9:=zq gr (below_alloc1 wr (.cells #[.int .i64 1,.int .i64 (j:Int),.int .i64 (q:Int)] 129))
     clear gp gr hs0;generalize wr.alloc (.cells #[.int .i64 1,.int .i64 (j:Int),.int .i64 (q:Int)] 129)=W at *
     have hw:=Pu (S:=S) ((HA.out.step (zg _)).pick 1 rfl) (g,(i:Int),v) (by have:=HLIM.out;omega)
     have HW:=Qq hw;unfold wv at HW;simp only at HW
     have hcel:∀wx C',Own w0 wx (yv p.1 p.2 C'::ze s0 [.int .i64 1,.int .i64 (j:Int),.int .i64 (q:Int)]::R')→wx.cell? ⟨s0,1,none⟩=some (.int .i64 (j:Int))∧wx.cell? ⟨s0,2,none⟩=some (.int .i64 (q:Int))∧wx.cell? ⟨pb,poff+j,none⟩=some (.pointer (some ⟨p.1,0,none⟩))∧wx.cell? ⟨rb,ro+q,none⟩=some (.int .i64 v):=fun wx C' hx=>by
      have hy:=HB9.out _ _ (hx.pick 1 rfl).drop
      obtain⟨_,_,ee,gp'⟩:=PK hy HP9.out;cases ee
      obtain⟨_,_,ee,gr'⟩:=(HK.out _ _ hy).2.int q HQ9.out.1
      cases ee
      exact⟨(hx.zi 1 rfl 1 _ rfl).1,(hx.zi 1 rfl 2 _ rfl).1,gp',by rw[gr',HQ9.out.2 HQ9.out.1]⟩
     have h0:=hcel _ _ ((HA.out.step (zg W)).pick 1 rfl)
     have HCEL:=Qq hcel;clear hw hcel gp9 gr9;refine zV (fun wx=>wx.cell? ⟨s0,1,none⟩=some (.int .i64 (j:Int))∧wx.cell? ⟨s0,2,none⟩=some (.int .i64 (q:Int))∧wx.cell? ⟨pb,poff+j,none⟩=some (.pointer (some ⟨p.1,0,none⟩))∧wx.cell? ⟨rb,ro+q,none⟩=some (.int .i64 v)) 14 (Array.replicate 14 false) (by kernel_rfl) (by kernel_rfl) ?_
     refine zm 0 13 _ (Qj 14 8191) 1 (by kernel_rfl) za (h0) (by kernel_rfl) ?_
     simp only[QX,QV,QJ];(repeat((first|refine Qx (h:=?_)|refine Qv (h:=?_));simp only[Act.put,QW,QY,QZ]));refine zb ?_;refine zh 13 _ (Qj 14 16383) 0 (by kernel_rfl) (fun K hK=>?_)
     have HKK:=Qq hK;clear hK;simp only[QQ,QJ];refine zc (by rfl) ?_;go_simp;refine HW.out.mono ?_
     rintro r w3 ⟨rfl,h3⟩;have h1:=HCEL.out _ _ h3;have HR:=Qq (HX.out _ (h3.pick 1 rfl).drop)
     clear h3 h0;refine HKK.out _ _ (h1) ?_
     clear HKK K;refine wpAnyH_done (by kernel_rfl) (NoPanic.normal ?_) _
     clear h1;go_wp2;exact⟨⟨i+1,_,by omega,by go_num,HR⟩,by simp[intOf];omega⟩
  ·have hge:¬(i:Int)<(m:Int):=by omega
   have hd:ks.drop i=[]:=List.drop_of_length_le (by have:=HM.out;omega)
   rw[hd] at r2;have HF:=Qq (show Own w0 wr (YD ps (wasF g yU 0 ks Cs)++zd 1 la lc n (xT ps)::R) from by rw[←r2];exact r1)
   clear hr r1 r2 r3 r4 hd;go_wp2;go_end0
   exact⟨rfl,HF.out⟩
structure To (W:Wd) (rd:List Int) (g:Nat) (x:yq) (place:Int):Prop where
 ix:QN W x
 k:W.ks.length≤1000
 j:0≤place∧place<((W.yK x).length:Int)
 s:((W.yK x).getD place.toNat (1,0,0)).1=1→Pn W rd g x ((W.yK x).getD place.toNat (1,0,0)) place
 r:((W.yK x).getD place.toNat (1,0,0)).1≠1→PC W rd g x ((W.yK x).getD place.toNat (1,0,0)) place
theorem RE {w0 w:World}{p:Nat}{T:List Value}{d:Dq}{W:Wd}{rd:List Int}{R:List zv}(h:yL w0 w p T d W rd R)(hg:d.g<W.gs.length)(hm:1≤(W.g d.g).n∧(W.g d.g).n≤16)(place:Int)(ok:To W rd d.g d.x place)(hr:rd.length≤1000) :
  Calls Tryz.prog 158 #[.pointer (some ⟨d.q,0,none⟩),.int .i64 place] w fun r w'=>V0 w0 p T d R W rd (YR W rd d.g d.x place) r w':=by
 obtain⟨D,ra,rc,hf,h⟩:=h;obtain⟨hx,hk,hj,hs,hrv⟩:=ok;obtain⟨j,rfl,hj8⟩:=yN (n:=(W.yK d.x).length) hj
 obtain⟨c,hc⟩:∃c,c=(W.yK d.x).getD j (1,0,0):=⟨_,rfl⟩
 rw[Int.toNat_natCast,←hc] at hs hrv;have hcj:(W.yK d.x)[j]=c:=by rw[hc,List.getD_eq_getElem?_getD,List.getElem?_eq_getElem hj8];rfl
 have e:YR W rd d.g d.x (j:Int)=(if c.1=1 then Yy W rd d.g d.x c (j:Int) else YA W rd d.g d.x c (j:Int)):=by
  unfold YR;simp only[Int.toNat_natCast];rw[←hc]
 rw[e];generalize hoe:(if c.1=1 then Yy W rd d.g d.x c (j:Int) else YA W rd d.g d.x c (j:Int))=o
 have HOE:=Qq hoe;have HSn:=Qq (fun w (h:yL w0 w p T d W rd R) (h1:c.1=1)=>NQ h hg hm c (j:Int) (hs h1) hr)
 have HRv:=Qq (fun w (h:yL w0 w p T d W rd R) (h1:c.1≠1)=>Nh h c (j:Int) (hrv h1) hr)
 obtain⟨c0,c1,c2⟩:=c;have HGE:=Qq hcj;have HCa:=Qq (fun wx Y (ho:Own w0 wx (zj p W D T++Y))=>ZU ho hf d.x hx hk)
 have H:=Qq h;have HF:=Qq hf;have j0:(0:Int)≤(j:Int):=by omega
 have j8:(j:Int)<((W.yK d.x).length:Int):=by omega
 have SB:∀(wx:World) (Z:List zv),Own w0 wx (zj p W D T++(ze d.q (yp p (d.g:Int) d.x d.th d.dr d.go ra rd.length rc)::Z)) →
   wx.cell? ⟨d.q,0,none⟩=some (.pointer (some ⟨p,0,none⟩))∧wx.cell? ⟨d.q,2,none⟩=some (.int .i64 d.x.1)∧wx.cell? ⟨d.q,3,none⟩=some (.int .i64 d.x.2.1)∧wx.cell? ⟨d.q,4,none⟩=some (.int .i64 d.x.2.2.1)∧wx.cell? ⟨d.q,5,none⟩=some (.int .i64 d.x.2.2.2):=by
  intro wx Z ho;have hc:=ho.zi 10 rfl;exact⟨(hc 0 _ rfl).1,(hc 2 _ rfl).1,(hc 3 _ rfl).1,(hc 4 _ rfl).1,(hc 5 _ rfl).1⟩
 have HSB:=Qq SB;clear h hf hx hk hj hs hrv hc hcj e hoe SB hg hm hr;go_enter Tryz.func158,Tryz.ntmps158
 go_upto_region 1 with fail
 go_cut [5] (fun s5 wx=>∃b5,s5=.pointer (some ⟨b5,0,none⟩)∧Own w0 wx (zj p W D T++(ze b5 [.int .i64 c0,.int .i64 c1,.int .i64 c2]::ze d.q (yp p (d.g:Int) d.x d.th d.dr d.go ra rd.length rc)::zd 1 ra rc rd.length (zt rd)::R)))
 case first =>
  have o1:=H.out.step (zg w)
  refine xh (fun wx=>wx.cell? ⟨d.q,0,none⟩=some (.pointer (some ⟨p,0,none⟩))∧wx.cell? ⟨d.q,2,none⟩=some (.int .i64 d.x.1)∧wx.cell? ⟨d.q,3,none⟩=some (.int .i64 d.x.2.1)∧wx.cell? ⟨d.q,4,none⟩=some (.int .i64 d.x.2.2.1)∧wx.cell? ⟨d.q,5,none⟩=some (.int .i64 d.x.2.2.2)) 14 (Array.replicate 14 false) (by kernel_rfl) (by kernel_rfl) ?_
  refine zF 0 8 _ (Qj 14 255) 6 (by kernel_rfl) za (HSB.out _ _ o1) (by kernel_rfl) ?_
  simp only[QX,QV,QJ];(repeat((first|refine Qx (h:=?_)|refine Qv (h:=?_));simp only[Act.put,QW,QY,QZ]));refine zb ?_;refine zF 9 1 _ (Qj 14 767) 5 (by kernel_rfl) za (HSB.out _ _ o1) (by kernel_rfl) ?_
  simp only[QX,QV,QQ,QJ];(repeat((first|refine Qx (h:=?_)|refine Qv (h:=?_));simp only[Act.put,QW,QY,QZ]));refine zb ?_;refine xI 8 12 _ (Qj 14 1023) (Qj 14 4863) 4 (by kernel_rfl) (fun K hK=>?_) (fun K hK=>?_)
  ·skip
   have HKK:=Qq hK;clear hK;simp only[QQ,QJ];refine zc (by rfl) ?_;go_simp;refine(HCa.out _ _ o1).mono ?_
   rintro r w3 ⟨a,ca,Z,rfl,hP,hl,o3,-⟩
   obtain⟨cbk,co,rfl,y0,y1,y2⟩:=(hP.cells o3 2 0 rfl rfl).wt j (by omega)
   rw[HGE.out] at y0 y1 y2;have o4:=o3.drop;refine HKK.out _ _ (HSB.out _ _ o4) ?_
   clear HKK K;refine zF 10 1 _ (Qj 14 2047) 3 (by kernel_rfl) za (HSB.out _ _ o4) (by kernel_rfl) ?_
   simp only[QX,QV,QQ,QJ];(repeat((first|refine Qx (h:=?_)|refine Qv (h:=?_));simp only[Act.put,QW,QY,QZ]));refine zb ?_;refine xI 11 12 _ (Qj 14 4095) (Qj 14 6143) 2 (by kernel_rfl) (fun K hK=>?_) (fun K hK=>?_)
   ·skip
    have HKK:=Qq hK;clear hK;simp only[QQ,QJ];refine zc (by rfl) ?_;go_simp;refine HKK.out _ _ (HSB.out _ _ o4) ?_
    clear HKK K;have o5:=o4.alloc [.int .i64 0,.int .i64 0,.int .i64 0] 129 (b:=w3.heap.size) rfl
    refine zM 12 _ (Qj 14 8191) 1 (by kernel_rfl) (fun K hK=>?_)
    have HKK:=Qq hK;clear hK;simp only[QQ,QJ];refine zc (by rfl) ?_;go_simp;refine HKK.out _ _ (HSB.out _ _ o5.drop) ?_
    clear HKK K;have HOx:=Qq ((o4.alloc [.int .i64 c0,.int .i64 c1,.int .i64 c2] 129 (b:=w3.heap.size) rfl).X5)
    refine yG 13 _ (Qj 14 16383) (by kernel_rfl) (fun K hK=>?_)
    have HKK:=Qq hK;clear hK;simp only[QQ,QJ];refine zc (by rfl) ?_;go_simp;refine HKK.out _ _ (NoPanic.normal ?_)
    clear HKK K;go_wp2_with fail;go_meet;exact⟨_,rfl,HOx.out⟩
   ·skip
    have HKK:=Qq hK;clear hK;simp only[QQ,QJ];refine zc (by rfl) ?_;go_simp;have o5:=o4.alloc [.int .i64 0,.int .i64 0,.int .i64 0] 129 (b:=w3.heap.size) rfl
    refine HKK.out _ _ (HSB.out _ _ o5.drop) ?_
    clear HKK K;have y0':∀q,(w3.alloc q).cell? ⟨cbk,co+j*3,none⟩=some (.int .i64 c0):=fun q=>zq y0 (below_alloc1 w3 q)
    have y1':∀q,(w3.alloc q).cell? ⟨cbk,co+j*3+1,none⟩=some (.int .i64 c1):=fun q=>zq y1 (below_alloc1 w3 q)
    have y2':∀q,(w3.alloc q).cell? ⟨cbk,co+j*3+2,none⟩=some (.int .i64 c2):=fun q=>zq y2 (below_alloc1 w3 q)
    refine zM 11 _ (Qj 14 8191) 1 (by kernel_rfl) (fun K hK=>?_)
    have HKK:=Qq hK;clear hK;simp only[QQ,QJ];refine zc (by rfl) ?_;go_simp;refine HKK.out _ _ (HSB.out _ _ o5.drop) ?_
    clear HKK K;have HOx:=Qq ((o4.alloc [.int .i64 c0,.int .i64 c1,.int .i64 c2] 129 (b:=w3.heap.size) rfl).X5)
    refine yG 13 _ (Qj 14 16383) (by kernel_rfl) (fun K hK=>?_)
    have HKK:=Qq hK;clear hK;simp only[QQ,QJ];refine zc (by rfl) ?_;go_simp;refine HKK.out _ _ (NoPanic.normal ?_)
    clear HKK K;go_wp2_with fail;go_meet;exact⟨_,rfl,HOx.out⟩
  ·skip
   have o5:=(o1.alloc [.int .i64 0,.int .i64 0,.int .i64 0] 129 (b:=w.heap.size) rfl).X5
   have hcb:=World.block_lt_of_cell? _ _ (o5.zi 10 rfl 0 _ rfl).1
   have HKK:=Qq hK;clear hK;simp only[QQ,QJ];refine zc (by rfl) ?_;go_simp;refine HKK.out _ _ (HSB.out _ _ o5.yC.drop) ?_
   clear HKK K;refine zM 8 _ (Qj 14 5119) 3 (by kernel_rfl) (fun K hK=>?_)
   have HKK:=Qq hK;clear hK;simp only[QQ,QJ];refine zc (by rfl) ?_;go_simp;refine(HCa.out _ _ o5).mono ?_
   rintro r w3 ⟨a,ca,Z,rfl,hP,hl,o3,-⟩
   obtain⟨cbk,co,rfl,y0,y1,y2⟩:=(hP.cells o3 2 0 rfl rfl).wt j (by omega)
   rw[HGE.out] at y0 y1 y2;have o6:=o3.drop;refine HKK.out _ _ (HSB.out _ _ o6.yC.drop) ?_
   clear HKK K;refine zF 10 1 _ (Qj 14 6143) 2 (by kernel_rfl) za (HSB.out _ _ o6.yC.drop) (by kernel_rfl) ?_
   simp only[QX,QV,QQ,QJ];(repeat((first|refine Qx (h:=?_)|refine Qv (h:=?_));simp only[Act.put,QW,QY,QZ]));refine zb ?_;refine zM 11 _ (Qj 14 8191) 1 (by kernel_rfl) (fun K hK=>?_)
   have HKK:=Qq hK;clear hK;simp only[QQ,QJ];refine zc (by rfl) ?_;go_simp;refine HKK.out _ _ (HSB.out _ _ o6.yC.drop) ?_
   clear HKK K;obtain⟨z0,f0⟩:=o6.zi 10 rfl 0 _ rfl;obtain⟨z1,f1⟩:=o6.zi 10 rfl 1 _ rfl;obtain⟨z2,f2⟩:=o6.zi 10 rfl 2 _ rfl;have HOx:=Qq (((o6.yC.set 0 (.int .i64 c0)).set 1 (.int .i64 c1)).set 2 (.int .i64 c2)).X5
   refine yG 13 _ (Qj 14 16383) (by kernel_rfl) (fun K hK=>?_)
   have HKK:=Qq hK;clear hK;simp only[QQ,QJ];refine zc (by rfl) ?_;go_simp;refine HKK.out _ _ (NoPanic.normal ?_)
   clear HKK K;go_wp2_with fail;go_meet;exact⟨_,rfl,HOx.out⟩
 case rest =>
  obtain⟨b5,rfl,ho⟩:=hcut;have z0:=(ho.zi 10 rfl 0 _ rfl).1
  have z1:=(ho.zi 10 rfl 1 _ rfl).1
  have z2:=(ho.zi 10 rfl 2 _ rfl).1
  have HD:Hid (yL w0 wc p T d W rd R):=Qq ⟨D,ra,rc,HF.out,ho.yC.drop⟩
  clear ho H HCa HSB;by_cases h1:c0=1
  ·have ht:(c0==1)=true:=by simp[h1]
   have hoo:o=Yy W rd d.g d.x (c0,c1,c2) (j:Int):=by rw[←HOE.out,if_pos h1]
   have HO:=Qq hoo;have HCl:=Qq (HSn.out wc HD.out h1)
   clear HSn HRv HOE hoo h1;go_wp2_with fail;refine HCl.out.mono ?_
   intro r w4 hp;rw[←HO.out] at hp;unfold V0 at hp;cases o with
   | none =>
    obtain⟨rfl,h2⟩:=hp;have H2:=Qq h2;clear h2 HD HCl HO;go_wp2;go_ret;exact⟨rfl,H2.out⟩
   | some m =>
    obtain⟨Wm,rm,tm⟩:=m;cases tm with
    | none =>
     obtain⟨rfl,h2⟩:=hp;have H2:=Qq h2;clear h2 HD HCl HO;go_wp2;go_ret;exact⟨rfl,H2.out⟩
    | some k =>
     obtain⟨rfl,h2⟩:=hp;have H2:=Qq h2;clear h2 HD HCl HO;unfold WA;go_wp2;exact⟨rfl,rfl,H2.out⟩
  ·have ht:(c0==1)=false:=by simp[h1]
   have hoo:o=YA W rd d.g d.x (c0,c1,c2) (j:Int):=by rw[←HOE.out,if_neg h1]
   have HO:=Qq hoo;have HCl:=Qq (HRv.out wc HD.out h1)
   clear HSn HRv HOE hoo h1;go_wp2_with fail;refine HCl.out.mono ?_
   intro r w4 hp;rw[←HO.out] at hp;unfold V0 at hp;cases o with
   | none =>
    obtain⟨rfl,h2⟩:=hp;have H2:=Qq h2;clear h2 HD HCl HO;go_wp2;go_ret;exact⟨rfl,H2.out⟩
   | some m =>
    obtain⟨Wm,rm,tm⟩:=m;cases tm with
    | none =>
     obtain⟨rfl,h2⟩:=hp;have H2:=Qq h2;clear h2 HD HCl HO;go_wp2;go_ret;exact⟨rfl,H2.out⟩
    | some k =>
     obtain⟨rfl,h2⟩:=hp;have H2:=Qq h2;clear h2 HD HCl HO;unfold WA;go_wp2;exact⟨rfl,rfl,H2.out⟩
def Hc (p:Nat)(W:Wd)(D:Wa)(T:List Value):List zv :=
 [ze p (yH W D++T),Xq D.fa D.fr W.fs D.ca W.ks,zd 2 D.aa D.ac W.gs.length (YB D.sk W.gs),yD (YT D.sk W.gs),zd 1 D.la D.lc W.Ls.length (W8 D.lp),yD (SO D.lp W.Ls),xv D.sv W.hp,zd 1 D.oa D.oc W.out.length (zt W.out)]
theorem S5 {w0 w:World}{p:Nat}{W:Wd}{D:Wa}{T:List Value}{Y:List zv}(h:Own w0 w (zj p W D T++Y))(hf:D.fits W) :
  Own w0 w (YD (List.zip D.ps W.Ns) W.Cs++zd 1 D.ha D.hc W.Cs.length (xT (List.zip D.ps W.Ns))::(Hc p W D T++Y)) ∧
   ∀w' Cs',Cs'.length=W.Cs.length→Own w0 w' (YD (List.zip D.ps W.Ns) Cs'++zd 1 D.ha D.hc W.Cs.length (xT (List.zip D.ps W.Ns))::(Hc p W D T++Y))→Own w0 w' (zj p { W with Cs:=Cs' } D T++Y)∧D.fits { W with Cs:=Cs' }:=by
 have h1:=((h.pick 5 rfl).pick 5 rfl).pick 1 rfl
 refine⟨h1.FL,fun w' Cs' hl h'=>⟨?_,⟨hf.f,hf.g,by simp[hf.c,hl],by simp[hf.n,hl],hf.l,hf.k⟩⟩⟩
 have h2:=(((((Own.Qz h').pick 1 rfl).pick 5 rfl).pick 5 rfl).pick 5 rfl).pick 5 rfl
 simp only[zj,yH,hl];exact h2
theorem PL {w:World}{s cap:Nat}{G:Gt}(h:zQ w s G.n cap G.z)(hn:1≤G.n):zr w (some ⟨s,(G.n-1)*11+2,none⟩) (zt G.yU)∧G.yU.length=8:=by
 have hl:G.yU.length=8:=by unfold Gt.yU Gt.o;rw[List.length_take,List.length_drop,h.len];omega
 refine⟨fun j v hj=>⟨s,_,rfl,?_⟩,hl⟩
 rw[xK] at hj;unfold Gt.yU Gt.o at hj;rw[List.getElem?_take] at hj
 split at hj
 ·rw[List.getElem?_drop] at hj
  exact(h.zY _ _ (by rw[xK];exact hj)).1
 ·cases hj
theorem Xw (g:Int)(yU:List Int):∀(l:List Zm) (i:Nat) (Cs:List Ch),(wasF g yU i l Cs).length=Cs.length
 | [],i,Cs=>rfl
 | k::t,i,Cs=>by unfold wasF;rw[Xw g yU t,JD]
structure WS (W:Wd) (x:yq):Prop where
 ix:QN W x
 k:W.ks.length≤1000
 c:Ua W.Cs.length (W.yK x)
 lim:∃B,RI B W.Cs∧B≤90000
 cl:W.Cs.length≤1000
theorem TF {w0 w:World}{p:Nat}{T:List Value}{d:Dq}{W:Wd}{rd:List Int}{R:List zv}(h:yL w0 w p T d W rd R)(hg:d.g<W.gs.length)(hm:1≤(W.g d.g).n∧(W.g d.g).n≤16)(ok:WS W d.x) :
  Calls Tryz.prog 159 #[.pointer (some ⟨d.q,0,none⟩)] w fun r w'=>r=.returned (.tuple #[])∧yL w0 w' p T d (Wr W d.g d.x) rd R:=by
 obtain⟨D,ra,rc,hf,h⟩:=h;obtain⟨hx,hk,hco,⟨B,hB,hB2⟩,hcl⟩:=ok;obtain⟨s,cap,hs⟩:=hf.Yh hg;obtain⟨m,hmm⟩:∃m,m=(W.g d.g).n-1:=⟨_,rfl⟩
 have SB:∀(W':Wd) (wx:World) (Z:List zv),W'.Cs.length=W.Cs.length→Own w0 wx (zj p W' D T++(ze d.q (yp p (d.g:Int) d.x d.th d.dr d.go ra rd.length rc)::Z)) →
   wx.cell? ⟨d.q,0,none⟩=some (.pointer (some ⟨p,0,none⟩))∧wx.cell? ⟨d.q,1,none⟩=some (.int .i64 (d.g:Int))∧wx.cell? ⟨d.q,2,none⟩=some (.int .i64 d.x.1)∧wx.cell? ⟨d.q,3,none⟩=some (.int .i64 d.x.2.1)∧wx.cell? ⟨d.q,4,none⟩=some (.int .i64 d.x.2.2.1)∧wx.cell? ⟨d.q,5,none⟩=some (.int .i64 d.x.2.2.2)∧wx.cell? ⟨p,3,none⟩=some (.slice D.ha W.Cs.length D.hc):=by
  intro W' wx Z hcs ho;have hc:=ho.zi 10 rfl;have h3:=(ho.zi 0 rfl 3 _ rfl).1
  rw[hcs] at h3;exact⟨(hc 0 _ rfl).1,(hc 1 _ rfl).1,(hc 2 _ rfl).1,(hc 3 _ rfl).1,(hc 4 _ rfl).1,(hc 5 _ rfl).1,h3⟩
 have HSB:=Qq (SB W · · rfl)
 have HSB2:=Qq (SB { W with Cs:=wasF (d.g:Int) (W.g d.g).yU 0 (W.yK d.x) W.Cs } · · (Xw _ _ _ _ _))
 have HCa:=Qq (fun wx Y (ho:Own w0 wx (zj p W D T++Y))=>ZU ho hf d.x hx hk)
 have HTop:Hid (∀(wx:World) (Z:List zv),Own w0 wx (zj p W D T++(ze d.q (yp p (d.g:Int) d.x d.th d.dr d.go ra rd.length rc)::Z)) →
   Calls Tryz.prog 118 #[.pointer (some ⟨d.q,0,none⟩)] wx fun r w'=>r=.returned (.pointer (some ⟨s,m*11,none⟩))∧∃k,w'=wx.drewN k):=Qq (fun wx Z hx=>by
  rw[hmm];exact VG hx (hx.zi 10 rfl) hg hs hm)
 have HWt:Hid (∀(wx:World) (a:Option Addr) (c:Nat) (Z:zv) (Y:List zv),SG D W d.x a Z→Own w0 wx (zj p W D T++(Z::Y))→(W.yK d.x).length≤1000 →
   Calls Tryz.prog 171 #[.int .i64 (d.g:Int),.slice a (W.yK d.x).length c,.slice (some ⟨s,m*11+2,none⟩) 8 8,.slice D.ha W.Cs.length D.hc] wx fun r w'=>r=.returned (.tuple #[])∧Own w0 w' (zj p { W with Cs:=wasF (d.g:Int) (W.g d.g).yU 0 (W.yK d.x) W.Cs } D T++(Z::Y))∧D.fits { W with Cs:=wasF (d.g:Int) (W.g d.g).yU 0 (W.yK d.x) W.Cs }):=Qq (fun wx a c Z Y hP ho hcl2=>by
  obtain⟨o1,o2⟩:=S5 ho hf;have hpl:W.Cs.length=(List.zip D.ps W.Ns).length:=by rw[List.length_zip,hf.c,hf.n];omega
  have hr8:=(PL (YY ho hg hs).1 hm.1).2
  refine(ML o1 hpl (by rw[hpl]) (d.g:Int) a (W.yK d.x).length c (W.yK d.x) (some ⟨s,m*11+2,none⟩) 8 8 (W.g d.g).yU (fun w' Cs' h'=>?_) rfl hcl2 hr8 rfl hco B hB hB2).mono (fun r w' hh=>⟨hh.1,o2 w' _ (Xw _ _ _ _ _) hh.2⟩)
  have h2:=h'.Zj;refine⟨hP.cells h2 2 9 rfl rfl,?_⟩
  have h3:=(h2.pick 4 rfl).XC (Yj hs (Wd.WW hg))
  obtain⟨F,⟨-,h4⟩,-⟩:=h3;rw[hmm];exact(PL h4 hm.1).1)
 have H:=Qq h;have HF:=Qq hf;have HG:=Qq hg;have HM:=Qq hm;have HMM:=Qq hmm;obtain⟨NC,hNC⟩:∃NC,NC=W.Cs.length:=⟨_,rfl⟩
 rw[←hNC] at HSB HSB2 HWt;clear h hf hx hk hco hB hB2 hcl hs SB hg hm hmm hNC;go_enter Tryz.func159,Tryz.ntmps159
 go_upto_region 0 with fail
 have o1:=H.out.step (zg w)
 refine zV (fun wx=>wx.cell? ⟨d.q,0,none⟩=some (.pointer (some ⟨p,0,none⟩))∧wx.cell? ⟨d.q,1,none⟩=some (.int .i64 (d.g:Int))∧wx.cell? ⟨d.q,2,none⟩=some (.int .i64 d.x.1)∧wx.cell? ⟨d.q,3,none⟩=some (.int .i64 d.x.2.1)∧wx.cell? ⟨d.q,4,none⟩=some (.int .i64 d.x.2.2.1)∧wx.cell? ⟨d.q,5,none⟩=some (.int .i64 d.x.2.2.2)∧wx.cell? ⟨p,3,none⟩=some (.slice D.ha NC D.hc)) 26 (Array.replicate 26 false) (by kernel_rfl) (by kernel_rfl) ?_
 refine zm 0 12 _ (Qj 26 4095) 14 (by kernel_rfl) za (HSB.out _ _ o1) (by kernel_rfl) ?_
 simp only[QX,QV,QJ];(repeat((first|refine Qx (h:=?_)|refine Qv (h:=?_));simp only[Act.put,QW,QY,QZ]));refine zb ?_;refine zm 13 1 _ (Qj 26 12287) 13 (by kernel_rfl) za (HSB.out _ _ o1) (by kernel_rfl) ?_
 simp only[QX,QV,QQ,QJ];(repeat((first|refine Qx (h:=?_)|refine Qv (h:=?_));simp only[Act.put,QW,QY,QZ]));refine zb ?_;refine zm 18 7 _ (Qj 26 33304575) 6 (by kernel_rfl) za (HSB.out _ _ o1) (by kernel_rfl) ?_
 simp only[QX,QV,QQ,QJ];(repeat((first|refine Qx (h:=?_)|refine Qv (h:=?_));simp only[Act.put,QW,QY,QZ]));refine zb ?_;refine zh 12 _ (Qj 26 33308671) 5 (by kernel_rfl) (fun K hK=>?_)
 have HKK:=Qq hK;clear hK;simp only[QQ,QJ];refine zc (by rfl) ?_;go_simp;refine(HCa.out _ _ o1).mono ?_
 rintro r w3 ⟨a,ca,Z,rfl,hP,hl,o3,-⟩
 refine HKK.out _ _ (HSB.out _ _ o3.drop) ?_
 clear HKK K;refine zh 14 _ (Qj 26 33325055) 4 (by kernel_rfl) (fun K hK=>?_)
 have HKK:=Qq hK;clear hK;simp only[QQ,QJ];refine zc (by rfl) ?_;go_simp;refine(HTop.out _ _ o3.drop).mono ?_
 rintro r w4 ⟨rfl,k4,hw4⟩;have o4:=o3.q1 hw4;clear hw4;refine HKK.out _ _ (HSB.out _ _ o4.drop) ?_
 clear HKK K;refine zm 15 3 _ (Qj 26 33554431) 1 (by kernel_rfl) za (HSB.out _ _ o4.drop) (by kernel_rfl) ?_
 simp only[QX,QV,QQ,QJ];(repeat((first|refine Qx (h:=?_)|refine Qv (h:=?_));simp only[Act.put,QW,QY,QZ]));refine zb ?_;refine zh 25 _ (Qj 26 67108863) 0 (by kernel_rfl) (fun K hK=>?_)
 have HKK:=Qq hK;clear hK;simp only[QQ,QJ];refine zc (by rfl) ?_;go_simp;refine(HWt.out _ _ _ _ _ hP o4.X5 hl).mono ?_
 rintro r w5 ⟨rfl,o5,hf5⟩;refine HKK.out _ _ (HSB2.out _ _ o5.yC.drop) ?_
 clear HKK K;refine wpAnyH_done (by kernel_rfl) (NoPanic.normal ?_) _
 have HWe:Hid (Wr W d.g d.x=({ W with Cs:=wasF (d.g:Int) (W.g d.g).yU 0 (W.yK d.x) W.Cs }:Wd).zU d.g 2):=Qq rfl
 have o6:=o5.yC.drop;have hg5:d.g<({ W with Cs:=wasF (d.g:Int) (W.g d.g).yU 0 (W.yK d.x) W.Cs }:Wd).gs.length:=HG.out
 have hm5:1≤(({ W with Cs:=wasF (d.g:Int) (W.g d.g).yU 0 (W.yK d.x) W.Cs }:Wd).g d.g).n∧(({ W with Cs:=wasF (d.g:Int) (W.g d.g).yU 0 (W.yK d.x) W.Cs }:Wd).g d.g).n≤16:=HM.out
 generalize ({ W with Cs:=wasF (d.g:Int) (W.g d.g).yU 0 (W.yK d.x) W.Cs }:Wd)=W5 at *
 obtain⟨b,off,s',cap',F⟩:=ZB hf5 o6 hg5 hm5;have HMe:=Qq (F.FI 0)
 have HP:Hid (∀w2 k,w2=(w5.drewN 0).drewN k→yL w0 (w2.setCell ⟨b,off+d.g*2,none⟩ (.int .i64 2)) p T d (W5.zU d.g 2) rd R):=Qq (fun w2 k e=>⟨D,ra,rc,hf5.ye _ _,Ve (o6.q2 e) hf5 hg5 F.aa 2⟩)
 obtain⟨c0,c1⟩:=F.st;clear F o1 o3 o4 o5 o6 hf5 hP HWt HTop HCa HSB HSB2 hg5 hm5 H HF HG HM HMM;go_wp2_with fail;refine(HMe.out).mono ?_
 rintro r w6 ⟨rfl,k,hw6⟩;have HF:=Qq (HP.out _ _ hw6)
 have c0':w6.cell? ⟨b,off+d.g*2,none⟩=some (.int .i64 ((W5.g d.g).st)):=by rw[hw6];exact c0
 have c1':w6.frozen? ⟨b,off+d.g*2,none⟩=false:=by rw[hw6];exact c1
 clear hw6 HP HMe c0 c1;go_wp2;go_end0
 rw[HWe.out];exact⟨rfl,HF.out⟩
theorem Vv:∀(l:List Wt) (W:Wd) (rd:List Int) (x:Wt),goOnsM W rd (l++[x])=goOnM (goOnsM W rd l).1 (goOnsM W rd l).2 x false
 | [],W,rd,x=>rfl
 | y::l,W,rd,x=>by
  show goOnsM (goOnM W rd y false).1 (goOnM W rd y false).2 (l++[x])=_
  rw[Vv l];rfl
theorem Nr (W:Wd)(rd:List Int)(x:Wt)(s:Bool):(goOnM W rd x s).2.length≤rd.length+1:=by
 unfold goOnM;simp only
 split
 ·split<;>simp
 ·simp
theorem UB:∀(l:List Wt) (W:Wd) (rd:List Int),(goOnsM W rd l).2.length≤rd.length+l.length
 | [],W,rd=>by simp[goOnsM]
 | y::l,W,rd=>by
  have h1:=UB l (goOnM W rd y false).1 (goOnM W rd y false).2
  have h2:=Nr W rd y false;unfold goOnsM;simp only[List.length_cons];omega
theorem Mw {w0 w:World}{p:Nat}{W:Wd}{D:Wa}{T:List Value}{R:List zv}(h:Own w0 w (zj p W D T++R))(hf:D.fits W){i:Nat}(hi:i<W.Cs.length) :
  ∃pt b off Rc,D.ps[i]?=some pt∧D.ha=some ⟨b,off,none⟩∧w.cell? ⟨b,off+i,none⟩=some (.pointer (some ⟨pt,0,none⟩))∧Own w0 w (yv pt (W.Ns.getD i 0) (W.ch (i:Int))::(Rc++R)) ∧
   ∀w' C' R',Own w0 w' (yv pt (W.Ns.getD i 0) C'::(Rc++R'))→Own w0 w' (zj p (W.zW (i:Int) C') D T++R')∧D.fits (W.zW (i:Int) C'):=by
 have hlp:i<D.ps.length:=by rw[hf.c];exact hi
 have hln:i<W.Ns.length:=by rw[hf.n];exact hi
 have hz:(List.zip D.ps W.Ns)[i]?=some (D.ps[i],W.Ns.getD i 0):=WI (List.getElem?_eq_getElem hlp) (by rw[List.getD_eq_getElem?_getD,List.getElem?_eq_getElem hln];rfl)
 obtain⟨b,off,h1,h2⟩:=(h.xl 4 rfl).cells i _ (TT _ i _ hz)
 obtain⟨R'',k1,k2⟩:=(h.pick 5 rfl).ZT (T3 hz (Wd.U9 hi))
 refine⟨D.ps[i],b,off,R''++[ze p (yH W D++T),Xq D.fa D.fr W.fs D.ca W.ks,zd 2 D.aa D.ac W.gs.length (YB D.sk W.gs),yD (YT D.sk W.gs),zd 1 D.ha D.hc W.Cs.length (xT (List.zip D.ps W.Ns)),
  zd 1 D.la D.lc W.Ls.length (W8 D.lp),yD (SO D.lp W.Ls),xv D.sv W.hp,zd 1 D.oa D.oc W.out.length (zt W.out)],List.getElem?_eq_getElem hlp,h1,h2,by rw[List.append_assoc];exact k1,fun w' C' R' h'=>⟨?_,⟨hf.f,hf.g,by simp[hf.c,Wd.zW],by simp[hf.n,Wd.zW],hf.l,hf.k⟩⟩⟩
 rw[List.append_assoc] at h'
 have h3:=k2 w' _ _ h';rw[T8 C' hz hi] at h3
 have h4:=((((h3.pick 5 rfl).pick 5 rfl).pick 5 rfl).pick 5 rfl).pick 5 rfl
 have e:zj p (W.zW (i:Int) C') D T++R'=(zj p W D T++R').set 5 (yD (YD (List.zip D.ps W.Ns) (W.Cs.set i C'))):=by
  simp only[zj,yH,List.length_set,Wd.zW,Int.toNat_natCast];rfl
 rw[e];exact h4
theorem yL.less {w0 w:World}{p:Nat}{T:List Value}{d:Dq}{W:Wd}{rd:List Int}{A:zv}{R:List zv}(h:yL w0 w p T d W rd (A::R)):yL w0 w p T d W rd R:=by
 obtain⟨D,ra,rc,hf,h⟩:=h;exact⟨D,ra,rc,hf,(h.pick 12 rfl).drop⟩
structure TN (W:Wd) (x:yq):Prop where
 c0:0≤x.2.1∧x.2.1<(W.Cs.length:Int)
 cl:W.Cs.length≤1000
 n:(W.ch x.2.1).R.length≤100000
 go:(W.ch x.2.1).cl=false→(W.ch x.2.1).S=[]→∀i (h:i<(W.ch x.2.1).R.length),Li (goOnsM (W.zW x.2.1 ⟨(W.ch x.2.1).buf,[],[],true⟩) [] ((W.ch x.2.1).R.take i)).1 (W.ch x.2.1).R[i]
theorem Pc {w0 w:World}{p:Nat}{T:List Value}{d:Dq}{W:Wd}{R:List zv}(h:yL w0 w p T d W [] R)(ok:TN W d.x) :
  Calls Tryz.prog 135 #[.pointer (some ⟨d.q,0,none⟩)] w fun r w'=>ZQ w0 p T d R (ZN W [] d.x) r w':=by
 have H0:=Qq h;obtain⟨D,ra,rc,hf,h⟩:=h;obtain⟨hc0,hcl,hn,hgo⟩:=ok;obtain⟨i,hI,hi8⟩:=yN (n:=W.Cs.length) hc0
 rw[hI] at hn hgo;obtain⟨pt,hb,ho,Rc,hpt,hha,hp,h3,h4⟩:=Mw h hf hi8;have q0:=(h.zi 10 rfl 0 _ rfl).1
 have q3:=(h.zi 10 rfl 3 _ rfl).1
 have p3:=(h.zi 0 rfl 3 _ rfl).1
 rw[hha] at p3;rw[hI] at q3;have i0:(0:Int)≤(i:Int):=by omega
 have i8:(i:Int)<(W.Cs.length:Int):=by omega
 have e:ZN W [] d.x=(if(W.ch (i:Int)).cl then⟨W,[],some (-2)⟩ else if(W.ch (i:Int)).S=[] then⟨(goOnsM (W.zW (i:Int) ⟨(W.ch (i:Int)).buf,[],[],true⟩) [] (W.ch (i:Int)).R).1,(goOnsM (W.zW (i:Int) ⟨(W.ch (i:Int)).buf,[],[],true⟩) [] (W.ch (i:Int)).R).2,none⟩ else⟨W.zW (i:Int) ⟨(W.ch (i:Int)).buf,[],[],true⟩,[],some (-1)⟩):=by
  unfold ZN;rw[hI]
 rw[e];have hsame:=X4 W i hi8;generalize W.Cs.length=NC at *;generalize W.Ns.getD i 0=N at *;generalize hC:W.ch (i:Int)=C at *
 obtain⟨buf,S,Rv,cl⟩:=C;simp only at *
 have HI:=Qq hI;have HF:=Qq hf;cases cl with
 | true =>
  rw[if_pos rfl];have HC:Hid (∀j,Calls Tryz.prog 160 #[.pointer (some ⟨pt,0,none⟩)] (w.drewN j) fun r w'=>r=.returned (.tuple #[.slice none 0 0,.slice none 0 0,.int .i64 10])∧w.drewN j=w'):=Qq (fun j=>RM (h3.step (zx w j)))
  clear h h3 h4 hpt hha hf hgo hn hcl hc0 hsame hC e hi8 hI;go_enter Tryz.func135,Tryz.ntmps135
  go_upto_region 0 with fail
  refine zk (fun wx=>∃nq,wx=World.drewN (w) nq) 14 8 (Array.replicate 22 false) (Qj 22 16383) (by kernel_rfl) (by kernel_rfl) ?_
  refine zf 0 14 _ (Qj 22 16383) 0 (by kernel_rfl) za (zE w) (by kernel_rfl) ?_
  simp only[QX,QV,QJ];(repeat((first|refine Qx (h:=?_)|refine Qw (h:=?_));simp only[Act.put,QW,QY,QZ]));refine zb ?_;refine zo ?_;refine yA (fun _=>True) 8 0 (Qj 22 4194303) ?_
  refine zA 14 _ (Qj 22 32767) 7 (by kernel_rfl) (fun K hK=>?_)
  have HKK:=Qq hK;clear hK;simp only[QQ,QJ];refine zc (by rfl) ?_;go_simp;refine(HC.out 1).mono ?_
  rintro r w3 ⟨rfl,rfl⟩;refine HKK.out _ _ (trivial) ?_
  clear HKK K;refine zf 15 7 _ (Qj 22 4194303) 0 (by kernel_rfl) za (trivial) (by kernel_rfl) ?_
  simp only[QX,QV,QQ,QJ];(repeat((first|refine Qx (h:=?_)|refine Qv (h:=?_));simp only[Act.put,QW,QY,QZ]));refine zb ?_;refine zo ?_;refine zD (by kernel_rfl) (NoPanic.normal ?_)
  go_wp2;exact⟨rfl,rfl,H0.out.step (zx w 1)⟩
 | false =>
  rw[if_neg (by simp)]
  obtain⟨W1,hW1⟩:∃W1,W1=W.zW (i:Int) ⟨buf,[],[],true⟩:=⟨_,rfl⟩
  rw[←hW1] at hgo ⊢;have HC:Hid (∀j,Calls Tryz.prog 160 #[.pointer (some ⟨pt,0,none⟩)] (w.drewN j) fun r w'=>∃a ac sa sc,r=.returned (.tuple #[.slice a Rv.length ac,.slice sa S.length sc,.int .i64 0]) ∧
    yL w0 w' p T d W1 [] (zd 3 a ac Rv.length (xf Rv)::R)):=Qq (fun j=>(Qc (h3.step (zx w j))).mono (fun r w' ⟨a,ac,sa,sc,h1,h2⟩=>by
   refine⟨a,ac,sa,sc,h1,?_⟩
   have h5:Own w0 w' (zd 3 a ac Rv.length (xf Rv)::([yv pt N ⟨buf,[],[],true⟩]++Rc++[ze d.q (yp p (d.g:Int) d.x d.th d.dr d.go ra 0 rc),zd 1 ra rc 0 (zt [])])++R):=by
    have:=((h2.pick 2 rfl).drop).pick 1 rfl
    simpa [List.append_assoc] using this
   have h6:=Own.X5 (L:=[yv pt N ⟨buf,[],[],true⟩]++Rc++[ze d.q (yp p (d.g:Int) d.x d.th d.dr d.go ra 0 rc),zd 1 ra rc 0 (zt [])]) (Y:=R) h5
   have h7:=h4 w' ⟨buf,[],[],true⟩ (ze d.q (yp p (d.g:Int) d.x d.th d.dr d.go ra 0 rc)::zd 1 ra rc 0 (zt [])::zd 3 a ac Rv.length (xf Rv)::R) (by simpa [List.append_assoc] using h6)
   exact⟨D,ra,rc,by rw[hW1];exact h7.2,by rw[hW1];exact h7.1⟩))
  clear h h3 h4 hpt hha hf hc0 hsame hC e hi8 hI hW1;cases S with
  | cons x t =>
   rw[if_neg (by simp)]
   have hp1:(0:Int)<((t.length+1:Nat):Int):=by omega
   have hp2:0<t.length+1:=by omega
   simp only[List.length_cons] at HC;clear hgo hn;go_enter Tryz.func135,Tryz.ntmps135
   go_upto_region 0 with fail
   refine zk (fun wx=>∃nq,wx=World.drewN (w) nq) 14 8 (Array.replicate 22 false) (Qj 22 16383) (by kernel_rfl) (by kernel_rfl) ?_
   refine zf 0 14 _ (Qj 22 16383) 0 (by kernel_rfl) za (zE w) (by kernel_rfl) ?_
   simp only[QX,QV,QJ];(repeat((first|refine Qx (h:=?_)|refine Qw (h:=?_));simp only[Act.put,QW,QY,QZ]));refine zb ?_;refine zo ?_;refine yA (fun _=>True) 8 0 (Qj 22 4194303) ?_
   refine zA 14 _ (Qj 22 32767) 7 (by kernel_rfl) (fun K hK=>?_)
   have HKK:=Qq hK;clear hK;simp only[QQ,QJ];refine zc (by rfl) ?_;go_simp;refine(HC.out 1).mono ?_
   rintro r w3 ⟨a,ac,sa,sc,rfl,h3⟩;have H3:=Qq h3;clear h3;refine HKK.out _ _ (trivial) ?_
   clear HKK K;refine zf 15 7 _ (Qj 22 4194303) 0 (by kernel_rfl) za (trivial) (by kernel_rfl) ?_
   simp only[QX,QV,QQ,QJ];(repeat((first|refine Qx (h:=?_)|refine Qv (h:=?_));simp only[Act.put,QW,QY,QZ]));refine zb ?_;refine zo ?_;refine zD (by kernel_rfl) (NoPanic.normal ?_)
   go_wp2;exact⟨rfl,rfl,H3.out.less⟩
  | nil =>
   rw[if_pos rfl];have HGo:=Qq (hgo rfl rfl)
   have HN:=Qq hn;obtain⟨n,hnn⟩:∃n,n=Rv.length:=⟨_,rfl⟩
   have HNN:=Qq hnn;simp only[List.length_nil] at HC;rw[←hnn] at HC hn;clear hgo hnn;go_enter Tryz.func135,Tryz.ntmps135
   go_upto_region 0 with fail
   refine zk (fun wx=>∃nq,wx=World.drewN (w) nq) 14 8 (Array.replicate 22 false) (Qj 22 16383) (by kernel_rfl) (by kernel_rfl) ?_
   refine zf 0 14 _ (Qj 22 16383) 0 (by kernel_rfl) za (zE w) (by kernel_rfl) ?_
   simp only[QX,QV,QJ];(repeat((first|refine Qx (h:=?_)|refine Qw (h:=?_));simp only[Act.put,QW,QY,QZ]));refine zb ?_;refine zo ?_;refine yA (fun _=>True) 8 0 (Qj 22 4194303) ?_
   refine zA 14 _ (Qj 22 32767) 7 (by kernel_rfl) (fun K hK=>?_)
   have HKK:=Qq hK;clear hK;simp only[QQ,QJ];refine zc (by rfl) ?_;go_simp;refine(HC.out 1).mono ?_
   rintro r w3 ⟨a,ac,sa,sc,rfl,h3⟩;have H3:=Qq h3;clear h3;refine HKK.out _ _ (trivial) ?_
   clear HKK K;refine zf 15 7 _ (Qj 22 4194303) 0 (by kernel_rfl) za (trivial) (by kernel_rfl) ?_
   simp only[QX,QV,QQ,QJ];(repeat((first|refine Qx (h:=?_)|refine Qv (h:=?_));simp only[Act.put,QW,QY,QZ]));refine zb ?_;refine zo ?_;refine zD (by kernel_rfl) (NoPanic.normal ?_)
   go_wp2_with fail;go_loopw [35] (fun s wr=>∃j:Nat,j≤n∧s=.int .i64 j∧Hid (yL w0 wr p T d (goOnsM W1 [] (Rv.take j)).1 (goOnsM W1 [] (Rv.take j)).2 (zd 3 a ac n (xf Rv)::R))) (fun s _=>n-(intOf s).toNat)
   case atStart=>exact⟨0,by omega,rfl,H3⟩
   case round =>
    obtain⟨j,hj,rfl,hr⟩:=hrel;by_cases hlt:j<n
    ·have hli:(j:Int)<(n:Int):=by omega
     have hj2:j<Rv.length:=by rw[←HNN.out];exact hlt
     have hok:=HGo.out j hj2;have htk:Rv.take (j+1)=Rv.take j++[Rv[j]]:=by rw[List.take_succ_eq_append_getElem hj2]
     have hrl:(goOnsM W1 [] (Rv.take j)).2.length≤1000000:=by
      have:=UB (Rv.take j) W1 []
      have:=HN.out
      simp at *
      omega
     have hst:goOnsM W1 [] (Rv.take (j+1))=goOnM (goOnsM W1 [] (Rv.take j)).1 (goOnsM W1 [] (Rv.take j)).2 Rv[j] false:=by rw[htk,Vv]
     have HST:=Qq hst;obtain⟨D,ra,rc,hfD,hr2⟩:=hr.out;obtain⟨cb,co,rfl,y0,y1,y2⟩:=zr.wt (hr2.xl 12 rfl).cells j hj2
     generalize hx:Rv[j]=x at *
     obtain⟨x1,x2,x3⟩:=x;have ho:=(hr2.alloc [.int .i64 x1,.int .i64 x2,.int .i64 x3] 270 (b:=wr.heap.size) rfl)
     have z0:=(ho.zi 0 rfl 0 _ rfl).1
     have z1:=(ho.zi 0 rfl 1 _ rfl).1
     have z2:=(ho.zi 0 rfl 2 _ rfl).1
     have HGc:=Qq (TM (show yL w0 _ p T d _ _ _ from⟨D,ra,rc,hfD,ho.drop⟩) (x1,x2,x3) false hok hrl)
     unfold wv at HGc;simp only at HGc y0 y1 y2
     clear hr hr2 ho hok htk hrl hst hfD hx hj2;go_wp2_with fail;refine HGc.out.mono ?_
     rintro r w5 ⟨rfl,h5⟩;rw[←HST.out] at h5;have H5:=Qq h5;clear h5 HST HGc;go_wp2;exact⟨⟨j+1,by omega,by go_num,H5⟩,by simp[intOf];omega⟩
    ·have hge:¬(j:Int)<(n:Int):=by omega
     have htk:Rv.take j=Rv:=List.take_of_length_le (by rw[←HNN.out];omega)
     rw[htk] at hr;clear htk;go_wp2;go_end0
     exact⟨rfl,hr.out.less⟩
section
variable {P:Program} {Q:Exit→Act→World→Prop} {S:World→Prop}
theorem xY {id:Nat}{a:Act}{w:World}{l:List Oper}(S:World→Prop)(fuel:Nat)(listed:Array Bool)(hm:P.follows .mixedOrders=true)(hB:(decide (l.length=fuel)&&(Array.replicate l.length false==listed))=true)
  (h:wpAnyH P .any l.toArray Q S fuel listed a w.drew):(Code.region id l.toArray true).wp P Q a w:=by
 simp only[Bool.and_eq_true,decide_eq_true_eq,beq_iff_eq] at hB;obtain⟨rfl,rfl⟩:=hB;exact wp_region_held hm (by simpa using h)
theorem Xn {K:Act→World→Prop}{fn:Func}{R:Ending→World→Prop}(d:Option Tmp)(v:Value)(c:_)(a:Act)(w:World):Exit.then K (bodyPost P fn R) (.panic c) (a.put d v) w→Exit.then K (bodyPost P fn R) (.panic c) a w:=by
 cases d<;>exact fun h=>h
end
end Go.Proofs.YtlkjheheofgdgaaGreat
open Go Go.RowKit
namespace Go.Proofs.YtlkjheheofgdgaaGreat
def Dq.ask (d:Dq)(v:Int)(g:Bool):Dq:={ d with dr:=v,go:=g }
theorem GS {w0 w:World}{p:Nat}{T:List Value}{d:Dq}{W:Wd}{rd:List Int}{R:List zv}(h:yL w0 w p T d W rd R)(draw:Value)(h1:d.x.1≠21)(h2:d.x.1≠16) :
  Calls Tryz.prog 99 #[.pointer (some ⟨d.q,0,none⟩),draw] w fun r w'=>r=.returned (.tuple #[])∧w'=w:=by
 obtain⟨D,ra,rc,hf,h⟩:=h;have q2:=(h.zi 10 rfl 2 _ rfl).1
 have b1:(d.x.1==21)=false:=by simpa using h1
 have b2:(d.x.1==16)=false:=by simpa using h2
 generalize d.x.1=op at *;clear h hf h1 h2;go_enter Tryz.func99,Tryz.ntmps99
 go_wp2;go_end0
 exact⟨rfl,rfl⟩
theorem I6 (ps:List Nat)(Ns:List Nat)(Cs:List Ch)(h:ps.length=Cs.length)(hN:Ns.length=Cs.length)(k:Zm):goesB (List.zip ps Ns) Cs k=goesN Ns Cs k:=by
 unfold goesB goesN;cases hC:Cs[k.2.1.toNat]? with
 | none=>rfl
 | some C =>
  have hi:=(List.getElem?_eq_some_iff.1 hC).1
  have hp:(List.zip ps Ns)[k.2.1.toNat]?=some (ps[k.2.1.toNat]'(by omega),Ns[k.2.1.toNat]'(by omega)):=WI (List.getElem?_eq_getElem _) (List.getElem?_eq_getElem _)
  rw[hp,List.getElem?_eq_getElem (show k.2.1.toNat<Ns.length by omega)]
theorem Tu (f g:Zm→Bool)(h:∀k,f k=g k):∀(l:List Zm) (i:Nat),enF f i l=enF g i l
 | [],i=>rfl
 | k::t,i=>by unfold enF;rw[h k,Tu f g h t]
def Xm (w0:World)(p:Nat)(T:List Value)(W:Wd)(F:Nat)(fst cap:Array Value)(kind n:Int)(R:List zv)(Qd:Int→List zv→Prop)(Qp:Ending→List zv→Prop):Prop :=
 ∀(Z:List zv) (d:Dq) (w':World),yL w0 w' p T d W [] (Z++R)→Calls Tryz.prog F (fst++(#[.int .i64 kind,.int .i64 n]++cap)) w' fun r w'' =>
  (∃v R',r=.returned (.int .i64 v)∧Qd v R'∧yL w0 w'' p T d W [] (Z++R'))∨(∃chain R',r=.panicked chain∧Qp r R'∧yL w0 w'' p T d W [] (Z++R'))
def T4 (w0:World)(p:Nat)(T:List Value)(d:Dq)(W:Wd)(Qd:Int→List zv→Prop)(Qp:Ending→List zv→Prop)(r:Ending)(w':World):Prop :=
 (∃v R',r=.returned (.tuple #[])∧Qd v R'∧yL w0 w' p T (d.ask (xP W d.x v).1 (xP W d.x v).2) W [] R')∨(∃chain R',r=.panicked chain∧Qp r R'∧yL w0 w' p T d W [] R')
theorem yL.M8 {w0 w:World}{p:Nat}{T:List Value}{d:Dq}{W:Wd}{rd:List Int}{R:List zv}(h:yL w0 w p T d W rd R)(v:Int):(∃x,w.cell? ⟨d.q,7,none⟩=some x)∧w.frozen? ⟨d.q,7,none⟩=false∧yL w0 (w.setCell ⟨d.q,7,none⟩ (.int .i64 v)) p T (d.ask v d.go) W rd R:=by
 obtain⟨D,ra,rc,hf,h⟩:=h;obtain⟨x0,x1⟩:=h.zi 10 rfl 7 _ rfl;exact⟨⟨_,x0⟩,x1,D,ra,rc,hf,h.setAt 10 rfl 7 (.int .i64 v)⟩
theorem yL.Hq {w0 w:World}{p:Nat}{T:List Value}{d:Dq}{W:Wd}{rd:List Int}{R:List zv}(h:yL w0 w p T d W rd R)(v:Bool):(∃x,w.cell? ⟨d.q,8,none⟩=some x)∧w.frozen? ⟨d.q,8,none⟩=false∧yL w0 (w.setCell ⟨d.q,8,none⟩ (.bool v)) p T (d.ask d.dr v) W rd R:=by
 obtain⟨D,ra,rc,hf,h⟩:=h;obtain⟨x0,x1⟩:=h.zi 10 rfl 8 _ rfl;exact⟨⟨_,x0⟩,x1,D,ra,rc,hf,h.setAt 10 rfl 8 (.bool v)⟩
theorem LY {w0 w:World}{p:Nat}{T:List Value}{d:Dq}{W:Wd}{R:List zv}{F:Nat}{fst cap:Array Value}{Qd:Int→List zv→Prop}{Qp:Ending→List zv→Prop}(h:yL w0 w p T d W [] R)(h1:d.x.1=21)(hgo:d.go=false)(hB:1≤d.x.2.2.1∧d.x.2.2.1<9223372036854775808)
  (en:∀(args:Array Value) (w:World),(callFunc F args).run Tryz.prog w=.ok (.enter F args) w) (hd:Xm w0 p T W F fst cap 4 d.x.2.2.1 R Qd Qp) :
  Calls Tryz.prog 99 #[.pointer (some ⟨d.q,0,none⟩),.func (.func F) fst cap] w fun r w'=>T4 w0 p T d W Qd Qp r w':=by
 have ea:∀v,xP W d.x v=(ZC d.x.2.2.1 v,false):=fun v=>by unfold xP;rw[if_pos h1]
 have HD:=Qq hd;have HB:=Qq (fun v w=>Tz d.x.2.2.1 v hB w)
 have H:=Qq h;have SB:∀(wx:World) (d':Dq) (W':Wd) (R':List zv),d'.q=d.q→d'.x=d.x→yL w0 wx p T d' W' [] R'→wx.cell? ⟨d.q,2,none⟩=some (.int .i64 21)∧wx.cell? ⟨d.q,4,none⟩=some (.int .i64 d.x.2.2.1):=by
  intro wx d' W' R' e1 e2 hh;obtain⟨D,ra,rc,hf,hh⟩:=hh;have y2:=(hh.zi 10 rfl 2 _ rfl).1
  have y4:=(hh.zi 10 rfl 4 _ rfl).1
  rw[e1,e2] at y2 y4;rw[h1] at y2;exact⟨y2,y4⟩
 have HSB:=Qq SB;obtain⟨q2,q4⟩:=SB w d W R rfl rfl h;have HEA:=Qq ea;have HGO:=Qq hgo;clear h h1 hd SB ea hgo;go_enter Tryz.func99,Tryz.ntmps99
 go_upto_region 2 with fail
 have o1:=H.out.step (zg w)
 refine xY (fun wx=>wx.cell? ⟨d.q,2,none⟩=some (.int .i64 21)∧wx.cell? ⟨d.q,4,none⟩=some (.int .i64 d.x.2.2.1)) 17 (Array.replicate 17 false) (by kernel_rfl) (by kernel_rfl) ?_
 refine zm 0 12 _ (Qj 17 4095) 5 (by kernel_rfl) (fun d _ _ _ _=>by cases d<;>exact fun h=>h) (HSB.out _ d W R rfl rfl o1) (by kernel_rfl) ?_
 simp only[QX,QV,QJ];(repeat((first|refine Qx (h:=?_)|refine Qv (h:=?_));simp only[Act.put,QW,QY,QZ]));refine zb ?_;refine zh 12 _ (Qj 17 8191) 4 (by kernel_rfl) (fun K hK=>?_)
 have HKK:=Qq hK;clear hK;simp only[QQ,QJ];refine zc (by rfl) ?_;go_simp;refine(HD.out [] d _ o1).mono ?_
 intro r w2 hp;rcases hp with⟨v,R',rfl,hq,h2⟩|⟨ch,R',rfl,hq,h2⟩
 ·have HQ:=Qq hq
  clear hq o1;refine HKK.out _ _ (HSB.out _ d W R' rfl rfl h2) ?_
  clear HKK K;refine zh 13 _ (Qj 17 16383) 3 (by kernel_rfl) (fun K hK=>?_)
  have HKK:=Qq hK;clear hK;simp only[QQ,QJ];refine zc (by rfl) ?_;go_simp;refine(HB.out _ _).mono ?_
  rintro r w3 ⟨rfl,rfl⟩;refine HKK.out _ _ (HSB.out _ d W R' rfl rfl h2) ?_
  clear HKK K;refine zm 14 2 _ (Qj 17 65535) 1 (by kernel_rfl) (fun d _ _ _ _=>by cases d<;>exact fun h=>h) (HSB.out _ d W R' rfl rfl h2) (by kernel_rfl) ?_
  simp only[QX,QV,QQ,QJ];(repeat((first|refine Qx (h:=?_)|refine Qv (h:=?_));simp only[Act.put,QW,QY,QZ]));refine zb ?_;obtain⟨⟨x7,y7⟩,z7,h3⟩:=h2.M8 (ZC d.x.2.2.1 v)
  have H3:=Qq h3;clear h3;refine zh 16 _ (Qj 17 131071) 0 (by kernel_rfl) (fun K hK=>?_)
  have HKK:=Qq hK;clear hK;simp only[QQ,QJ];refine zc (by rfl) ?_;go_simp;refine HKK.out _ _ (HSB.out _ (d.ask (ZC d.x.2.2.1 v) d.go) W R' rfl rfl H3.out) ?_
  clear HKK K;refine wpAnyH_done (by kernel_rfl) (?_) _
  clear h2 y7 z7;go_wp2;go_end0
  exact .inl ⟨v,R',rfl,HQ.out,by rw[HEA.out,←HGO.out];exact H3.out⟩
 ·exact⟨rfl,.inr ⟨ch,R',rfl,hq,h2⟩⟩
theorem Own.EY {w0 w:World}{A B C:zv}{L R:List zv}(h:Own w0 w (A::(L++(B::C::R)))):Own w0 w (L++(B::C::A::R)):=h.perm (by
 have e:List.Perm (A::((L++[B,C])++R)) ((L++[B,C])++(A::R)):=List.perm_middle.symm
 simpa using e)
structure Hu (W:Wd) (x:yq):Prop where
 ix:QN W x
 k:W.ks.length≤1000
 c:Ua W.Cs.length (W.yK x)
theorem IB {w0 w:World}{p:Nat}{T:List Value}{d:Dq}{W:Wd}{R:List zv}{F:Nat}{fst cap:Array Value}{Qd:Int→List zv→Prop}{Qp:Ending→List zv→Prop}(h:yL w0 w p T d W [] R)(h1:d.x.1=16)(ok:Hu W d.x)(Ls:List Int)(hLs:Ls=enF (goesN W.Ns W.Cs) 0 (W.yK d.x))
  (en:∀(args:Array Value) (w:World),(callFunc F args).run Tryz.prog w=.ok (.enter F args) w) (hd:1≤Ls.length→Ls.length≤1000→Xm w0 p T W F fst cap 3 (Ls.length:Int) R Qd Qp) :
  Calls Tryz.prog 99 #[.pointer (some ⟨d.q,0,none⟩),.func (.func F) fst cap] w fun r w'=>(Ls.length=0∧r=.returned (.tuple #[])∧yL w0 w' p T d W [] R)∨(1≤Ls.length∧T4 w0 p T d W Qd Qp r w'):=by
 have ea:1≤Ls.length→∀v,xP W d.x v=(Ls.getD (ZC (Ls.length:Int) v).toNat 0,true):=fun hl v=>by
  unfold xP;rw[if_neg (by omega),if_pos h1,←hLs,if_neg (by omega)]
 obtain⟨D,ra,rc,hf,h⟩:=h;obtain⟨hx,hk,hco⟩:=ok;have SB:∀(wx:World) (Z:List zv),Own w0 wx (zj p W D T++(ze d.q (yp p (d.g:Int) d.x d.th d.dr d.go ra 0 rc)::Z)) →
   wx.cell? ⟨d.q,0,none⟩=some (.pointer (some ⟨p,0,none⟩))∧wx.cell? ⟨d.q,2,none⟩=some (.int .i64 d.x.1)∧wx.cell? ⟨d.q,3,none⟩=some (.int .i64 d.x.2.1)∧wx.cell? ⟨d.q,4,none⟩=some (.int .i64 d.x.2.2.1)∧wx.cell? ⟨d.q,5,none⟩=some (.int .i64 d.x.2.2.2)∧wx.cell? ⟨p,3,none⟩=some (.slice D.ha W.Cs.length D.hc):=by
  intro wx Z ho;have hc:=ho.zi 10 rfl;exact⟨(hc 0 _ rfl).1,(hc 2 _ rfl).1,(hc 3 _ rfl).1,(hc 4 _ rfl).1,(hc 5 _ rfl).1,(ho.zi 0 rfl 3 _ rfl).1⟩
 have HSB:=Qq SB;have HCa:=Qq (fun wx Y (ho:Own w0 wx (zj p W D T++Y))=>ZU ho hf d.x hx hk)
 have HEn:Hid (∀(wx:World) (a:Option Addr) (c:Nat) (Z:zv) (Y:List zv),SG D W d.x a Z→Own w0 wx (Z::(zj p W D T++Y))→(W.yK d.x).length≤1000 →
   Calls Tryz.prog 115 #[.slice a (W.yK d.x).length c,.slice D.ha W.Cs.length D.hc] wx fun r w'=>∃a' c',r=.returned (.slice a' Ls.length c')∧Ls.length≤1000∧Own w0 w' (zd 1 a' c' Ls.length (zt Ls)::(zj p W D T++Y))):=Qq (fun wx a c Z Y hP ho hcl2=>by
  obtain⟨o1,-⟩:=S5 ho.X5 hf;have hpl:W.Cs.length=(List.zip D.ps W.Ns).length:=by rw[List.length_zip,hf.c,hf.n];omega
  have e:enF (goesB (List.zip D.ps W.Ns) W.Cs) 0 (W.yK d.x)=Ls:=by
   rw[hLs];exact Tu _ _ (fun k=>I6 _ _ _ (by rw[hf.c]) (by rw[hf.n]) k) _ _
  have hl2:Ls.length≤1000:=by rw[←e];exact Nat.le_trans (So _ _ _) hcl2
  refine(RV o1 hpl (by rw[hpl]) a (W.yK d.x).length c (W.yK d.x) (hP.cells ho 2 0 rfl rfl) rfl (by omega) hco).mono (fun r w' hh=>?_)
  obtain⟨a',c',hr,hrow,hF,hb⟩:=hh;rw[e] at hr hrow;exact⟨a',c',hr,hl2,ho.drop.add hb (A:=zd 1 a' c' Ls.length (zt Ls)) (F:=zY a') ⟨rfl,hrow⟩ hF⟩)
 have H:=Qq h;have HF:=Qq hf;have HD:=Qq hd;have HEA:=Qq ea;obtain⟨NC,hNC⟩:∃NC,NC=W.Cs.length:=⟨_,rfl⟩
 rw[←hNC] at HSB HEn;obtain⟨-,q2,-⟩:=SB w _ h;have b1:(d.x.1==21)=false:=by rw[h1];rfl
 have b2:(d.x.1==16)=true:=by rw[h1];rfl
 clear h hf hd ea hx hk hco SB hNC h1 hLs;go_enter Tryz.func99,Tryz.ntmps99
 go_upto_region 4 with fail
 have o1:=H.out.step (zg w)
 clear b1 b2 q2;refine zV (fun wx=>wx.cell? ⟨d.q,0,none⟩=some (.pointer (some ⟨p,0,none⟩))∧wx.cell? ⟨d.q,2,none⟩=some (.int .i64 d.x.1)∧wx.cell? ⟨d.q,3,none⟩=some (.int .i64 d.x.2.1)∧wx.cell? ⟨d.q,4,none⟩=some (.int .i64 d.x.2.2.1)∧wx.cell? ⟨d.q,5,none⟩=some (.int .i64 d.x.2.2.2)∧wx.cell? ⟨p,3,none⟩=some (.slice D.ha NC D.hc)) 18 (Array.replicate 18 false) (by kernel_rfl) (by kernel_rfl) ?_
 refine zm 0 8 _ (Qj 18 255) 10 (by kernel_rfl) za (HSB.out _ _ o1) (by kernel_rfl) ?_
 simp only[QX,QV,QJ];(repeat((first|refine Qx (h:=?_)|refine Qv (h:=?_));simp only[Act.put,QW,QY,QZ]));refine zb ?_;refine zm 9 7 _ (Qj 18 65279) 3 (by kernel_rfl) za (HSB.out _ _ o1) (by kernel_rfl) ?_
 simp only[QX,QV,QQ,QJ];(repeat((first|refine Qx (h:=?_)|refine Qv (h:=?_));simp only[Act.put,QW,QY,QZ]));refine zb ?_;refine zh 8 _ (Qj 18 65535) 2 (by kernel_rfl) (fun K hK=>?_)
 have HKK:=Qq hK;clear hK;simp only[QQ,QJ];refine zc (by rfl) ?_;go_simp;refine(HCa.out _ _ o1).mono ?_
 rintro r w3 ⟨a,ca,Z,rfl,hP,hl,o3,-⟩
 refine HKK.out _ _ (HSB.out _ _ o3.drop) ?_
 clear HKK K;refine zh 16 _ (Qj 18 131071) 1 (by kernel_rfl) (fun K hK=>?_)
 have HKK:=Qq hK;clear hK;simp only[QQ,QJ];refine zc (by rfl) ?_;go_simp;refine(HEn.out _ _ _ _ _ hP o3 hl).mono ?_
 rintro r w4 ⟨a4,c4,rfl,hl4,o4⟩;refine HKK.out _ _ (HSB.out _ _ o4.drop) ?_
 clear HKK K;refine zm 17 1 _ (Qj 18 262143) 0 (by kernel_rfl) za (HSB.out _ _ o4.drop) (by kernel_rfl) ?_
 simp only[QX,QV,QQ,QJ];(repeat((first|refine Qx (h:=?_)|refine Qv (h:=?_));simp only[Act.put,QW,QY,QZ]));refine zb ?_;refine wpAnyH_done (by kernel_rfl) (NoPanic.normal ?_) _
 have H4:Hid (yL w0 w4 p T d W [] ([zd 1 a4 c4 Ls.length (zt Ls)]++R)):=Qq ⟨D,ra,rc,HF.out,o4.EY⟩
 clear o1 o3 o4 hP hl H HF HSB HCa HEn;by_cases hz:Ls.length=0
 ·have HZ:=Qq hz
  rw[hz];clear hz;go_wp2;go_end0
  exact .inl ⟨HZ.out,rfl,yL.less (A:=zd 1 a4 c4 Ls.length (zt Ls)) (R:=R) H4.out⟩
 ·have h0:1≤Ls.length:=by omega
  have HD2:=Qq (HD.out h0 hl4 [zd 1 a4 c4 Ls.length (zt Ls)] d _ H4.out)
  have HB:=Qq (fun v w=>Tz (Ls.length:Int) v (by omega) w)
  have HJ:Hid (∀v,∃j:Nat,ZC (Ls.length:Int) v=(j:Int)∧j<Ls.length):=Qq (fun v=>by
   refine⟨(ZC (Ls.length:Int) v).toNat,?_⟩
   unfold ZC;split<;>split<;>omega)
  have hp0:(0:Int)<(Ls.length:Int):=by omega
  have H0:=Qq h0;clear H4 HD h0 hz hl4;go_wp2_with fail;refine HD2.out.mono ?_
  intro r w5 hp;rcases hp with⟨v,R',rfl,hq,h5⟩|⟨ch,R',rfl,hq,h5⟩
  ·have HQ:=Qq hq
   obtain⟨j,hj1,hj2⟩:=HJ.out v;have HJ1:=Qq hj1;obtain⟨y7,z7,-⟩:=h5.M8 (Ls.getD j 0)
   obtain⟨y8,z8,-⟩:=h5.Hq true;obtain⟨x7,y7⟩:=y7;obtain⟨x8,y8⟩:=y8;have hat:∃b off,a4=some ⟨b,off,none⟩∧w5.cell? ⟨b,off+j,none⟩=some (.int .i64 (Ls.getD j 0)):=by
    obtain⟨D5,ra5,rc5,-,h5⟩:=h5;obtain⟨F5,⟨-,hr5⟩,-⟩:=h5.fact 12 (A:=zd 1 a4 c4 Ls.length (zt Ls)) rfl
    exact hr5.cells j _ (by rw[xK,List.getD_eq_getElem?_getD,List.getElem?_eq_getElem hj2];rfl)
   obtain⟨b4,off4,rfl,hc4⟩:=hat;have H5:Hid (yL w0 ((w5.setCell ⟨d.q,7,none⟩ (.int .i64 (Ls.getD j 0))).setCell ⟨d.q,8,none⟩ (.bool true)) p T (d.ask (Ls.getD j 0) true) W [] R') :=
    Qq (yL.less (A:=zd 1 (some ⟨b4,off4,none⟩) c4 Ls.length (zt Ls)) (R:=R') ((h5.M8 (Ls.getD j 0)).2.2.Hq true).2.2)
   clear hq h5 HD2 hj1 HJ;go_wp2_with fail;refine(HB.out _ _).mono ?_
   rintro r w6 ⟨rfl,rfl⟩;rw[HJ1.out];clear HB;go_wp2;go_end0
   refine .inr ⟨H0.out,.inl ⟨v,R',rfl,HQ.out,?_⟩⟩
   have eg:Ls.getD j 0=Ls[j]:=by rw[List.getD_eq_getElem?_getD,List.getElem?_eq_getElem hj2];rfl
   have h6:=H5.out;rw[HEA.out H0.out v,HJ1.out,Int.toNat_natCast];rw[eg] at h6 ⊢;exact h6
  ·exact⟨rfl,.inr ⟨H0.out,.inr ⟨ch,R',rfl,hq,yL.less (A:=zd 1 a4 c4 Ls.length (zt Ls)) (R:=R') h5⟩⟩⟩
theorem Uu {P:Program}{w:World}{mty kt et:TypeId}{r c:Nat}{n:Int}{es:List MapEntry}{i:Nat}{v:Value}(hm:P.underlying mty=some (.map kt et))(hk:P.underlying kt=some (.int .i64))(hb:XL w r es c)
  (hf:Instr.findNow (.int .i64) (.int .i64 n) es 0=some (some (i,v))):(Instr.lookup mty (.map (some r)) (.int .i64 n) true).run P w=.ok (.tuple #[v,.bool true]) w:=by
 have hc:∀b,(Instr.checkKey b 10000 kt (.int .i64 n)).run P w=.ok () w:=fun b=>MapKept.run_checkKey (k:=.int .i64 n) hk (by simp[MapKept.IsKey]) b 9999
 have hb':w.heap[r]?=some (.map es.toArray c):=hb
 simp[Instr.lookup,run_underlying hm,MapKept.run_getObj_map hb',hc,MapKept.run_findKey hk hf,Result.andThen]
theorem Vx {P:Program}{w:World}{mty kt et:TypeId}{r c:Nat}{n:Int}{es:List MapEntry}{z:Value}(hm:P.underlying mty=some (.map kt et))(hk:P.underlying kt=some (.int .i64))(hb:XL w r es c)
  (hz:(zeroValue et).run P w=.ok z w) (hf:Instr.findNow (.int .i64) (.int .i64 n) es 0=some none):(Instr.lookup mty (.map (some r)) (.int .i64 n) true).run P w=.ok (.tuple #[z,.bool false]) w:=by
 have hc:∀b,(Instr.checkKey b 10000 kt (.int .i64 n)).run P w=.ok () w:=fun b=>MapKept.run_checkKey (k:=.int .i64 n) hk (by simp[MapKept.IsKey]) b 9999
 have hb':w.heap[r]?=some (.map es.toArray c):=hb
 simp[Instr.lookup,run_underlying hm,MapKept.run_getObj_map hb',hc,MapKept.run_findKey hk hf,hz,Result.andThen]
theorem TR (args:Array Value)(w:World):(callFunc 147 args).run Tryz.prog w=.ok (.enter 147 args) w:=by kernel_rfl
theorem PF (args:Array Value)(w:World):(callFunc 149 args).run Tryz.prog w=.ok (.enter 149 args) w:=by kernel_rfl
theorem TU (g o a n cap:Nat)(z:List Int)(b c:Int)(w:World)(ha:a<8)(h:zQ w g n cap z)(ho:o+11≤n*11) :
  Calls Tryz.prog 147 #[.pointer (some ⟨g,o,none⟩),.agg #[.int .i64 1,.int .i64 a,.int .i64 b,.int .i64 c]] w fun e w'=>e=.returned (.tuple #[])∧zK [g] w w'∧zQ w' g n cap (z.set (o+2+a) b):=by
 have a0:(0:Int)≤(a:Int):=by omega
 have a8:(a:Int)<8:=by omega
 obtain⟨x,-,h1,h2⟩:=h.cell (o+2+a) (by omega)
 have h1':∀q,(w.alloc q).cell? ⟨g,o+2+a,none⟩=some (.int .i64 x):=fun q=>zq h1 (below_alloc1 w q)
 have h2':∀q,(w.alloc q).frozen? ⟨g,o+2+a,none⟩=false:=fun q=>by rw[(below_alloc1 w q).frozen (p:=⟨g,o+2+a,none⟩) h.lt];exact h2
 have H:=Qq h;have hlt:=h.lt;have hw:w.heap.size≠g:=by omega
 clear h h1 h2;go_enter Tryz.func147,Tryz.ntmps147
 go_wp2_with fail;go_region
 go_wp2_with fail;go_end0
 refine⟨rfl,?_,?_⟩
 ·exact(((zK.refl _ _).setCell _ (.inl (by simp))).trans (zK.zO (F:=[]) (below_alloc1 _ _)) (by simp)).drew
 ·exact((H.out.set _ _).below (below_alloc1 _ _)).below (zg _)
theorem Zv (g o n cap fk i:Nat)(z z':List Int)(op a b c at0:Int)(w:World)(h:zQ w g n cap z)(hz:z[o+1]?=some at0)(hat:0≤at0∧at0<1000)
  (hf:Instr.findNow (.int .i64) (.int .i64 op) TL 0=some (some (i,.func (.func fk) #[] #[]))) (eg:∀args w,(callFunc fk args).run Tryz.prog w=.ok (.enter fk args) w)
  (hcal:∀w',zQ w' g n cap (z.set (o+1) (at0+1))→Calls Tryz.prog fk #[.pointer (some ⟨g,o,none⟩),.agg #[.int .i64 op,.int .i64 a,.int .i64 b,.int .i64 c]] w' fun e w''=>e=.returned (.tuple #[])∧zK [g] w' w''∧zQ w'' g n cap z') :
  Calls Tryz.prog 119 #[.pointer (some ⟨g,o,none⟩),.agg #[.int .i64 op,.int .i64 a,.int .i64 b,.int .i64 c]] w fun e w'=>e=.returned (.bool true)∧zK [g] w w'∧zQ w' g n cap z':=by
 have HF:=Qq hf;have HC:=Qq hcal;clear hf hcal;have H:=Qq h;have hlt:=h.lt;have hw:w.heap.size≠g:=by omega
 have HZ:=Qq hz;clear h hz;go_enter Tryz.func119,Tryz.ntmps119
 go_wp2_with fail;have hx0:zH (w.alloc (Obj.cells #[Value.int IntKind.i64 op,Value.int IntKind.i64 a,Value.int IntKind.i64 b,Value.int IntKind.i64 c] 86)) w.heap.size [Value.int IntKind.i64 op,Value.int IntKind.i64 a,Value.int IntKind.i64 b,Value.int IntKind.i64 c]:=zH.mk w _ _ _ rfl
 have hB:=below_alloc1 w (Obj.cells #[Value.int IntKind.i64 op,Value.int IntKind.i64 a,Value.int IntKind.i64 b,Value.int IntKind.i64 c] 86)
 generalize w.alloc (Obj.cells #[Value.int IntKind.i64 op,Value.int IntKind.i64 a,Value.int IntKind.i64 b,Value.int IntKind.i64 c] 86)=W0 at *
 have hxl:=hx0.lt (by simp)
 obtain⟨bx,hbx⟩:∃bx,w.heap.size=bx:=⟨_,rfl⟩
 rw[hbx] at hx0 hB hxl hlt hw ⊢;have HS:=Qq hbx;clear hbx;have HX:=Qq hx0;have HB:=Qq hB;clear hx0 hB;have hld:∀w',Below W0.heap.size W0 w'→w'.cell? ⟨bx,0,none⟩=some (.int .i64 op):=fun w' hb=>((HX.out.below hb) 0 _ rfl).1
 have HL:=Qq hld;clear hld;go_region_held3 (fun w'=>w'.cell? ⟨bx,0,none⟩=some (.int .i64 op)∧Below W0.heap.size W0 w') (first|exact⟨HL.out _ (zg _),zg _⟩|assumption|(have hq:=zB (zg W0) hb;exact⟨HL.out _ hq,hq⟩)) ((go_at_call 129;refine(Tm _).mono ?_;rintro e w1 ⟨rfl,hm,hb⟩;have hl:(Instr.lookup 260 (.map (some W0.heap.size)) (.int .i64 op) true).run Tryz.prog w1=.ok (.tuple #[.func (.func fk) #[] #[],.bool true]) w1:=Uu (n:=op) Tryz.underlying260 Tryz.underlying84 hm HF.out))
 have bel:Below bx w w1:=HB.out.trans ((zB (zg W0) hb).mono (by omega))
 have c1:zK [g] w w1:=zK.zO (by rw[HS.out];exact bel)
 have h1:=H.out.yE (zK.zO (F:=[]) (by rw[HS.out];exact bel)) (by simp)
 obtain⟨y1,y2⟩:=h1.at HZ.out;have hx1:zH w1 bx _:=HX.out.below (zB (zg W0) hb)
 have x0:=(hx1 0 _ rfl).1
 have x1:=(hx1 1 _ rfl).1
 have x2:=(hx1 2 _ rfl).1
 have x3:=(hx1 3 _ rfl).1
 have hbg:(bx==g)=false:=by simp;exact hw
 have H1:=Qq h1;have C1:=Qq c1;clear hl hm hb bel c1 h1 hx1 HL HB HX;go_wp2_with fail;refine(HC.out _ (H1.out.set _ _)).mono ?_
 rintro e w2 ⟨rfl,k1,k2⟩;have K1:=Qq k1;have K2:=Qq k2;clear k1 k2;go_wp2_with fail;go_ret;exact⟨rfl,((C1.out.setCell _ (.inl (by simp))).trans K1.out (fun x hx=>.inl hx)),K2.out⟩
theorem NS (w:World):(zeroValue 258).run Tryz.prog w=.ok .nilFunc w:=by kernel_rfl
theorem zQ.get {w:World}{g n cap:Nat}{z:List Int}(h:zQ w g n cap z)(j:Nat)(hj:j<n*11):w.cell? ⟨g,j,none⟩=some (.int .i64 (z.getD j 0))∧w.frozen? ⟨g,j,none⟩=false:=by
 obtain⟨x,hx,h1,h2⟩:=h.cell j hj;rw[List.getD_eq_getElem?_getD,hx]
 exact⟨h1,h2⟩
theorem VL (v:Int):VU v=wrap64 v:=by unfold VU wrap64;rw[IntKind.wrap_i64]
theorem boxed {w:World}{g n cap:Nat}{z:List Int}(h:zQ w g n cap z)(op A B C:Int) :
  let w1:=w.alloc (.cells #[.int .i64 op,.int .i64 A,.int .i64 B,.int .i64 C] 86)
  w1.cell? ⟨w.heap.size,1,none⟩=some (.int .i64 A)∧w1.cell? ⟨w.heap.size,2,none⟩=some (.int .i64 B)∧w1.cell? ⟨w.heap.size,3,none⟩=some (.int .i64 C)∧zQ w1 g n cap z∧zK [g] w w1:=by
 have hb:=zH.mk w [.int .i64 op,.int .i64 A,.int .i64 B,.int .i64 C] 86 w.heap.size rfl
 exact⟨(hb 1 _ rfl).1,(hb 2 _ rfl).1,(hb 3 _ rfl).1,h.below (below_alloc1 _ _),zK.zO (below_alloc1 _ _)⟩
theorem Wo {w w1:World}{g n cap:Nat}{z:List Int}(h:zQ w1 g n cap z)(c:zK [g] w w1)(j:Nat)(x:Int):zK [g] w ((w1.setCell ⟨g,j,none⟩ (.int .i64 x)).drew)∧zQ ((w1.setCell ⟨g,j,none⟩ (.int .i64 x)).drew) g n cap (z.set j x) :=
 ⟨(c.setCell _ (.inl (by simp))).drew,(h.set j x).below (zg _)⟩
theorem Ly {w w1:World}{g n cap:Nat}{z:List Int}(h:zQ w1 g n cap z)(c:zK [g] w w1)(j:Nat)(x:Int):zK [g] w (w1.setCell ⟨g,j,none⟩ (.int .i64 x))∧zQ (w1.setCell ⟨g,j,none⟩ (.int .i64 x)) g n cap (z.set j x) :=
 ⟨c.setCell _ (.inl (by simp)),h.set j x⟩
theorem Gw (g o n cap:Nat)(A B C:Int)(z:List Int)(op:Int)(w:World)(h:zQ w g n cap z)(ho:o+11≤n*11) :
  Calls Tryz.prog 146 #[.pointer (some ⟨g,o,none⟩),.agg #[.int .i64 op,.int .i64 A,.int .i64 B,.int .i64 C]] w fun e w'=>e=.returned (.tuple #[])∧zK [g] w w'∧zQ w' g n cap (z):=by
 have hf:=(show zK [g] w (w.alloc (.cells #[.int .i64 op,.int .i64 A,.int .i64 B,.int .i64 C] 86))∧zQ (w.alloc (.cells #[.int .i64 op,.int .i64 A,.int .i64 B,.int .i64 C] 86)) g n cap z from⟨zK.zO (below_alloc1 _ _),h.below (below_alloc1 _ _)⟩)
 have HF:=Qq hf;clear hf h;go_enter Tryz.func146,Tryz.ntmps146
 go_wp2;go_end0
 exact⟨rfl,HF.out⟩
theorem JQ (g o n cap:Nat)(a b:Nat)(ha:a<8)(hb:b<8)(C:Int)(z:List Int)(op:Int)(w:World)(h:zQ w g n cap z)(ho:o+11≤n*11) :
  Calls Tryz.prog 148 #[.pointer (some ⟨g,o,none⟩),.agg #[.int .i64 op,.int .i64 (a:Int),.int .i64 (b:Int),.int .i64 C]] w fun e w'=>e=.returned (.tuple #[])∧zK [g] w w'∧zQ w' g n cap (z.set (o+2+a) (z.getD (o+2+b) 0)):=by
 have a0:(0:Int)≤(a:Int):=by omega
 have a8:(a:Int)<8:=by omega
 have b0:(0:Int)≤(b:Int):=by omega
 have b8:(b:Int)<8:=by omega
 have hlt:=h.lt;obtain⟨x1,x2,x3,h1,c1⟩:=boxed h op (a:Int) (b:Int) C
 obtain⟨s0,f0⟩:=h1.get (o+2+a) (by omega)
 obtain⟨s1,-⟩:=h1.get (o+2+b) (by omega)
 have HF:=Qq (Wo h1 c1 (o+2+a) (z.getD (o+2+b) 0))
 generalize z.getD (o+2+b) 0=v at *
 generalize z.getD (o+2+a) 0=u at *
 clear h h1 c1;go_enter Tryz.func148,Tryz.ntmps148
 go_upto_region 1 with fail
 generalize w.alloc (.cells #[.int .i64 op,.int .i64 (a:Int),.int .i64 (b:Int),.int .i64 C] 86)=w1 at *
 generalize w.heap.size=bx at *;refine zk (fun wx=>∃nq,wx=World.drewN (w1) nq) 13 1 (Array.replicate 14 false) (Qj 14 8191) (by kernel_rfl) (by kernel_rfl) ?_
 refine zf 0 13 _ (Qj 14 8191) 0 (by kernel_rfl) za (zE w1) (by kernel_rfl) ?_
 simp only[QX,QV,QJ];(repeat((first|refine Qx (h:=?_)|refine Qw (h:=?_));simp only[Act.put,QW,QY,QZ]));refine zb ?_;refine zo ?_;refine zS 13 (by kernel_rfl) ?_
 simp only[QQ,QJ];go_wp2_with fail;refine NoPanic.normal ?_
 go_end0
 exact⟨rfl,by first|exact HF.out|(have:=HF.out;simp only[VL] at this ⊢;exact this)⟩
theorem FC (g o n cap:Nat)(a b c:Nat)(ha:a<8)(hb:b<8)(hc:c<8)(z:List Int)(op:Int)(w:World)(h:zQ w g n cap z)(ho:o+11≤n*11) :
  Calls Tryz.prog 149 #[.pointer (some ⟨g,o,none⟩),.agg #[.int .i64 op,.int .i64 (a:Int),.int .i64 (b:Int),.int .i64 (c:Int)]] w fun e w'=>e=.returned (.tuple #[])∧zK [g] w w'∧zQ w' g n cap (z.set (o+2+a) (VU (z.getD (o+2+b) 0+z.getD (o+2+c) 0))):=by
 have a0:(0:Int)≤(a:Int):=by omega
 have a8:(a:Int)<8:=by omega
 have b0:(0:Int)≤(b:Int):=by omega
 have b8:(b:Int)<8:=by omega
 have c0:(0:Int)≤(c:Int):=by omega
 have c8:(c:Int)<8:=by omega
 have hlt:=h.lt;obtain⟨x1,x2,x3,h1,c1⟩:=boxed h op (a:Int) (b:Int) (c:Int)
 obtain⟨s0,f0⟩:=h1.get (o+2+a) (by omega)
 obtain⟨s1,-⟩:=h1.get (o+2+b) (by omega)
 obtain⟨s2,-⟩:=h1.get (o+2+c) (by omega)
 have HF:=Qq (Wo h1 c1 (o+2+a) (VU (z.getD (o+2+b) 0+z.getD (o+2+c) 0)))
 generalize z.getD (o+2+b) 0=v at *
 generalize z.getD (o+2+c) 0=v' at *
 generalize z.getD (o+2+a) 0=u at *
 clear h h1 c1;go_enter Tryz.func149,Tryz.ntmps149
 go_upto_region 1 with fail
 generalize w.alloc (.cells #[.int .i64 op,.int .i64 (a:Int),.int .i64 (b:Int),.int .i64 (c:Int)] 86)=w1 at *
 generalize w.heap.size=bx at *;refine zk (fun wx=>∃nq,wx=World.drewN (w1) nq) 21 1 (Array.replicate 22 false) (Qj 22 2097151) (by kernel_rfl) (by kernel_rfl) ?_
 refine zf 0 21 _ (Qj 22 2097151) 0 (by kernel_rfl) za (zE w1) (by kernel_rfl) ?_
 simp only[QX,QV,QJ];(repeat((first|refine Qx (h:=?_)|refine Qw (h:=?_));simp only[Act.put,QW,QY,QZ]));refine zb ?_;refine zo ?_;refine zS 21 (by kernel_rfl) ?_
 simp only[QQ,QJ];go_wp2_with fail;refine NoPanic.normal ?_
 go_end0
 exact⟨rfl,by first|exact HF.out|(have:=HF.out;simp only[VL] at this ⊢;exact this)⟩
theorem Gd (g o n cap:Nat)(a b c:Nat)(ha:a<8)(hb:b<8)(hc:c<8)(z:List Int)(op:Int)(w:World)(h:zQ w g n cap z)(ho:o+11≤n*11) :
  Calls Tryz.prog 150 #[.pointer (some ⟨g,o,none⟩),.agg #[.int .i64 op,.int .i64 (a:Int),.int .i64 (b:Int),.int .i64 (c:Int)]] w fun e w'=>e=.returned (.tuple #[])∧zK [g] w w'∧zQ w' g n cap (z.set (o+2+a) (VU (z.getD (o+2+b) 0-z.getD (o+2+c) 0))):=by
 have a0:(0:Int)≤(a:Int):=by omega
 have a8:(a:Int)<8:=by omega
 have b0:(0:Int)≤(b:Int):=by omega
 have b8:(b:Int)<8:=by omega
 have c0:(0:Int)≤(c:Int):=by omega
 have c8:(c:Int)<8:=by omega
 have hlt:=h.lt;obtain⟨x1,x2,x3,h1,c1⟩:=boxed h op (a:Int) (b:Int) (c:Int)
 obtain⟨s0,f0⟩:=h1.get (o+2+a) (by omega)
 obtain⟨s1,-⟩:=h1.get (o+2+b) (by omega)
 obtain⟨s2,-⟩:=h1.get (o+2+c) (by omega)
 have HF:=Qq (Wo h1 c1 (o+2+a) (VU (z.getD (o+2+b) 0-z.getD (o+2+c) 0)))
 generalize z.getD (o+2+b) 0=v at *
 generalize z.getD (o+2+c) 0=v' at *
 generalize z.getD (o+2+a) 0=u at *
 clear h h1 c1;go_enter Tryz.func150,Tryz.ntmps150
 go_upto_region 1 with fail
 generalize w.alloc (.cells #[.int .i64 op,.int .i64 (a:Int),.int .i64 (b:Int),.int .i64 (c:Int)] 86)=w1 at *
 generalize w.heap.size=bx at *;refine zk (fun wx=>∃nq,wx=World.drewN (w1) nq) 21 1 (Array.replicate 22 false) (Qj 22 2097151) (by kernel_rfl) (by kernel_rfl) ?_
 refine zf 0 21 _ (Qj 22 2097151) 0 (by kernel_rfl) za (zE w1) (by kernel_rfl) ?_
 simp only[QX,QV,QJ];(repeat((first|refine Qx (h:=?_)|refine Qw (h:=?_));simp only[Act.put,QW,QY,QZ]));refine zb ?_;refine zo ?_;refine zS 21 (by kernel_rfl) ?_
 simp only[QQ,QJ];go_wp2_with fail;refine NoPanic.normal ?_
 go_end0
 exact⟨rfl,by first|exact HF.out|(have:=HF.out;simp only[VL] at this ⊢;exact this)⟩
theorem GN (g o n cap:Nat)(a b c:Nat)(ha:a<8)(hb:b<8)(hc:c<8)(z:List Int)(op:Int)(w:World)(h:zQ w g n cap z)(ho:o+11≤n*11) :
  Calls Tryz.prog 151 #[.pointer (some ⟨g,o,none⟩),.agg #[.int .i64 op,.int .i64 (a:Int),.int .i64 (b:Int),.int .i64 (c:Int)]] w fun e w'=>e=.returned (.tuple #[])∧zK [g] w w'∧zQ w' g n cap (z.set (o+2+a) (VU (z.getD (o+2+b) 0*z.getD (o+2+c) 0))):=by
 have a0:(0:Int)≤(a:Int):=by omega
 have a8:(a:Int)<8:=by omega
 have b0:(0:Int)≤(b:Int):=by omega
 have b8:(b:Int)<8:=by omega
 have c0:(0:Int)≤(c:Int):=by omega
 have c8:(c:Int)<8:=by omega
 have hlt:=h.lt;obtain⟨x1,x2,x3,h1,c1⟩:=boxed h op (a:Int) (b:Int) (c:Int)
 obtain⟨s0,f0⟩:=h1.get (o+2+a) (by omega)
 obtain⟨s1,-⟩:=h1.get (o+2+b) (by omega)
 obtain⟨s2,-⟩:=h1.get (o+2+c) (by omega)
 have HF:=Qq (Wo h1 c1 (o+2+a) (VU (z.getD (o+2+b) 0*z.getD (o+2+c) 0)))
 generalize z.getD (o+2+b) 0=v at *
 generalize z.getD (o+2+c) 0=v' at *
 generalize z.getD (o+2+a) 0=u at *
 clear h h1 c1;go_enter Tryz.func151,Tryz.ntmps151
 go_upto_region 1 with fail
 generalize w.alloc (.cells #[.int .i64 op,.int .i64 (a:Int),.int .i64 (b:Int),.int .i64 (c:Int)] 86)=w1 at *
 generalize w.heap.size=bx at *;refine zk (fun wx=>∃nq,wx=World.drewN (w1) nq) 21 1 (Array.replicate 22 false) (Qj 22 2097151) (by kernel_rfl) (by kernel_rfl) ?_
 refine zf 0 21 _ (Qj 22 2097151) 0 (by kernel_rfl) za (zE w1) (by kernel_rfl) ?_
 simp only[QX,QV,QJ];(repeat((first|refine Qx (h:=?_)|refine Qw (h:=?_));simp only[Act.put,QW,QY,QZ]));refine zb ?_;refine zo ?_;refine zS 21 (by kernel_rfl) ?_
 simp only[QQ,QJ];go_wp2_with fail;refine NoPanic.normal ?_
 go_end0
 exact⟨rfl,by first|exact HF.out|(have:=HF.out;simp only[VL] at this ⊢;exact this)⟩
theorem J7 (g o n cap:Nat)(a b c:Nat)(ha:a<8)(hb:b<8)(hc:c<8)(z:List Int)(op:Int)(w:World)(h:zQ w g n cap z)(ho:o+11≤n*11) :
  Calls Tryz.prog 152 #[.pointer (some ⟨g,o,none⟩),.agg #[.int .i64 op,.int .i64 (a:Int),.int .i64 (b:Int),.int .i64 (c:Int)]] w fun e w'=>e=.returned (.tuple #[])∧zK [g] w w'∧zQ w' g n cap (z.set (o+2+a) (if z.getD (o+2+b) 0<z.getD (o+2+c) 0 then 1 else 0)):=by
 have hlt:=h.lt;obtain⟨x1,x2,x3,h1,c1⟩:=boxed h op (a:Int) (b:Int) (c:Int)
 obtain⟨s0,f0⟩:=h1.get (o+2+a) (by omega)
 obtain⟨s1,-⟩:=h1.get (o+2+b) (by omega)
 obtain⟨s2,-⟩:=h1.get (o+2+c) (by omega)
 have HF1:=fun x=>(show zK [g] w (((w.alloc (.cells #[.int .i64 op,.int .i64 (a:Int),.int .i64 (b:Int),.int .i64 (c:Int)] 86)).setCell ⟨g,o+2+a,none⟩ (.int .i64 x)).drewN 2)∧zQ (((w.alloc (.cells #[.int .i64 op,.int .i64 (a:Int),.int .i64 (b:Int),.int .i64 (c:Int)] 86)).setCell ⟨g,o+2+a,none⟩ (.int .i64 x)).drewN 2) g n cap (z.set (o+2+a) x) from⟨(c1.setCell _ (.inl (by simp))).drewN 2,(h1.set _ _).below (zx _ 2)⟩)
 have a0:(0:Int)≤(a:Int):=by omega
 have a8:(a:Int)<8:=by omega
 have b0:(0:Int)≤(b:Int):=by omega
 have b8:(b:Int)<8:=by omega
 have c0:(0:Int)≤(c:Int):=by omega
 have c8:(c:Int)<8:=by omega
 generalize z.getD (o+2+b) 0=v at *
 generalize z.getD (o+2+c) 0=v' at *
 generalize z.getD (o+2+a) 0=u at *
 clear h h1 c1;by_cases hl:v<v'
 ·rw[if_pos hl]
  have HF:=Qq (HF1 1)
  have hd:decide (v<v')=true:=by simpa using hl
  clear HF1 hl;go_enter Tryz.func152,Tryz.ntmps152
  go_upto_region 2 with fail
  generalize w.alloc (.cells #[.int .i64 op,.int .i64 (a:Int),.int .i64 (b:Int),.int .i64 (c:Int)] 86)=w1 at *
  generalize w.heap.size=bx at *;refine zk (fun wx=>∃nq,wx=World.drewN (w1) nq) 15 0 (Array.replicate 15 false) (Qj 15 32767) (by kernel_rfl) (by kernel_rfl) ?_
  refine zf 0 15 _ (Qj 15 32767) 0 (by kernel_rfl) za (zE w1) (by kernel_rfl) ?_
  simp only[QX,QV,QJ];(repeat((first|refine Qx (h:=?_)|refine Qw (h:=?_));simp only[Act.put,QW,QY,QZ]));refine zb ?_;refine zo ?_;refine zD (by kernel_rfl) (NoPanic.normal ?_)
  go_upto_region 4 with fail
  refine zk (fun wx=>∃nq,wx=World.drewN (w1) nq) 7 1 (Array.replicate 8 false) (Qj 8 127) (by kernel_rfl) (by kernel_rfl) ?_
  refine zf 0 7 _ (Qj 8 127) 0 (by kernel_rfl) za ((by first|exact⟨2,rfl⟩|exact⟨_,rfl⟩)) (by kernel_rfl) ?_
  simp only[QX,QV,QJ];(repeat((first|refine Qx (h:=?_)|refine Qw (h:=?_));simp only[Act.put,QW,QY,QZ]));refine zb ?_;refine zo ?_;refine zS 7 (by kernel_rfl) ?_
  simp only[QQ,QJ];go_wp2_with fail;refine NoPanic.normal ?_
  go_end0
  exact⟨rfl,HF.out⟩
 ·rw[if_neg hl]
  have HF:=Qq (HF1 0)
  have hd:decide (v<v')=false:=by simpa using hl
  clear HF1 hl;go_enter Tryz.func152,Tryz.ntmps152
  go_upto_region 2 with fail
  generalize w.alloc (.cells #[.int .i64 op,.int .i64 (a:Int),.int .i64 (b:Int),.int .i64 (c:Int)] 86)=w1 at *
  generalize w.heap.size=bx at *;refine zk (fun wx=>∃nq,wx=World.drewN (w1) nq) 15 0 (Array.replicate 15 false) (Qj 15 32767) (by kernel_rfl) (by kernel_rfl) ?_
  refine zf 0 15 _ (Qj 15 32767) 0 (by kernel_rfl) za (zE w1) (by kernel_rfl) ?_
  simp only[QX,QV,QJ];(repeat((first|refine Qx (h:=?_)|refine Qw (h:=?_));simp only[Act.put,QW,QY,QZ]));refine zb ?_;refine zo ?_;refine zD (by kernel_rfl) (NoPanic.normal ?_)
  go_upto_region 4 with fail
  refine zk (fun wx=>∃nq,wx=World.drewN (w1) nq) 7 1 (Array.replicate 8 false) (Qj 8 127) (by kernel_rfl) (by kernel_rfl) ?_
  refine zf 0 7 _ (Qj 8 127) 0 (by kernel_rfl) za ((by first|exact⟨2,rfl⟩|exact⟨_,rfl⟩)) (by kernel_rfl) ?_
  simp only[QX,QV,QJ];(repeat((first|refine Qx (h:=?_)|refine Qw (h:=?_));simp only[Act.put,QW,QY,QZ]));refine zb ?_;refine zo ?_;refine zS 7 (by kernel_rfl) ?_
  simp only[QQ,QJ];go_wp2_with fail;refine NoPanic.normal ?_
  go_end0
  exact⟨rfl,HF.out⟩
theorem JG (g o n cap:Nat)(A B C:Int)(z:List Int)(op:Int)(w:World)(h:zQ w g n cap z)(ho:o+11≤n*11) :
  Calls Tryz.prog 153 #[.pointer (some ⟨g,o,none⟩),.agg #[.int .i64 op,.int .i64 A,.int .i64 B,.int .i64 C]] w fun e w'=>e=.returned (.tuple #[])∧zK [g] w w'∧zQ w' g n cap (z.set (o+1) A):=by
 have hlt:=h.lt;obtain⟨x1,x2,x3,h1,c1⟩:=boxed h op A B C;have H:=Qq h1;have C1:=Qq c1;clear h;go_enter Tryz.func153,Tryz.ntmps153
 go_upto_region 1 with fail
 generalize w.alloc (.cells #[.int .i64 op,.int .i64 A,.int .i64 B,.int .i64 C] 86)=w1 at *
 generalize w.heap.size=bx at *;obtain⟨s0,f0⟩:=H.out.get (o+1) (by omega)
 have HF:=Qq (Ly H.out C1.out (o+1) A)
 generalize z.getD (o+1) 0=u at *
 clear h1 c1 H C1;go_wp2;go_end0
 exact⟨rfl,HF.out⟩
theorem Ee (g o n cap:Nat)(a:Nat)(ha:a<8)(B C:Int)(z:List Int)(op:Int)(w:World)(h:zQ w g n cap z)(ho:o+11≤n*11) :
  Calls Tryz.prog 154 #[.pointer (some ⟨g,o,none⟩),.agg #[.int .i64 op,.int .i64 (a:Int),.int .i64 B,.int .i64 C]] w fun e w'=>e=.returned (.tuple #[])∧zK [g] w w'∧zQ w' g n cap (if z.getD (o+2+a) 0=0 then z else z.set (o+1) B):=by
 have hlt:=h.lt;obtain⟨x1,x2,x3,h1,c1⟩:=boxed h op (a:Int) B C
 obtain⟨s0,f0⟩:=h1.get (o+1) (by omega)
 obtain⟨s1,-⟩:=h1.get (o+2+a) (by omega)
 have HF0:=Qq (show zK [g] w ((w.alloc (.cells #[.int .i64 op,.int .i64 (a:Int),.int .i64 B,.int .i64 C] 86)).drew)∧zQ ((w.alloc (.cells #[.int .i64 op,.int .i64 (a:Int),.int .i64 B,.int .i64 C] 86)).drew) g n cap z from⟨c1.drew,h1.below (zg _)⟩)
 have HF1:=Qq (Wo h1 c1 (o+1) B)
 have a0:(0:Int)≤(a:Int):=by omega
 have a8:(a:Int)<8:=by omega
 generalize z.getD (o+2+a) 0=v at *
 generalize z.getD (o+1) 0=u at *
 clear h h1 c1;by_cases hv:v=0
 ·rw[if_pos hv]
  subst hv;go_enter Tryz.func154,Tryz.ntmps154
  go_upto_region 1 with fail
  generalize w.alloc (.cells #[.int .i64 op,.int .i64 (a:Int),.int .i64 B,.int .i64 C] 86)=w1 at *
  generalize w.heap.size=bx at *;refine zk (fun wx=>∃nq,wx=World.drewN (w1) nq) 8 0 (Array.replicate 8 false) (Qj 8 255) (by kernel_rfl) (by kernel_rfl) ?_
  refine zf 0 8 _ (Qj 8 255) 0 (by kernel_rfl) za (zE w1) (by kernel_rfl) ?_
  simp only[QX,QV,QJ];(repeat((first|refine Qx (h:=?_)|refine Qw (h:=?_));simp only[Act.put,QW,QY,QZ]));refine zb ?_;refine zo ?_;refine zD (by kernel_rfl) (NoPanic.normal ?_)
  go_wp2;go_end0
  exact⟨rfl,HF0.out⟩
 ·rw[if_neg hv]
  have hd:(v==0)=false:=by simpa using hv
  have hd2:(v !=0)=true:=by simpa using hv
  clear hv;go_enter Tryz.func154,Tryz.ntmps154
  go_upto_region 1 with fail
  generalize w.alloc (.cells #[.int .i64 op,.int .i64 (a:Int),.int .i64 B,.int .i64 C] 86)=w1 at *
  generalize w.heap.size=bx at *;refine zk (fun wx=>∃nq,wx=World.drewN (w1) nq) 8 0 (Array.replicate 8 false) (Qj 8 255) (by kernel_rfl) (by kernel_rfl) ?_
  refine zf 0 8 _ (Qj 8 255) 0 (by kernel_rfl) za (zE w1) (by kernel_rfl) ?_
  simp only[QX,QV,QJ];(repeat((first|refine Qx (h:=?_)|refine Qw (h:=?_));simp only[Act.put,QW,QY,QZ]));refine zb ?_;refine zo ?_;refine zD (by kernel_rfl) (NoPanic.normal ?_)
  go_wp2;go_end0
  exact⟨rfl,HF1.out⟩
end Go.Proofs.YtlkjheheofgdgaaGreat
