/-
  Texts put together: WdPure2, WdOth, WdUnl, WdDo, SegL, WdDo2, WdLets, WdKeeps, WdExec, WdEmit, WdRand, WdLock, WdCall, WdRet, WdSpawn, WdChan, WdSlp, WdDoes.
-/
import Derived.Test.YtlkjheheofgdgaaGreatLo3
import Derived.Deep.CutBlock
import Derived.Test.YtlkjheheofgdgaaGreatLo2
import Derived.Test.YtlkjheheofgdgaaGreatLo1
set_option maxRecDepth 100000
set_option maxHeartbeats 16000000
set_option linter.unusedSimpArgs false
set_option linter.unusedVariables false
open Go Go.RowKit
namespace Go.Proofs.YtlkjheheofgdgaaGreat
theorem Ps (args:Array Value)(w:World):(callFunc 146 args).run Tryz.prog w=.ok (.enter 146 args) w:=by kernel_rfl
theorem SH (args:Array Value)(w:World):(callFunc 148 args).run Tryz.prog w=.ok (.enter 148 args) w:=by kernel_rfl
theorem Q9 (args:Array Value)(w:World):(callFunc 150 args).run Tryz.prog w=.ok (.enter 150 args) w:=by kernel_rfl
theorem Qk (args:Array Value)(w:World):(callFunc 151 args).run Tryz.prog w=.ok (.enter 151 args) w:=by kernel_rfl
theorem Ry (args:Array Value)(w:World):(callFunc 152 args).run Tryz.prog w=.ok (.enter 152 args) w:=by kernel_rfl
theorem RK (args:Array Value)(w:World):(callFunc 153 args).run Tryz.prog w=.ok (.enter 153 args) w:=by kernel_rfl
theorem UR (args:Array Value)(w:World):(callFunc 154 args).run Tryz.prog w=.ok (.enter 154 args) w:=by kernel_rfl
theorem xM (z:List Int)(o k:Nat)(x:Int):(z.set (o+1) x).getD (o+2+k) 0=z.getD (o+2+k) 0:=by
 rw[List.getD_eq_getElem?_getD,List.getD_eq_getElem?_getD,List.getElem?_set_ne (by omega)]
def Vb (x:yq):Prop :=
 x.1=0∨(x.1=1∧0≤x.2.1∧x.2.1<8)∨(x.1=2∧(0≤x.2.1∧x.2.1<8)∧0≤x.2.2.1∧x.2.2.1<8)∨((x.1=3∨x.1=4∨x.1=5∨x.1=6)∧(0≤x.2.1∧x.2.1<8)∧(0≤x.2.2.1∧x.2.2.1<8)∧0≤x.2.2.2∧x.2.2.2<8)∨x.1=7∨(x.1=8∧0≤x.2.1∧x.2.1<8)
theorem N0 (g o n cap:Nat)(z z':List Int)(x:yq)(w:World)(h:zQ w g n cap z)(ho:o+11≤n*11)(hat:0≤z.getD (o+1) 0∧z.getD (o+1) 0<1000)(hx:Vb x)(hz:Z0 x o z=some z') :
  Calls Tryz.prog 119 #[.pointer (some ⟨g,o,none⟩),.agg #[.int .i64 x.1,.int .i64 x.2.1,.int .i64 x.2.2.1,.int .i64 x.2.2.2]] w fun e w'=>e=.returned (.bool true)∧zK [g] w w'∧zQ w' g n cap z':=by
 obtain⟨op,A,B,C⟩:=x;have hzo:z[o+1]?=some (z.getD (o+1) 0):=by
  have hl:o+1<z.length:=by rw[h.len];omega
  rw[List.getD_eq_getElem?_getD,List.getElem?_eq_getElem hl];rfl
 unfold Z0 at hz;simp only at hz ⊢
 generalize hat0:z.getD (o+1) 0=at0 at *
 rcases hx with hx|⟨hx,hA⟩|⟨hx,hA,hB⟩|⟨hx,hA,hB,hC⟩|hx|⟨hx,hA⟩
 ·simp only at hx
  subst hx;simp only[if_true,Option.some.injEq] at hz;subst hz;exact Zv g o n cap _ 0 z _ 0 _ _ _ at0 w h hzo hat (by rfl) Ps (fun w' h'=>by
   exact Gw g o n cap A B C _ 0 w' h' ho)
 ·simp only at hx hA
  subst hx;obtain⟨a,rfl,ha⟩:=yN (n:=8) hA
  simp at hz
  subst hz;exact Zv g o n cap _ 1 z _ 1 _ _ _ at0 w h hzo hat (by rfl) TR (fun w' h'=>by
   exact TU g o a n cap _ B C w' ha h' ho)
 ·simp only at hx hA hB
  subst hx;obtain⟨a,rfl,ha⟩:=yN (n:=8) hA
  obtain⟨b,rfl,hb⟩:=yN (n:=8) hB
  simp at hz
  subst hz;exact Zv g o n cap _ 2 z _ 2 _ _ _ at0 w h hzo hat (by rfl) SH (fun w' h'=>by
   have:=JQ g o n cap a b ha hb C _ 2 w' h' ho
   rw[xM] at this;simpa using this)
 ·simp only at hx hA hB hC
  obtain⟨a,rfl,ha⟩:=yN (n:=8) hA
  obtain⟨b,rfl,hb⟩:=yN (n:=8) hB
  obtain⟨c,rfl,hc⟩:=yN (n:=8) hC
  rcases hx with hx|hx|hx|hx
  ·subst hx
   simp at hz
   subst hz;exact Zv g o n cap _ 3 z _ 3 _ _ _ at0 w h hzo hat (by rfl) PF (fun w' h'=>by
    have:=FC g o n cap a b c ha hb hc _ 3 w' h' ho
    rw[xM,xM] at this;simpa using this)
  ·subst hx
   simp at hz
   subst hz;exact Zv g o n cap _ 4 z _ 4 _ _ _ at0 w h hzo hat (by rfl) Q9 (fun w' h'=>by
    have:=Gd g o n cap a b c ha hb hc _ 4 w' h' ho
    rw[xM,xM] at this;simpa using this)
  ·subst hx
   simp at hz
   subst hz;exact Zv g o n cap _ 5 z _ 5 _ _ _ at0 w h hzo hat (by rfl) Qk (fun w' h'=>by
    have:=GN g o n cap a b c ha hb hc _ 5 w' h' ho
    rw[xM,xM] at this;simpa using this)
  ·subst hx
   simp at hz
   subst hz;exact Zv g o n cap _ 6 z _ 6 _ _ _ at0 w h hzo hat (by rfl) Ry (fun w' h'=>by
    have:=J7 g o n cap a b c ha hb hc _ 6 w' h' ho
    rw[xM,xM] at this;simpa using this)
 ·simp only at hx
  subst hx;simp at hz
  subst hz;exact Zv g o n cap _ 7 z _ 7 _ _ _ at0 w h hzo hat (by rfl) RK (fun w' h'=>by
   have:=JG g o n cap A B C _ 7 w' h' ho
   simpa using this)
 ·simp only at hx hA
  subst hx;obtain⟨a,rfl,ha⟩:=yN (n:=8) hA
  simp at hz
  subst hz;exact Zv g o n cap _ 8 z _ 8 _ _ _ at0 w h hzo hat (by rfl) UR (fun w' h'=>by
   have:=Ee g o n cap a ha B C _ 8 w' h' ho
   rw[xM] at this;simpa using this)
theorem Ij (op:Int)(h:9≤op∧op≤22):Instr.findNow (.int .i64) (.int .i64 op) TL 0=some none:=by
 have:op=9∨op=10∨op=11∨op=12∨op=13∨op=14∨op=15∨op=16∨op=17∨op=18∨op=19∨op=20∨op=21∨op=22:=by omega
 rcases this with rfl|rfl|rfl|rfl|rfl|rfl|rfl|rfl|rfl|rfl|rfl|rfl|rfl|rfl<;>rfl
theorem MQ (v:Value)(op A B C:Int)(h9:9≤op∧op≤22)(w:World):Calls Tryz.prog 119 #[v,.agg #[.int .i64 op,.int .i64 A,.int .i64 B,.int .i64 C]] w fun e w'=>e=.returned (.bool false)∧Below w.heap.size w w':=by
 have HFI:=Qq (Ij op h9)
 clear h9;go_enter Tryz.func119,Tryz.ntmps119
 go_wp2_with fail;have hx0:zH (w.alloc (Obj.cells #[Value.int IntKind.i64 op,Value.int IntKind.i64 A,Value.int IntKind.i64 B,Value.int IntKind.i64 C] 86)) w.heap.size [Value.int IntKind.i64 op,Value.int IntKind.i64 A,Value.int IntKind.i64 B,Value.int IntKind.i64 C]:=zH.mk w _ _ _ rfl
 have hB:=below_alloc1 w (Obj.cells #[Value.int IntKind.i64 op,Value.int IntKind.i64 A,Value.int IntKind.i64 B,Value.int IntKind.i64 C] 86)
 generalize w.alloc (Obj.cells #[Value.int IntKind.i64 op,Value.int IntKind.i64 A,Value.int IntKind.i64 B,Value.int IntKind.i64 C] 86)=W0 at *
 have hsz:=hB.size;obtain⟨bx,hbx⟩:∃bx,w.heap.size=bx:=⟨_,rfl⟩
 rw[hbx] at hx0 hB hsz ⊢;have HS:=Qq hbx;have HX:=Qq hx0;have HB:=Qq hB;clear hbx hx0 hB;have hld:∀w',Below W0.heap.size W0 w'→w'.cell? ⟨bx,0,none⟩=some (.int .i64 op):=fun w' hb=>((HX.out.below hb) 0 _ rfl).1
 have HL:=Qq hld;clear hld;go_region_held3 (fun w'=>w'.cell? ⟨bx,0,none⟩=some (.int .i64 op)∧Below W0.heap.size W0 w') (first|exact⟨HL.out _ (zg _),zg _⟩|assumption|(have hq:=zB (zg W0) hb;exact⟨HL.out _ hq,hq⟩)) ((go_at_call 129;refine(Tm _).mono ?_;rintro e w1 ⟨rfl,hm,hb⟩;have hl:(Instr.lookup 260 (.map (some W0.heap.size)) (.int .i64 op) true).run Tryz.prog w1=.ok (.tuple #[.nilFunc,.bool false]) w1:=Vx (n:=op) Tryz.underlying260 Tryz.underlying84 hm (NS _) HFI.out))
 go_wp2_with fail;go_ret;exact⟨rfl,by rw[HS.out];exact HB.out.trans ((zB (zg W0) hb).mono hsz)⟩
theorem WR {P:Program}{w:World}{ops:Array Oper}{rest:List Oper}{o:Oper}{a:Act}{Q:Exit→Act→World→Prop}
  (hg:o.guard=none) (t:TypeId) (x v:Operand) (hop:o.op=Op.store t x v) (c c':Array Value) (hi:(P.info? t).map (·.size)=some c'.size) (ho:c.size=c'.size) (h1:c'.all (·.oneCell')=true)
  (hx:a.eval x=.pointer (some ⟨w.heap.size,0,none⟩)) (hv:a.eval v=.agg c')
  (hK:wpList P ops Q rest (a.put o.dst undef) (w.alloc (.cells c' t))):wpList P ops Q (o::rest) a (w.alloc (.cells c t)):=by
 refine wpList_plain hg fun K' hK'=>?_
 have hrun:=run_storeAt_new (P:=P) w t c c' hi ho h1
 unfold Oper.wp;simp[execOp,hop,hx,hv,hrun,Result.andThen]
 exact hK' _ _ (by simpa using hK)
theorem wpList_build {P:Program}{w:World}{ops:Array Oper}{rest:List Oper}{o:Oper}{a:Act}{Q:Exit→Act→World→Prop}
  (hg:o.guard=none) (t:TypeId) (ps:Array (Nat×Operand)) (hop:o.op=Op.build t ps) (v:Value) (hr:(Instr.build t (ps.map fun x=>(x.1,a.eval x.2))).run P w=.ok v w)
  (hK:wpList P ops Q rest (a.put o.dst v) w):wpList P ops Q (o::rest) a w:=by
 refine wpList_plain hg fun K' hK'=>?_
 unfold Oper.wp;simp only[execOp,hop];have hr':(Instr.build t (ps.map fun(i,x)=>(i,a.eval x))).run P w=.ok v w:=hr
 simp[hr',Result.andThen]
 exact hK' _ _ (by simpa using hK)
def Hh:Array Value:=#[.nilFunc,.nilFunc,.nilFunc,.nilFunc,.nilFunc,.nilFunc,.nilFunc,.nilFunc,.nilFunc,.nilFunc,.nilFunc,.nilFunc,.nilFunc,.nilFunc,.nilFunc,.nilFunc,.nilFunc,.nilFunc,.nilFunc,.nilFunc,.nilFunc,.nilFunc,.nilFunc]
def YC:Array Value:=#[.nilFunc,.nilFunc,.nilFunc,.nilFunc,.nilFunc,.nilFunc,.nilFunc,.nilFunc,.nilFunc,.func (.func 130) #[] #[],.func (.func 131) #[] #[],.func (.func 132) #[] #[],.func (.func 133) #[] #[],.func (.func 134) #[] #[],.func (.func 134) #[] #[],.func (.func 135) #[] #[],.func (.func 136) #[] #[],.func (.func 137) #[] #[],.func (.func 138) #[] #[],.func (.func 139) #[] #[],.func (.func 140) #[] #[],.func (.func 141) #[] #[],.func (.func 142) #[] #[]]
theorem J5:(Tryz.prog.info? 252).map (fun i=>(i.zero,i.size))=some (some (.agg Hh),23):=by kernel_rfl
theorem QE (w:World):Calls Tryz.prog 120 #[] w fun r w'=>r=.returned (.agg YC)∧Below w.heap.size w w':=by
 obtain⟨hz,hs⟩:=zero_of_info J5;have hsz:∀w,(sizeOf 252).run Tryz.prog w=.ok 23 w:=fun w=>by
  cases hq:Tryz.prog.info? 252 with
  | none=>rw[hq] at hs;cases hs
  | some i=>rw[hq] at hs;simp at hs;simp[sizeOf,typeInfo,hq,hs]
 have hi:(Tryz.prog.info? 252).map (·.size)=some YC.size:=hs
 have hld:=run_loadVar_new (P:=Tryz.prog) w 252 YC 23 251 (by kernel_rfl) hi
 go_enter Tryz.func120,Tryz.ntmps120
 go_upto_region 1 with fail
 refine wp_region_lit ?_;refine wpList_build rfl 252 _ rfl (.agg YC) (by kernel_rfl) ?_
 refine WR rfl 252 _ _ rfl Hh YC hi rfl (by simp[YC,Value.oneCell']) rfl (by rfl) ?_
 refine wpList_nil ?_;have hb:=below_alloc1 w (.cells YC 252)
 have hag:∀w,(isAgg 252).run Tryz.prog w=.ok true w:=fun w=>by kernel_rfl
 have hsz1:=hsz (w.alloc (.cells YC 252))
 have hag1:=hag (w.alloc (.cells YC 252))
 generalize w.alloc (.cells YC 252)=W1 at *
 have HL:=Qq hld;have HS:=Qq hsz1;have HG:=Qq hag1;have HB:=Qq hb;clear hz hsz hld hs hi hb hag hsz1 hag1;generalize hOO:YC=OO at *
 have HOO:=Qq hOO;clear hOO;simp only[Act.put,QW,QY,QZ];go_wp2;refine bodyPost_ret (v:=.agg OO) ?_ rfl ⟨by rw[HOO.out],HB.out⟩
 have h1:=HL.out;have h2:=HS.out;have h3:=HG.out;simp[results,Tryz.results120,Sem.run_bind,h1,Result.andThen,asAddr]
theorem Q7 (q:Nat)(w:World):Calls Tryz.prog 133 #[.pointer (some ⟨q,0,none⟩)] w fun r w'=>r=.returned (.tuple #[])∧w=w':=by
 go_enter Tryz.func133,Tryz.ntmps133
 go_wp2;go_end0
 exact⟨rfl,rfl⟩
theorem KI (q:Nat)(k:Int)(w:World)(h:w.cell? ⟨q,3,none⟩=some (.int .i64 k)):Calls Tryz.prog 142 #[.pointer (some ⟨q,0,none⟩)] w fun r w'=>r=WA k∧w=w':=by
 unfold WA;go_enter Tryz.func142,Tryz.ntmps142
 go_wp2;exact⟨rfl,rfl,rfl⟩
theorem Sv {w0 w:World}{p:Nat}{T:List Value}{d:Dq}{W:Wd}{R:List zv}(h:yL w0 w p T d W [] R)(hg:d.g<W.gs.length)(hm:1≤(W.g d.g).n∧(W.g d.g).n≤16)(ha:0≤d.x.2.1∧d.x.2.1<(W.Ls.length:Int))
  (hl:∀L∈W.Ls,∀x∈L,0≤x∧x<(W.gs.length:Int)) (hk:W.Ls.length≤1000) (hgs:W.gs.length≤1000) :
  Calls Tryz.prog 139 #[.pointer (some ⟨d.q,0,none⟩)] w fun r w'=>ZQ w0 p T d R (Zr W [] d.g d.x) r w':=by
 obtain⟨D,ra,rc,hf,h⟩:=h;obtain⟨a,hA,ha8⟩:=yN (n:=W.Ls.length) ha
 obtain⟨b,off,s,cap,F⟩:=ZB hf h hg hm;have q0:=F.top.d0;have q1:=F.top.d1;have q3:=(h.zi 10 rfl 3 _ rfl).1
 have p4:=(h.zi 0 rfl 4 _ rfl).1
 rw[hA] at q3;obtain⟨pt,lb,lo,R',hla,l0,k1,k2⟩:=Ro h hf ha8;rw[hla] at p4;have a0:(0:Int)≤(a:Int):=by omega
 have a8:(a:Int)<(W.Ls.length:Int):=by omega
 have hLl:=hl _ (List.mem_of_getElem? (Wd.SI ha8))
 obtain⟨L,hL⟩:∃L,L=W.lk (a:Int):=⟨_,rfl⟩
 rw[←hL] at k1 hLl;have e:Zr W [] d.g d.x=if(xr L (d.g:Int)).2=0 then(if(xr L (d.g:Int)).1 = -1 then⟨{ W with Ls:=W.Ls.set a (gaveL L (d.g:Int)) },[],none⟩ else⟨({ W with Ls:=W.Ls.set a (gaveL L (d.g:Int)) }:Wd).zU (xr L (d.g:Int)).1.toNat 1,[(xr L (d.g:Int)).1],none⟩) else⟨W,[],some (-3)⟩:=by
  unfold Zr;rw[hA,←hL];rfl
 rw[e];have HC:Hid (∀k,Calls Tryz.prog 165 #[.pointer (some ⟨pt,0,none⟩),.int .i64 (d.g:Int)] (w.drewN k) fun r w'=>r=.returned (.tuple #[.int .i64 (xr L (d.g:Int)).1,.int .i64 (xr L (d.g:Int)).2])∧yL w0 w' p T d { W with Ls:=W.Ls.set a (gaveL L (d.g:Int)) } [] R) :=
  Qq (fun k=>(JN (k1.step (zx w k)) (d.g:Int)).mono (fun r w' hh=>⟨hh.1,D,ra,rc,(k2 _ _ hh.2).2,(k2 _ _ hh.2).1⟩))
 have hW1:gaveL L (d.g:Int)=L→({ W with Ls:=W.Ls.set a (gaveL L (d.g:Int)) }:Wd)=W:=fun hh=>by rw[hh,hL,yt _ _ _ (Wd.SI ha8)]
 have HW:=Qq hW1;have HWk:Hid (∀w',yL w0 w' p T d { W with Ls:=W.Ls.set a (gaveL L (d.g:Int)) } [] R→∀k:Nat,(k:Int)∈L→Calls Tryz.prog 157 #[.pointer (some ⟨d.q,0,none⟩),.int .i64 (k:Int)] w' fun r w''=>r=.returned (.tuple #[])∧yL w0 w'' p T d (({ W with Ls:=W.Ls.set a (gaveL L (d.g:Int)) }:Wd).zU k 1) [(k:Int)] R) :=
  Qq (fun w' h' k hk=>WO (rd:=[]) h' k (by have:=hLl _ hk;show k<W.gs.length;omega) hgs (by simp))
 have HL:=Qq hLl;generalize W.Ls.length=N at *;clear k1 k2 h F hf hA ha hl hLl hm e hW1 hL;have hg3:(xr L (d.g:Int)).2=0∧((xr L (d.g:Int)).1 = -1∨∃k:Nat,(xr L (d.g:Int)).1=(k:Int)∧(k:Int)∈L)∨(xr L (d.g:Int))=(-1,5)∧gaveL L (d.g:Int)=L:=by
  cases L with
  | nil=>exact .inr ⟨rfl,rfl⟩
  | cons x t =>
   unfold xr gaveL;by_cases hx:x=(d.g:Int)
   ·left
    simp only[hx,if_true,true_and];cases t with
    | nil=>exact .inl rfl
    | cons y t =>
     have:=HL.out y (by simp)
     exact .inr ⟨y.toNat,by simp;omega,by simp;right;left;omega⟩
   ·right
    simp only[hx,if_false,and_self]
 rcases hg3 with⟨h1,h2⟩|⟨h1,h2⟩
 ·rw[h1] at HC ⊢
  rw[if_pos rfl];rcases h2 with h2|⟨k,h2,h3⟩
  ·rw[h2] at HC ⊢
   rw[if_pos rfl];clear HW HWk HL h1 h2;generalize ({ W with Ls:=W.Ls.set a (gaveL L (d.g:Int)) }:Wd)=W1 at *
   go_enter Tryz.func139,Tryz.ntmps139
   go_upto_region 0 with fail
   refine zk (fun wx=>∃nq,wx=World.drewN (w) nq) 18 6 (Array.replicate 24 false) (Qj 24 262143) (by kernel_rfl) (by kernel_rfl) ?_
   refine zf 0 18 _ (Qj 24 262143) 0 (by kernel_rfl) za (zE w) (by kernel_rfl) ?_
   simp only[QX,QV,QJ];(repeat((first|refine Qx (h:=?_)|refine Qw (h:=?_));simp only[Act.put,QW,QY,QZ]));refine zb ?_;refine zo ?_;refine yA (fun _=>True) 6 0 (Qj 24 16777215) ?_
   refine zA 18 _ (Qj 24 524287) 5 (by kernel_rfl) (fun K hK=>?_)
   have HKK:=Qq hK;clear hK;simp only[QQ,QJ];refine zc (by rfl) ?_;go_simp;refine(HC.out 1).mono ?_
   rintro r w1 ⟨rfl,h1⟩;refine HKK.out _ _ (trivial) ?_
   clear HKK K;refine zf 19 2 _ (Qj 24 2097151) 3 (by kernel_rfl) za (trivial) (by kernel_rfl) ?_
   simp only[QX,QV,QQ,QJ];(repeat((first|refine Qx (h:=?_)|refine Qv (h:=?_));simp only[Act.put,QW,QY,QZ]));refine zb ?_;refine zf 22 1 _ (Qj 24 6291455) 2 (by kernel_rfl) za (trivial) (by kernel_rfl) ?_
   simp only[QX,QV,QQ,QJ];(repeat((first|refine Qx (h:=?_)|refine Qv (h:=?_));simp only[Act.put,QW,QY,QZ]));refine zb ?_;refine zf 21 1 _ (Qj 24 8388607) 1 (by kernel_rfl) za (trivial) (by kernel_rfl) ?_
   simp only[QX,QV,QQ,QJ];(repeat((first|refine Qx (h:=?_)|refine Qv (h:=?_));simp only[Act.put,QW,QY,QZ]));refine zb ?_;refine zf 23 1 _ (Qj 24 16777215) 0 (by kernel_rfl) za (trivial) (by kernel_rfl) ?_
   simp only[QX,QV,QQ,QJ];(repeat((first|refine Qx (h:=?_)|refine Qv (h:=?_));simp only[Act.put,QW,QY,QZ]));refine zb ?_;refine zo ?_;refine zD (by kernel_rfl) (NoPanic.normal ?_)
   have H1:=Qq h1;clear h1 HC;go_wp2;go_end0
   exact⟨rfl,H1.out⟩
  ·rw[h2] at HC ⊢
   rw[if_neg (by omega)]
   have hne:((k:Int) == -1)=false:=by simp
   simp only[Int.toNat_natCast];have HWk':=Qq (fun w' h'=>HWk.out w' h' k h3)
   clear HW HWk HL h1 h2 h3;generalize ({ W with Ls:=W.Ls.set a (gaveL L (d.g:Int)) }:Wd)=W1 at *
   go_enter Tryz.func139,Tryz.ntmps139
   go_upto_region 0 with fail
   refine zk (fun wx=>∃nq,wx=World.drewN (w) nq) 18 6 (Array.replicate 24 false) (Qj 24 262143) (by kernel_rfl) (by kernel_rfl) ?_
   refine zf 0 18 _ (Qj 24 262143) 0 (by kernel_rfl) za (zE w) (by kernel_rfl) ?_
   simp only[QX,QV,QJ];(repeat((first|refine Qx (h:=?_)|refine Qw (h:=?_));simp only[Act.put,QW,QY,QZ]));refine zb ?_;refine zo ?_;refine yA (fun _=>True) 6 0 (Qj 24 16777215) ?_
   refine zA 18 _ (Qj 24 524287) 5 (by kernel_rfl) (fun K hK=>?_)
   have HKK:=Qq hK;clear hK;simp only[QQ,QJ];refine zc (by rfl) ?_;go_simp;refine(HC.out 1).mono ?_
   rintro r w1 ⟨rfl,h1⟩;refine HKK.out _ _ (trivial) ?_
   clear HKK K;refine zf 19 2 _ (Qj 24 2097151) 3 (by kernel_rfl) za (trivial) (by kernel_rfl) ?_
   simp only[QX,QV,QQ,QJ];(repeat((first|refine Qx (h:=?_)|refine Qv (h:=?_));simp only[Act.put,QW,QY,QZ]));refine zb ?_;refine zf 22 1 _ (Qj 24 6291455) 2 (by kernel_rfl) za (trivial) (by kernel_rfl) ?_
   simp only[QX,QV,QQ,QJ];(repeat((first|refine Qx (h:=?_)|refine Qv (h:=?_));simp only[Act.put,QW,QY,QZ]));refine zb ?_;refine zf 21 1 _ (Qj 24 8388607) 1 (by kernel_rfl) za (trivial) (by kernel_rfl) ?_
   simp only[QX,QV,QQ,QJ];(repeat((first|refine Qx (h:=?_)|refine Qv (h:=?_));simp only[Act.put,QW,QY,QZ]));refine zb ?_;refine zf 23 1 _ (Qj 24 16777215) 0 (by kernel_rfl) za (trivial) (by kernel_rfl) ?_
   simp only[QX,QV,QQ,QJ];(repeat((first|refine Qx (h:=?_)|refine Qv (h:=?_));simp only[Act.put,QW,QY,QZ]));refine zb ?_;refine zo ?_;refine zD (by kernel_rfl) (NoPanic.normal ?_)
   have H1:=Qq h1;clear h1 HC;go_wp2_with fail;refine(HWk'.out _ H1.out).mono ?_
   rintro r w2 ⟨rfl,h2⟩;have H2:=Qq h2;clear h2 H1 HWk';go_wp2;go_end0
   exact⟨rfl,H2.out⟩
 ·rw[HW.out h2] at HC
  rw[h1] at HC ⊢;rw[if_neg (by decide)]
  clear HW HWk HL h1 h2;go_enter Tryz.func139,Tryz.ntmps139
  go_upto_region 0 with fail
  refine zk (fun wx=>∃nq,wx=World.drewN (w) nq) 18 6 (Array.replicate 24 false) (Qj 24 262143) (by kernel_rfl) (by kernel_rfl) ?_
  refine zf 0 18 _ (Qj 24 262143) 0 (by kernel_rfl) za (zE w) (by kernel_rfl) ?_
  simp only[QX,QV,QJ];(repeat((first|refine Qx (h:=?_)|refine Qw (h:=?_));simp only[Act.put,QW,QY,QZ]));refine zb ?_;refine zo ?_;refine yA (fun _=>True) 6 0 (Qj 24 16777215) ?_
  refine zA 18 _ (Qj 24 524287) 5 (by kernel_rfl) (fun K hK=>?_)
  have HKK:=Qq hK;clear hK;simp only[QQ,QJ];refine zc (by rfl) ?_;go_simp;refine(HC.out 1).mono ?_
  rintro r w1 ⟨rfl,h1⟩;refine HKK.out _ _ (trivial) ?_
  clear HKK K;refine zf 19 2 _ (Qj 24 2097151) 3 (by kernel_rfl) za (trivial) (by kernel_rfl) ?_
  simp only[QX,QV,QQ,QJ];(repeat((first|refine Qx (h:=?_)|refine Qv (h:=?_));simp only[Act.put,QW,QY,QZ]));refine zb ?_;refine zf 22 1 _ (Qj 24 6291455) 2 (by kernel_rfl) za (trivial) (by kernel_rfl) ?_
  simp only[QX,QV,QQ,QJ];(repeat((first|refine Qx (h:=?_)|refine Qv (h:=?_));simp only[Act.put,QW,QY,QZ]));refine zb ?_;refine zf 21 1 _ (Qj 24 8388607) 1 (by kernel_rfl) za (trivial) (by kernel_rfl) ?_
  simp only[QX,QV,QQ,QJ];(repeat((first|refine Qx (h:=?_)|refine Qv (h:=?_));simp only[Act.put,QW,QY,QZ]));refine zb ?_;refine zf 23 1 _ (Qj 24 16777215) 0 (by kernel_rfl) za (trivial) (by kernel_rfl) ?_
  simp only[QX,QV,QQ,QJ];(repeat((first|refine Qx (h:=?_)|refine Qv (h:=?_));simp only[Act.put,QW,QY,QZ]));refine zb ?_;refine zo ?_;refine zD (by kernel_rfl) (NoPanic.normal ?_)
  have H1:=Qq h1;clear h1 HC;go_wp2;exact⟨rfl,rfl,H1.out⟩
theorem Hr (a V:Value):(#[a]++(Array.replicate 22 undef).setIfInBounds 3 V)=#[a,undef,undef,undef,V,undef,undef,undef,undef,undef,undef,undef,undef,undef,undef,undef,undef,undef,undef,undef,undef,undef,undef]:=by kernel_rfl
def Te (k:Int):Value:=.iface 249 (.int .i64 k)
theorem Jx (k:Int)(w:World):(Instr.typeAssert (Te k) 20 249 true).run Tryz.prog w=.ok (.tuple #[.int .i64 k,.bool true]) w 
  := by kernel_rfl
theorem Vo (b:Nat)(w:World) :
  CallsD Tryz.prog 117 #[.pointer (some ⟨b,0,none⟩)] .returning w fun e u' w'=>e=.returned (.tuple #[])∧u'=.returning∧w'=w:=by
 refine callsD_of_wpS Tryz.func117 rfl fun c₀ ct hu=>?_
 apply wpS_seq
 apply wpS_region
 simp[wpOpsS,go_sem,recoverD,hu,Tryz.ntmps117,Exit.thenS]
 rw[Hr];refine wpS_of_wp ?_;go_wp2;cases c₀
 simp_all [bodyPostS,results,Tryz.results117]
def Wd.Nt (W:Wd)(k:Int):Wd:={ W with en:=2,why:=k }
theorem Rz {w0 w:World}{p q b:Nat}{T:List Value}{W:Wd}{D:Wa}{cs:List Value}{Y:List zv}(k:Int)(h:Own w0 w (zj p W D T++(ze b [.pointer (some ⟨q,0,none⟩)]::ze q (.pointer (some ⟨p,0,none⟩)::cs)::Y)))(older:List PanicEntry) :
  CallsD Tryz.prog 117 #[.pointer (some ⟨b,0,none⟩)] (.panicking ({ v:=Te k,recovered:=false }::older)) w fun e u' w' =>
   e=.returned (.tuple #[])∧u'=.panicking ({ v:=Te k,recovered:=true }::older)∧Own w0 w' (zj p (W.Nt k) D T++(ze b [.pointer (some ⟨q,0,none⟩)]::ze q (.pointer (some ⟨p,0,none⟩)::cs)::Y)):=by
 have h2:=fun w=>Jx k w
 have h3:∀w:World,(binOp .eql 20 (Te k) .nilIface).run Tryz.prog w=.ok (.bool false) w:=fun w=>rfl
 have h4:∀w:World,(eqGuard .eql 20 (.tmp 4) (.const .nilIface) (Te k) .nilIface).run Tryz.prog w=.ok () w:=fun w=>rfl
 generalize Te k=V at *;have b0:=(h.zi 10 rfl 0 _ rfl).1
 have q0:=(h.zi 11 rfl 0 _ rfl).1
 have H:=Qq h;have HP:Hid (∀w1:World,Own w0 w1 (zj p W D T++(ze b [.pointer (some ⟨q,0,none⟩)]::ze q (.pointer (some ⟨p,0,none⟩)::cs)::Y))→(∃v,w1.cell? ⟨p,9,none⟩=some v)∧w1.frozen? ⟨p,9,none⟩=false∧(∃v,w1.cell? ⟨p,10,none⟩=some v)∧w1.frozen? ⟨p,10,none⟩=false ∧
   Own w0 ((w1.setCell ⟨p,9,none⟩ (.int .i64 2)).setCell ⟨p,10,none⟩ (.int .i64 k)) (zj p (W.Nt k) D T++(ze b [.pointer (some ⟨q,0,none⟩)]::ze q (.pointer (some ⟨p,0,none⟩)::cs)::Y))):=Qq (fun w1 h1=>by
  obtain⟨x0,x1⟩:=h1.zi 0 rfl 9 _ rfl;obtain⟨y0,y1⟩:=h1.zi 0 rfl 10 _ rfl;exact⟨⟨_,x0⟩,x1,⟨_,y0⟩,y1,(h1.setAt 0 rfl 9 (.int .i64 2)).setAt 0 rfl 10 (.int .i64 k)⟩)
 clear h;refine callsD_of_wpS Tryz.func117 rfl fun c₀ ct hu=>?_
 apply wpS_seq
 apply wpS_region
 simp[wpOpsS,go_sem,recoverD,hu,Tryz.ntmps117,Exit.thenS]
 rw[Hr];refine wpS_of_wp ?_;go_upto_region 7 with fail
 obtain⟨⟨v9,x0⟩,x1,⟨v10,y0⟩,y1,ho⟩:=HP.out w H.out;have ho2:=ho.step (zg _)
 have SB:∀(wx:World) (W':Wd),Own w0 wx (zj p W' D T++(ze b [.pointer (some ⟨q,0,none⟩)]::ze q (.pointer (some ⟨p,0,none⟩)::cs)::Y))→wx.cell? ⟨b,0,none⟩=some (.pointer (some ⟨q,0,none⟩))∧wx.cell? ⟨q,0,none⟩=some (.pointer (some ⟨p,0,none⟩)) :=
  fun wx W' h=>⟨(h.zi 10 rfl 0 _ rfl).1,(h.zi 11 rfl 0 _ rfl).1⟩
 have HM:Hid (Own w0 (w.setCell ⟨p,9,none⟩ (.int .i64 2)) (zj p { W with en:=2 } D T++(ze b [.pointer (some ⟨q,0,none⟩)]::ze q (.pointer (some ⟨p,0,none⟩)::cs)::Y))):=Qq (H.out.setAt 0 rfl 9 (.int .i64 2))
 have HS:=Qq SB;have HO2:=Qq ho2;have HO:=Qq ho;clear SB ho ho2 HP;refine zV (fun wx=>wx.cell? ⟨b,0,none⟩=some (.pointer (some ⟨q,0,none⟩))∧wx.cell? ⟨q,0,none⟩=some (.pointer (some ⟨p,0,none⟩))) 15 (Array.replicate 15 false) (by kernel_rfl) (by kernel_rfl) ?_
 refine zm 0 11 _ (Qj 15 2047) 4 (by kernel_rfl) za (HS.out _ W (H.out.step (zg _))) (by kernel_rfl) ?_
 simp only[QX,QV,QJ];(repeat((first|refine Qx (h:=?_)|refine Qv (h:=?_));simp only[Act.put,QW,QY,QZ]));refine zb ?_;refine zh 11 _ (Qj 15 4095) 3 (by kernel_rfl) (fun K hK=>?_)
 have HKK:=Qq hK;clear hK;simp only[QQ,QJ];refine zc (by rfl) ?_;go_simp;refine HKK.out _ _ ((by first|exact HS.out _ { W with en:=2 } (HM.out.step (zg _))|exact HS.out _ { W with en:=2 } HM.out)) ?_
 clear HKK K;refine zm 12 2 _ (Qj 15 16383) 1 (by kernel_rfl) za ((by first|exact HS.out _ { W with en:=2 } (HM.out.step (zg _))|exact HS.out _ { W with en:=2 } HM.out)) (by kernel_rfl) ?_
 simp only[QX,QV,QQ,QJ];(repeat((first|refine Qx (h:=?_)|refine Qv (h:=?_));simp only[Act.put,QW,QY,QZ]));refine zb ?_;refine zh 14 _ (Qj 15 32767) 0 (by kernel_rfl) (fun K hK=>?_)
 have HKK:=Qq hK;clear hK;simp only[QQ,QJ];refine zc (by rfl) ?_;go_simp;refine HKK.out _ _ ((by first|exact HS.out _ (W.Nt k) HO2.out|exact HS.out _ (W.Nt k) HO.out)) ?_
 clear HKK K;refine wpAnyH_done (by kernel_rfl) (NoPanic.normal ?_) _
 refine⟨rfl,_,rfl,.tuple #[],by simp[results,Tryz.results117],rfl,rfl,?_⟩
 first|exact HO2.out|exact HO.out
section
variable {P:Program} {ops:Array Oper} {Q:Exit→Act→World→Prop} {S:World→Prop} {md:Region.Mode}
theorem Oper.IK {Q':Exit→Act→World→Prop}(h:∀e a w,Q e a w→Q' e a w){o:Oper}{a:Act}{w:World}{K:Act→World→Prop}(hh:o.wp P a w K Q):o.wp P a w K Q':=by
 unfold Oper.wp at *;generalize (execOp a.eval o).run P w=r at *
 cases r with
 | ok n w' =>
  cases n<;>simp only[Oper.upon] at hh ⊢ <;>
   first
    | exact hh
    | exact Calls.mono hh (fun e w'' he=>by cases e<;>first|exact he|exact h _ _ _ he|(obtain⟨a,w,he⟩:=he;exact⟨a,w,h _ _ _ he⟩))
 | halt x w'=>cases x<;>simp only[Oper.upon] at hh ⊢<;>first|exact h _ _ _ hh|exact hh
theorem Nv {Q':Exit→Act→World→Prop}(h:∀e a w,Q e a w→Q' e a w){i:Nat}{a:Act}{w:World}{K:Act→World→Prop}(hh:wpOp P ops Q i K a w):wpOp P ops Q' i K a w:=by
 unfold wpOp at *;split
 ·simpa [*] using hh
 ·rename_i o ho
  simp only[ho] at hh;split
  ·rename_i hw;simp only[hw,if_true] at hh;exact hh.imp (Oper.IK h) (fun⟨h1,a,w,h2⟩=>⟨h1,a,w,h _ _ _ h2⟩)
  ·rename_i hw;simp only[hw] at hh;exact hh
def wpAnyL (P:Program)(md:Region.Mode)(ops:Array Oper)(Q:Exit→Act→World→Prop)(S:World→Prop)(g:Nat)(full:Array Bool):Nat→Array Bool→Act→World→Prop
 | 0,listed,a,w=>listed=full∧wpAny P md ops Q g full a w
 | fuel+1,listed,a,w=>Region.ready md ops listed≠[] ∧
  ∀i∈Region.ready md ops listed,wpOp P ops (NoPanic Q) i (fun a' w'=>S w'∧wpAnyL P md ops Q S g full fuel (listed.setIfInBounds i true) a' w') a w
theorem UA {g:Nat}{full:Array Bool}:∀(fuel:Nat) (listed:Array Bool) (a:Act) (w:World),wpAnyL P md ops Q S g full fuel listed a w→wpAny P md ops Q (fuel+g) listed a w
 | 0,_,_,_,h=>by obtain⟨rfl,h⟩:=h;rw[Nat.zero_add];exact h
 | fuel+1,_,_,_,h=>by
  rw[show fuel+1+g=(fuel+g)+1 by omega]
  exact⟨fun h0=>absurd h0 h.1,fun i hi=>Nv NoPanic.imp (wpOp_mono (fun a' w' h'=>UA fuel _ a' w' h'.2) (h.2 i hi))⟩
theorem wpAnyL_first {i:Nat}{oi:Oper}{v:Value}{g:Nat}{full:Array Bool}(hi:ops[i]?=some oi)(hsel:∀(j:Nat) (o:Oper) cs b,ops[j]?=some o→o.op≠.select cs b)
  (hB:Xf md ops full=true) :
  ∀(fuel:Nat) (listed:Array Bool) (a:Act) (w:World),
   (∀j oj,ops[j]?=some oj→j≠i→listed.getD j true=false→(∀e∈oj.after,Region.binds md e=true→e.on≠i)→oi.apart ops oj=true) →
   Zg md ops listed=true→i∈Region.ready md ops listed→YieldsIf P ops S oi v a→S w →
   wpAnyL P md ops Q S g full fuel (listed.setIfInBounds i true) (a.put oi.dst v) w→wpAnyL P md ops Q S g full (fuel+1) listed a w
 | 0,listed,a,w,_,hcl,hr,hy,hS,H=>by
  refine⟨fun h=>(by rw[h] at hr;cases hr),fun j hj=>?_⟩
  by_cases hji:j=i
  ·subst hji;exact hy.wpOp hi hS ⟨hS,H⟩
  ·exact(UY hcl hB (Array.getElem?_eq_some_iff.1 hi).1 H.1 (mem_ready.1 hr).1 hj hji).elim
 | fuel+1,listed,a,w,hfree,hcl,hr,hy,hS,H=>by
  refine⟨fun h=>(by rw[h] at hr;cases hr),fun j hj=>?_⟩
  by_cases hji:j=i
  ·subst hji;exact hy.wpOp hi hS ⟨hS,H⟩
  ·have h1:=H.2 j (ready_mono hj hji)
   obtain⟨hjun,oj,hoj,hall⟩:=mem_ready.1 hj;have hnot:∀e∈oj.after,Region.binds md e=true→e.on≠i:=fun e he hb heq=>by
    have h2:=hall e he hb;have h0:=(mem_ready.1 hr).1
    rw[heq] at h2;rcases Nat.lt_or_ge i listed.size with h'|h'
    ·simp[h'] at h0 h2;rw[h0] at h2;cases h2
    ·simp[Array.getElem?_eq_none h'] at h2
   refine wpOp_mono (fun a' w' h3=>?_) (wpOp_putIf hoj (hfree j oj hoj hji hjun hnot) (fun cs b=>hsel i oi cs b hi) (fun cs b=>hsel j oj cs b hoj) (fun c a w h=>h) hy h1)
   have hS':S w':=h3.2.1
   refine⟨hS',wpAnyL_first hi hsel hB fuel (listed.setIfInBounds j true) a' w' (fun k ok hk hki hun hno=>hfree k ok hk hki ?_ hno) (Zk hcl hj) (ready_mono hr (Ne.symm hji)) h3.1 hS' ?_⟩
   ·by_cases hjk:j=k
    ·subst hjk;exact hjun
    ·rw[getD_set_ne true hjk] at hun;exact hun
   ·rw[Array.setIfInBounds_comm _ _ hji]
    exact h3.2.2
theorem Xb {g:Nat}{full:Array Bool}(hs:Region.noSelect ops=true)(hP:Xf .any ops full=true)(fuel:Nat)(w:World)(hS:S w) :
  ∀(l:List Oper) (k:Nat) (listed:Array Bool) (a:Act),(∀j,j<l.length→l[j]?=ops[k+j]?)→Zg .any ops listed=true→segB ops l.length k listed=true →
   xq P ops S (fun a'=>wpAnyL P .any ops Q S g full fuel (marks l.length k listed) a' w) l a→wpAnyL P .any ops Q S g full (l.length+fuel) listed a w
 | [],k,listed,a,_,_,_,h=>by rw[List.length_nil,Nat.zero_add];exact h
 | o::l,k,listed,a,hl,hcl,hB,h=>by
  have h0:ops[k]?=some o:=by simpa using (hl 0 (by simp)).symm
  simp only[List.length_cons,segB,Bool.and_eq_true] at hB;obtain⟨⟨hr,hf⟩,hB⟩:=hB;have hl':∀j,j<l.length→l[j]?=ops[k+1+j]?:=fun j hj=>by have:=hl (j+1) (by simp;omega);simpa [Nat.add_assoc,Nat.add_comm 1 j] using this
  rw[List.length_cons,show l.length+1+fuel=(l.length+fuel)+1 by omega]
  have hr':k∈Region.ready .any ops listed:=by simpa using hr
  rcases h with⟨hw,v,hv,h⟩|⟨hw,h⟩
  ·exact wpAnyL_first h0 (Region.noSelect_spec hs) hP _ listed a w (Region.free_spec h0 hf) hcl hr' (.inl ⟨hw,hv⟩) hS (Xb hs hP fuel w hS l (k+1) _ _ hl' (Zk hcl hr') hB h)
  ·exact wpAnyL_first h0 (Region.noSelect_spec hs) hP _ listed a w (Region.free_spec h0 hf) hcl hr' (.inr ⟨hw,rfl⟩) hS (Xb hs hP fuel w hS l (k+1) _ _ hl' (Zk hcl hr') hB h)
theorem YO {l:List Oper}(k n:Nat)(listed listed':Array Bool)(fuel:Nat){g:Nat}{full:Array Bool}{a:Act}{w:World}(hs:Region.noSelect l.toArray=true)(hS:S w)
  (hB:(segB l.toArray n k listed&&decide (k+n≤l.length)&&(marks n k listed==listed')&&Xf .any l.toArray full&&Zg .any l.toArray listed)=true) (h:xq P l.toArray S (fun a'=>wpAnyL P .any l.toArray Q S g full fuel listed' a' w) ((l.drop k).take n) a):wpAnyL P .any l.toArray Q S g full (n+fuel) listed a w:=by
 simp only[Bool.and_eq_true,decide_eq_true_eq,beq_iff_eq] at hB;obtain⟨⟨⟨⟨hB,hn⟩,rfl⟩,hP⟩,hcl⟩:=hB;have hln:((l.drop k).take n).length=n:=by rw[List.length_take,List.length_drop];omega
 have:=Xb (P:=P) (Q:=Q) (S:=S) (g:=g) (full:=full) hs hP fuel w hS ((l.drop k).take n) k listed a (fun j hj=>by
  rw[hln] at hj;rw[List.getElem?_take,if_pos hj,List.getElem?_drop];simp) hcl (by rw[hln];exact hB) (by rw[hln];exact h)
 rwa [hln] at this
theorem Ei {l:List Oper}{i:Nat}{a:Act}{w:World}{K:Act→World→Prop}(h1:xR P l.toArray (NoPanic Q) K a w (l.drop i)):wpOp P l.toArray (NoPanic Q) i K a w:=by
 cases hd:l.drop i with
 | nil=>rw[hd] at h1;exact h1.elim
 | cons o r =>
  rw[hd] at h1;have h0:l.toArray[i]?=some o:=by
   have:(l.drop i)[0]?=some o:=by rw[hd];rfl
   rw[List.getElem?_drop] at this
   simpa using this
  unfold wpOp;simp only[h0];rw[if_pos h1.1];exact .inl h1.2
theorem Qm {l:List Oper}(k:Nat)(listed listed':Array Bool)(fuel:Nat){g:Nat}{full:Array Bool}{a:Act}{w:World}(hB:(decide (Region.ready .any l.toArray listed=[k])&&(listed.setIfInBounds k true==listed'))=true)
  (h:∀K:Act→World→Prop,(∀a' w',S w'→wpAnyL P .any l.toArray Q S g full fuel listed' a' w'→K a' w')→xR P l.toArray (NoPanic Q) K a w (l.drop k)):wpAnyL P .any l.toArray Q S g full (fuel+1) listed a w:=by
 simp only[Bool.and_eq_true,decide_eq_true_eq,beq_iff_eq] at hB;obtain⟨hr,rfl⟩:=hB;refine⟨fun h0=>(by rw[hr] at h0;cases h0),fun i hi=>?_⟩
 rw[hr] at hi;have hik:i=k:=by simpa using hi
 subst hik;exact Ei (h _ (fun a' w' h2 h3=>⟨h2,h3⟩))
theorem Vq {listed:Array Bool}{g:Nat}{a:Act}{w:World}(h:wpAny P md ops Q g listed a w):wpAnyL P md ops Q S g listed 0 listed a w:=⟨rfl,h⟩
theorem Un {l:List Oper}(k:Nat){listed:Array Bool}{a:Act}{w:World}(hB:(Region.seqB .any l.toArray (l.drop k).length k listed)=true)(h:wpList P l.toArray Q (l.drop k) a w):wpAny P .any l.toArray Q (l.drop k).length listed a w :=
 wpAny_of_seq (l.drop k) k listed a w (fun j=>by rw[List.getElem?_drop];simp) hB h
theorem Xs {id:Nat}{a:Act}{w:World}{l:List Oper}(S:World→Prop)(fuel g:Nat)(listed full:Array Bool)(hm:P.follows .mixedOrders=true)(hB:(decide (l.length=fuel+g)&&(Array.replicate l.length false==listed))=true)
  (h:wpAnyL P .any l.toArray Q S g full fuel listed a w.drew):(Code.region id l.toArray true).wp P Q a w:=by
 simp only[Bool.and_eq_true,decide_eq_true_eq,beq_iff_eq] at hB;obtain⟨hl,rfl⟩:=hB;have h1:=UA _ _ _ _ h;rw[←hl] at h1;exact wp_region_any hm (by simpa using h1)
end
end Go.Proofs.YtlkjheheofgdgaaGreat
open Go Go.RowKit
namespace Go.Proofs.YtlkjheheofgdgaaGreat
theorem yL.P5 {w0 w:World}{p b:Nat}{T:List Value}{d:Dq}{W:Wd}{rd:List Int}{R:List zv}{cs:List Value}(h:yL w0 w p T d W rd (ze b cs::R)) :
  ∃D ra rc,D.fits W∧Own w0 w (zj p W D T++(ze b cs::ze d.q (yp p (d.g:Int) d.x d.th d.dr d.go ra rd.length rc)::zd 1 ra rc rd.length (zt rd)::R)):=by
 obtain⟨D,ra,rc,hf,h⟩:=h;exact⟨D,ra,rc,hf,(h.pick 12 rfl).X5⟩
theorem yL.box {w0 w:World}{p:Nat}{T:List Value}{d:Dq}{W:Wd}{rd:List Int}{R:List zv}(h:yL w0 w p T d W rd R)(l:List Value)(t:TypeId):yL w0 (w.alloc (.cells l.toArray t)) p T d W rd (ze w.heap.size l::R):=by
 obtain⟨D,ra,rc,hf,h⟩:=h;have h1:Own w0 (w.alloc (.cells l.toArray t)) (ze w.heap.size l::((zj p W D T++[ze d.q (yp p (d.g:Int) d.x d.th d.dr d.go ra rd.length rc),zd 1 ra rc rd.length (zt rd)])++R)):=by
  rw[List.append_assoc];exact h.alloc l t (b:=w.heap.size) rfl
 have h2:=h1.X5;rw[List.append_assoc] at h2;exact⟨D,ra,rc,hf,h2⟩
theorem RG {w0 w:World}{p q:Nat}{W:Wd}{D:Wa}{T:List Value}{Y:List zv}(h:Own w0 w (zj p W D T++Y)){g s cap:Nat}{cs:List Value}(hq:zH w q (.pointer (some ⟨p,0,none⟩)::.int .i64 (g:Int)::cs))(hg:g<W.gs.length)(hs:D.sk[g]?=some (s,cap))(hm:1≤(W.g g).n∧(W.g g).n≤16) :
  Calls Tryz.prog 118 #[.pointer (some ⟨q,0,none⟩)] w fun r w'=>r=.returned (.pointer (some ⟨s,((W.g g).n-1)*11,none⟩))∧∃k,w'=w.drewN k:=by
 obtain⟨b,off,h1,-,-,-,-⟩:=Yt h hg hs;exact Xj (Ss h hq hg hs h1 hm)
theorem WG {w0 w:World}{p b:Nat}{T:List Value}{d:Dq}{W:Wd}{rd:List Int}{R:List zv}(k:Int)(h:yL w0 w p T d W rd (ze b [.pointer (some ⟨d.q,0,none⟩)]::R))(older:List PanicEntry) :
  CallsD Tryz.prog 117 #[.pointer (some ⟨b,0,none⟩)] (.panicking ({ v:=.iface 249 (.int .i64 k),recovered:=false }::older)) w fun e u' w' =>
   e=.returned (.tuple #[])∧u'=.panicking ({ v:=.iface 249 (.int .i64 k),recovered:=true }::older)∧yL w0 w' p T d (W.Nt k) rd R:=by
 obtain⟨D,ra,rc,hf,h1⟩:=h.P5;refine(Rz k h1 older).mono ?_
 rintro e u' w' ⟨h1,h2,h3⟩;exact⟨h1,h2,D,ra,rc,⟨hf.f,hf.g,hf.c,hf.n,hf.l,hf.k⟩,h3.yC.drop⟩
theorem KQ {w0 w:World}{p:Nat}{T:List Value}{d:Dq}{W:Wd}{rd:List Int}{R:List zv}(h:yL w0 w p T d W rd R)(ht:d.th=false) :
  Calls Tryz.prog 100 #[.pointer (some ⟨d.q,0,none⟩)] w fun r w'=>r=.returned (.tuple #[])∧yL w0 w' p T d (W.Nt (-7)) rd R:=by
 have hmf:∀(fn:Fn) (first cap:Array Value) (w:World),(Instr.makeFunc fn first cap).run Tryz.prog w=.ok (.func fn first cap) w:=fun _ _ _ _=>rfl
 have h1:=h.box [.pointer (some ⟨d.q,0,none⟩)] 230
 obtain⟨D,ra,rc,hf,h2⟩:=h1.P5;have b0:=(h2.zi 10 rfl 0 _ rfl).1
 have q6:=(h2.zi 11 rfl 6 _ rfl).1
 rw[ht] at q6;have H1:=Qq h1;clear h h1 h2 ht hf;go_enter_defers Tryz.func100,Tryz.ntmps100
 go_wp2_with fail;refine leaves_cons (f:=117) (args:=#[.pointer (some ⟨w.heap.size,0,none⟩)]) (by simp) (by simp[go_sem]) ?_
 refine(WG (-7) H1.out _).mono ?_
 rintro e u' w'' ⟨rfl,rfl,h3⟩;exact⟨.tuple #[],by simp[results,Tryz.results100],rfl,h3⟩
theorem KN {w0 w w':World}{p:Nat}{W:Wd}{D:Wa}{T:List Value}{Y:List zv}(h:Own w0 w (zj p W D T++Y)){g s cap:Nat}{z:List Int}(hg:g<W.gs.length)(hs:D.sk[g]?=some (s,cap))(c:zK [s] w w')(hk:zQ w' s (W.g g).n cap z) :
  Own w0 w' (zj p (W.ye g { W.g g with z:=z }) D T++Y):=by
 obtain⟨R',h1,h2⟩:=(h.pick 3 rfl).ZT (Yj hs (Wd.WW hg))
 have h3:=Own.SY (As:=[Yv s (W.g g).n cap (W.g g).z]) (As':=[Yv s (W.g g).n cap z]) (R:=_) h1 (w':=w') (fun F hF=>by
  obtain⟨rfl,k⟩:=xe.1 hF;exact⟨[s],xe.2 ⟨rfl,hk⟩,c,fun x hx=>.inl hx⟩)
 have h4:=h2 _ _ _ h3;have e:=WK D.sk W.gs g (s,cap) { W.g g with z:=z }
 simp only at e
 rw[e,yt _ _ _ hs] at h4;have h5:=h4.back (i:=3) (As:=zj p W D T++Y) (by simp[zj])
 have e2:YB D.sk (W.gs.set g { W.g g with z:=z })=YB D.sk W.gs:=Rd _ _ _ _ (fun G0 h0=>by rw[Wd.FU h0];exact⟨rfl,rfl⟩)
 have e3:(zj p W D T++Y).set 3 (yD (YT D.sk (W.gs.set g { W.g g with z:=z })))=zj p (W.ye g { W.g g with z:=z }) D T++Y:=by
  simp only[zj,Wd.ye,yH,e2,List.length_set];rfl
 rw[e3] at h5;exact h5
theorem MC {w0 w:World}{p:Nat}{T:List Value}{d:Dq}{W:Wd}{rd:List Int}{R:List zv}(h:yL w0 w p T d W rd R)(ht:d.th=true)(hg:d.g<W.gs.length)(hm:1≤(W.g d.g).n∧(W.g d.g).n≤16)(hx:Vb d.x)
  (hat:0≤(W.g d.g).pc∧(W.g d.g).pc<1000) {z':List Int} (hz:Z0 d.x (W.g d.g).o (W.g d.g).z=some z') :
  Calls Tryz.prog 100 #[.pointer (some ⟨d.q,0,none⟩)] w fun r w'=>r=.returned (.tuple #[])∧yL w0 w' p T d (W.ye d.g { W.g d.g with z:=z' }) rd R:=by
 have hmf:∀(fn:Fn) (first cap:Array Value) (w:World),(Instr.makeFunc fn first cap).run Tryz.prog w=.ok (.func fn first cap) w:=fun _ _ _ _=>rfl
 obtain⟨D,ra,rc,hf,h2⟩:=(h.box [.pointer (some ⟨d.q,0,none⟩)] 230).P5
 have b0:=(h2.zi 10 rfl 0 _ rfl).1
 have hc:=h2.zi 11 rfl;have q2:=(hc 2 _ rfl).1
 have q3:=(hc 3 _ rfl).1
 have q4:=(hc 4 _ rfl).1
 have q5:=(hc 5 _ rfl).1
 have q6:=(hc 6 _ rfl).1
 rw[ht] at q6;obtain⟨s,cap,hs⟩:=hf.Yh hg;obtain⟨m,hmm⟩:∃m,m=(W.g d.g).n-1:=⟨_,rfl⟩
 have HTop:Hid (∀j,Calls Tryz.prog 118 #[.pointer (some ⟨d.q,0,none⟩)] ((w.alloc (.cells #[.pointer (some ⟨d.q,0,none⟩)] 230)).drewN j) fun r w'=>r=.returned (.pointer (some ⟨s,m*11,none⟩))∧∃k,w'=((w.alloc (.cells #[.pointer (some ⟨d.q,0,none⟩)] 230)).drewN j).drewN k):=Qq (fun j=>by
  rw[hmm];exact RG (h2.step (zx _ j)) ((h2.step (zx _ j)).zi 11 rfl) hg hs hm)
 have HPure:Hid (∀j,Calls Tryz.prog 119 #[.pointer (some ⟨s,m*11,none⟩),.agg #[.int .i64 d.x.1,.int .i64 d.x.2.1,.int .i64 d.x.2.2.1,.int .i64 d.x.2.2.2]] ((w.alloc (.cells #[.pointer (some ⟨d.q,0,none⟩)] 230)).drewN j) fun r w'=>r=.returned (.bool true)∧yL w0 w' p T d (W.ye d.g { W.g d.g with z:=z' }) rd R):=Qq (fun j=>by
  have hk:=(YY (h2.step (zx _ j)) hg hs).1
  refine(N0 s (m*11) (W.g d.g).n cap (W.g d.g).z z' d.x _ hk (by omega) (by have:=hat;unfold Gt.pc Gt.o at this;rw[←hmm] at this;exact this) hx (by unfold Gt.o at hz;rw[←hmm] at hz;exact hz)).mono ?_
  rintro r w' ⟨h1,h3,h4⟩;exact⟨h1,D,ra,rc,hf.ye _ _,(KN (h2.step (zx _ j)) hg hs h3 h4).yC.drop⟩)
 clear h h2 ht hf hg hm hx hat hz hs hmm hc;go_enter_defers Tryz.func100,Tryz.ntmps100
 go_upto_region 4 with fail
 generalize w.alloc (.cells #[.pointer (some ⟨d.q,0,none⟩)] 230)=w1 at *
 generalize w.heap.size=bd at *;refine zk (fun wx=>∃nq,wx=World.drewN (w1) nq) 6 1 (Array.replicate 7 false) (Qj 7 63) (by kernel_rfl) (by kernel_rfl) ?_
 refine zf 0 1 _ (Qj 7 1) 5 (by kernel_rfl) za (zE w1) (by kernel_rfl) ?_
 simp only[QX,QV,QJ];(repeat((first|refine Qx (h:=?_)|refine Qw (h:=?_));simp only[Act.put,QW,QY,QZ]));refine zb ?_;refine zf 2 4 _ (Qj 7 61) 1 (by kernel_rfl) za (zE w1) (by kernel_rfl) ?_
 simp only[QX,QV,QQ,QJ];(repeat((first|refine Qx (h:=?_)|refine Qw (h:=?_));simp only[Act.put,QW,QY,QZ]));refine zb ?_;refine zA 1 _ (Qj 7 63) 0 (by kernel_rfl) (fun K hK=>?_)
 have HKK:=Qq hK;clear hK;simp only[QQ,QJ];refine zc (by rfl) ?_;go_simp;refine(HTop.out 1).mono ?_
 rintro r w2 ⟨rfl,k2,rfl⟩;refine HKK.out _ _ ((by first|exact⟨_,rfl⟩|exact⟨_,World.drewN_drewN _ _ _⟩)) ?_
 clear HKK K;refine zo ?_;refine zS 6 (by kernel_rfl) ?_
 simp only[QQ,QJ];go_wp2_with fail;refine(HPure.out _).mono ?_
 rintro r w3 ⟨rfl,h3⟩;have H3:=Qq h3;clear h3 HPure HTop;go_wp2_with fail;refine NoPanic.normal ?_
 go_wp2;refine leaves_cons (f:=117) (args:=#[.pointer (some ⟨bd,0,none⟩)]) (by simp) (by simp[go_sem]) ?_
 refine(Vo _ _).mono ?_
 rintro e u' w'' ⟨rfl,rfl,rfl⟩;exact⟨.tuple #[],by simp[results,Tryz.results100],rfl,H3.out⟩
theorem yL.EK {w0 w:World}{p:Nat}{T:List Value}{d:Dq}{W:Wd}{rd:List Int}{A:zv}{R:List zv}(h:yL w0 w p T d W rd (A::R)):yL w0 w p T d W rd R:=by
 obtain⟨D,ra,rc,hf,h⟩:=h;exact⟨D,ra,rc,hf,(h.pick 12 rfl).drop⟩
theorem Lh {w0 w:World}{p:Nat}{T:List Value}{d:Dq}{W:Wd}{R:List zv}(h:yL w0 w p T d W [] R)(ht:d.th=true)(hg:d.g<W.gs.length)(hm:1≤(W.g d.g).n∧(W.g d.g).n≤16)(h9:9≤d.x.1∧d.x.1≤22)
  (hat:0≤(W.g d.g).pc∧(W.g d.g).pc<1000) (fk:Nat) (hix:∀w,(Instr.index 252 (.agg YC) (.int .i64 d.x.1)).run Tryz.prog w=.ok (.func (.func fk) #[] #[]) w) (eg:∀(args:Array Value) (w:World),(callFunc fk args).run Tryz.prog w=.ok (.enter fk args) w) (m:Dd)
  (hd:∀R' w',yL w0 w' p T d (W.step d.g) [] R'→Calls Tryz.prog fk #[.pointer (some ⟨d.q,0,none⟩)] w' fun r w''=>ZQ w0 p T d R' m r w'') :
  Calls Tryz.prog 100 #[.pointer (some ⟨d.q,0,none⟩)] w fun r w'=>r=.returned (.tuple #[])∧yL w0 w' p T d m.end_ m.rd R:=by
 have hmf:∀(fn:Fn) (first cap:Array Value) (w:World),(Instr.makeFunc fn first cap).run Tryz.prog w=.ok (.func fn first cap) w:=fun _ _ _ _=>rfl
 obtain⟨D,ra,rc,hf,h2⟩:=(h.box [.pointer (some ⟨d.q,0,none⟩)] 230).P5
 have b0:=(h2.zi 10 rfl 0 _ rfl).1
 have hc:=h2.zi 11 rfl;have q2:=(hc 2 _ rfl).1
 have q3:=(hc 3 _ rfl).1
 have q4:=(hc 4 _ rfl).1
 have q5:=(hc 5 _ rfl).1
 have q6:=(hc 6 _ rfl).1
 rw[ht] at q6;obtain⟨s,cap,hs⟩:=hf.Yh hg;obtain⟨k,hmm⟩:∃k,k=(W.g d.g).n-1:=⟨_,rfl⟩
 obtain⟨pc,hpc⟩:∃pc,pc=(W.g d.g).pc:=⟨_,rfl⟩
 have HTop:Hid (∀w',Own w0 w' (zj p W D T++(ze w.heap.size [.pointer (some ⟨d.q,0,none⟩)]::ze d.q (yp p (d.g:Int) d.x d.th d.dr d.go ra 0 rc)::zd 1 ra rc 0 (zt [])::R))→Calls Tryz.prog 118 #[.pointer (some ⟨d.q,0,none⟩)] w' fun r w''=>r=.returned (.pointer (some ⟨s,k*11,none⟩))∧∃j,w''=w'.drewN j):=Qq (fun w' h'=>by
  rw[hmm];exact RG h' (h'.zi 11 rfl) hg hs hm)
 have HAt:Hid (∀w',Own w0 w' (zj p W D T++(ze w.heap.size [.pointer (some ⟨d.q,0,none⟩)]::ze d.q (yp p (d.g:Int) d.x d.th d.dr d.go ra 0 rc)::zd 1 ra rc 0 (zt [])::R)) →
   w'.cell? ⟨w.heap.size,0,none⟩=some (.pointer (some ⟨d.q,0,none⟩))∧w'.cell? ⟨s,k*11+1,none⟩=some (.int .i64 pc)∧w'.frozen? ⟨s,k*11+1,none⟩=false∧Own w0 (w'.setCell ⟨s,k*11+1,none⟩ (.int .i64 (pc+1))) (zj p (W.step d.g) D T++(ze w.heap.size [.pointer (some ⟨d.q,0,none⟩)]::ze d.q (yp p (d.g:Int) d.x d.th d.dr d.go ra 0 rc)::zd 1 ra rc 0 (zt [])::R))):=Qq (fun w' h'=>by
  obtain⟨g1,g2⟩:=(YY h' hg hs).1.get (k*11+1) (by omega)
  have g3:=Hf h' hg hs (k*11+1) (pc+1)
  refine⟨(h'.zi 10 rfl 0 _ rfl).1,?_,g2,?_⟩
  ·rw[g1,hpc];unfold Gt.pc Gt.o;rw[←hmm]
  ·have e:W.step d.g=W.ye d.g { W.g d.g with z:=(W.g d.g).z.set (k*11+1) (pc+1) }:=by unfold Wd.step Gt.o;rw[←hmm,hpc]
   rw[e];exact g3)
 have HSB:Hid (∀(W':Wd) (w':World) ,Own w0 w' (zj p W' D T++(ze w.heap.size [.pointer (some ⟨d.q,0,none⟩)]::ze d.q (yp p (d.g:Int) d.x d.th d.dr d.go ra 0 rc)::zd 1 ra rc 0 (zt [])::R))→w'.cell? ⟨w.heap.size,0,none⟩=some (.pointer (some ⟨d.q,0,none⟩))∧w'.cell? ⟨d.q,2,none⟩=some (.int .i64 d.x.1)):=Qq (fun W' w' h'=>⟨(h'.zi 10 rfl 0 _ rfl).1,(h'.zi 11 rfl 2 _ rfl).1⟩)
 have HDd:Hid (∀w',Own w0 w' (zj p (W.step d.g) D T++(ze w.heap.size [.pointer (some ⟨d.q,0,none⟩)]::ze d.q (yp p (d.g:Int) d.x d.th d.dr d.go ra 0 rc)::zd 1 ra rc 0 (zt [])::R)) →
   Calls Tryz.prog fk #[.pointer (some ⟨d.q,0,none⟩)] w' fun r w''=>ZQ w0 p T d (ze w.heap.size [.pointer (some ⟨d.q,0,none⟩)]::R) m r w''):=Qq (fun w' h'=>hd _ w' ⟨D,ra,rc,hf.ye _ _,by
    have h5:Own w0 w' (ze w.heap.size [.pointer (some ⟨d.q,0,none⟩)]::((zj p (W.step d.g) D T++[ze d.q (yp p (d.g:Int) d.x d.th d.dr d.go ra 0 rc),zd 1 ra rc 0 (zt [])])++R)):=by
     rw[List.append_assoc];exact h'.yC
    have h6:=h5.X5;rw[List.append_assoc] at h6;exact h6⟩)
 have HIx:=Qq hix;have HFp:=Qq (fun v w=>MQ v d.x.1 d.x.2.1 d.x.2.2.1 d.x.2.2.2 h9 w)
 have hpb:IntKind.i64.wrap (pc+1)=pc+1:=by rw[IntKind.wrap_i64];omega
 have H2:=Qq h2;clear h h2 ht hf hg hm h9 hat hs hmm hc hix hd hpc;go_enter_defers Tryz.func100,Tryz.ntmps100
 go_upto_region 4 with fail
 generalize w.alloc (.cells #[.pointer (some ⟨d.q,0,none⟩)] 230)=w1 at *
 generalize w.heap.size=bd at *;have o1:=H2.out.step (zx w1 1)
 refine zk (fun wx=>∃nq,wx=World.drewN (w1) nq) 6 1 (Array.replicate 7 false) (Qj 7 63) (by kernel_rfl) (by kernel_rfl) ?_
 refine zf 0 1 _ (Qj 7 1) 5 (by kernel_rfl) za (zE w1) (by kernel_rfl) ?_
 simp only[QX,QV,QJ];(repeat((first|refine Qx (h:=?_)|refine Qw (h:=?_));simp only[Act.put,QW,QY,QZ]));refine zb ?_;refine zf 2 4 _ (Qj 7 61) 1 (by kernel_rfl) za (zE w1) (by kernel_rfl) ?_
 simp only[QX,QV,QQ,QJ];(repeat((first|refine Qx (h:=?_)|refine Qw (h:=?_));simp only[Act.put,QW,QY,QZ]));refine zb ?_;refine zA 1 _ (Qj 7 63) 0 (by kernel_rfl) (fun K hK=>?_)
 have HKK:=Qq hK;clear hK;simp only[QQ,QJ];refine zc (by rfl) ?_;go_simp;refine(HTop.out _ o1).mono ?_
 rintro r w2 ⟨rfl,k2,hw2⟩;have o2:=o1.q1 hw2;refine HKK.out _ _ (VQ hw2) ?_
 clear HKK K;refine zo ?_;refine zS 6 (by kernel_rfl) ?_
 simp only[QQ,QJ];clear hw2;go_wp2_with fail;refine(HFp.out _ _).mono ?_
 rintro r w3 ⟨rfl,b3⟩;have o3:=o2.step b3;have HO3:=Qq o3;clear b3 o1 o2 o3 HFp;go_wp2_with fail;refine NoPanic.normal ?_
 obtain⟨a0,a1,a2,a3⟩:=HAt.out w3 HO3.out;have HTp:=Qq (HTop.out w3 HO3.out)
 clear a1 a2 a3;go_wp2_with fail;refine HTp.out.mono ?_
 rintro r w4 ⟨rfl,k4,hw4⟩;obtain⟨a0',a1,a2,a3⟩:=HAt.out w4 (HO3.out.q1 hw4)
 have HA3:=Qq a3;clear a3 hw4 HTp HTop HAt;go_upto_region 6 with fail
 generalize w4.setCell ⟨s,k*11+1,none⟩ (.int .i64 (pc+1))=w5 at *
 have o5:=HA3.out.step (zg w5)
 have hix:=HIx.out;refine Xs (fun wx=>wx.cell? ⟨bd,0,none⟩=some (.pointer (some ⟨d.q,0,none⟩))∧wx.cell? ⟨d.q,2,none⟩=some (.int .i64 d.x.1)) 8 1 (Array.replicate 9 false) (Qj 9 255) (by kernel_rfl) (by kernel_rfl) ?_
 refine YO 1 5 _ (Qj 9 62) 3 (by kernel_rfl)  (HSB.out _ _ o5) (by kernel_rfl) ?_
 simp only[QX,QV,QQ,QJ];(repeat((first|refine Qx (h:=?_)|refine Qv (h:=?_));simp only[Act.put,QW,QY,QZ]));refine zb ?_;refine YO 7 1 _ (Qj 9 190) 2 (by kernel_rfl)  (HSB.out _ _ o5) (by kernel_rfl) ?_
 simp only[QX,QV,QQ,QJ];(repeat((first|refine Qx (h:=?_)|refine Qv (h:=?_));simp only[Act.put,QW,QY,QZ]));refine zb ?_;refine Qm 0 _ (Qj 9 191) 1 (by kernel_rfl) (fun K hK=>?_)
 have HKK:=Qq hK;clear hK;simp only[QJ];refine zc (by rfl) ?_;go_simp;refine(QE _).mono ?_
 rintro r w6 ⟨rfl,b6⟩;have o6:=o5.step b6;refine HKK.out _ _ (HSB.out _ _ o6) ?_
 clear HKK K;refine YO 6 1 _ (Qj 9 255) 0 (by kernel_rfl)  (HSB.out _ _ o6) (by kernel_rfl) ?_
 simp only[QX,QV,QQ,QJ];(repeat((first|refine Qx (h:=?_)|refine Qv (h:=?_));simp only[Act.put,QW,QY,QZ]));refine zb ?_;refine Vq ?_;refine Un 8 (by kernel_rfl) ?_
 simp only[QQ,QJ];have HC:=Qq (HDd.out _ o6)
 clear o5 o6 b6 HDd HSB hix HIx;obtain⟨Wm,rm,tm⟩:=m;cases tm with
 | none =>
  go_wp2_with fail;refine HC.out.mono ?_
  rintro r w7 ⟨hr7,h7⟩;unfold Db at hr7;simp only at hr7 h7
  subst hr7;have H7:=Qq h7.EK;clear h7 HC;go_wp2;refine leaves_cons (f:=117) (args:=#[.pointer (some ⟨bd,0,none⟩)]) (by simp) (by simp[go_sem]) ?_
  refine(Vo _ _).mono ?_
  rintro e u' w'' ⟨rfl,rfl,rfl⟩;exact⟨.tuple #[],by simp[results,Tryz.results100],rfl,H7.out⟩
 | some kk =>
  go_wp2_with fail;refine HC.out.mono ?_
  rintro r w7 ⟨hr7,h7⟩;unfold Db WA at hr7;simp only at hr7 h7
  subst hr7;have H7:=Qq h7;clear h7 HC;refine leaves_cons (f:=117) (args:=#[.pointer (some ⟨bd,0,none⟩)]) (by simp) (by simp[go_sem]) ?_
  refine(WG kk H7.out _).mono ?_
  rintro e u' w'' ⟨rfl,rfl,h3⟩;exact⟨.tuple #[],by simp[results,Tryz.results100],rfl,h3⟩
theorem VY (W:Wd)(g:Int):W.lets g↔W.en=0∧xm W g=1:=by
 unfold Wd.lets xm;constructor
 ·rintro⟨h1,h2,h3,h4⟩;exact⟨h1,by rw[if_pos ⟨h2,h3⟩];exact h4⟩
 ·rintro⟨h1,h2⟩
  split at h2
  ·rename_i h;exact⟨h1,h.1,h.2,h2⟩
  ·cases h2
theorem RC {w0 w:World}{p:Nat}{W:Wd}{D:Wa}{T:List Value}{Y:List zv}(h:Own w0 w (zj p W D T++Y))(hf:D.fits W)(g:Int) :
  Calls Tryz.prog 97 #[.pointer (some ⟨p,0,none⟩),.int .i64 g] w fun r w'=>r=.returned (.bool (decide (W.lets g)))∧w'=w:=by
 have HS:=Qq (X9 h hf g)
 have p9:=(h.zi 0 rfl 9 _ rfl).1
 by_cases he:W.en=0
 ·have e:decide (W.lets g)=decide (xm W g=1):=by
   by_cases hs:xm W g=1
   ·rw[decide_eq_true hs,decide_eq_true ((VY W g).2 ⟨he,hs⟩)]
   ·rw[decide_eq_false hs,decide_eq_false (fun hh=>hs ((VY W g).1 hh).2)]
  rw[e];rw[he] at p9;generalize xm W g=st at *;have HE:=Qq (show decide (st=1)=(st==1) by by_cases h:st=1<;>simp[h])
  clear h hf he e;go_enter Tryz.func97,Tryz.ntmps97
  go_wp2_with fail;refine HS.out.mono ?_
  rintro r w1 ⟨rfl,rfl⟩;go_wp2;go_ret;exact⟨by rw[HE.out];rfl,rfl⟩
 ·have e:decide (W.lets g)=false:=decide_eq_false (fun hh=>he ((VY W g).1 hh).1)
  rw[e];have ht:(W.en==0)=false:=by simpa using he
  generalize W.en=en at *;clear h hf he e HS;go_enter Tryz.func97,Tryz.ntmps97
  go_wp2;go_ret;exact⟨rfl,rfl⟩
structure Qo (W:Wd) (g:Nat):Prop where
 gk:g<W.gs.length
 gl:W.gs.length≤1000
 n:1≤(W.g g).n∧(W.g g).n≤16
 fn:0≤(W.g g).fn∧(W.g g).fn<(W.fs.length:Int)
 pc:0≤(W.g g).pc∧(W.g g).pc<1000
def ME (x:Option yq):Value:=match x with
 | some x=>.agg #[.int .i64 x.1,.int .i64 x.2.1,.int .i64 x.2.2.1,.int .i64 x.2.2.2]
 | none=>.agg #[.int .i64 0,.int .i64 0,.int .i64 0,.int .i64 0]
theorem LM {w0 w:World}{p:Nat}{W:Wd}{D:Wa}{T:List Value}{Y:List zv}(h:Own w0 w (zj p W D T++Y))(hf:D.fits W)(k:Nat)(ok:Qo W k) :
  Calls Tryz.prog 98 #[.pointer (some ⟨p,0,none⟩),.int .i64 (k:Int)] w fun r w'=>r=.returned (.tuple #[ME (W.ins k),.bool (W.ins k).isSome])∧Below w.heap.size w w':=by
 obtain⟨hk8,hgl,hm,hfn,hpc⟩:=ok;obtain⟨f,hfe,hf8⟩:=yN (n:=W.fs.length) hfn
 obtain⟨i,hie⟩:=Int.eq_ofNat_of_zero_le hpc.1;obtain⟨l,hl⟩:∃l,W.fs[f]?=some l:=⟨_,List.getElem?_eq_getElem hf8⟩
 have e:W.ins k=l[i]?:=by
  unfold Wd.ins Wd.Zi;rw[hfe,hie,if_neg (by omega),Int.toNat_natCast,Int.toNat_natCast,List.getD_eq_getElem?_getD,hl];rfl
 rw[e];obtain⟨m,hmm⟩:∃m,m=(W.g k).n-1:=⟨_,rfl⟩
 obtain⟨s,cap,hs⟩:=hf.Yh hk8;have hA:=h.alloc [.int .i64 0,.int .i64 0,.int .i64 0,.int .i64 0] 86 (b:=w.heap.size) rfl
 have hB:=hA.X5 (L:=zj p W D T)
 obtain⟨b,off,haa,-,-,sl,-⟩:=Yt hB hk8 hs;have p2:=(hB.zi 0 rfl 2 _ rfl).1
 have p0:=(hB.zi 0 rfl 0 _ rfl).1
 obtain⟨z0,f0⟩:=hB.zi 10 rfl 0 _ rfl;obtain⟨z1,f1⟩:=hB.zi 10 rfl 1 _ rfl;obtain⟨z2,f2⟩:=hB.zi 10 rfl 2 _ rfl;obtain⟨z3,f3⟩:=hB.zi 10 rfl 3 _ rfl;have hS:=(YY hB hk8 hs).1
 have c0:=(hS.get (m*11) (by omega)).1
 have c1:=(hS.get (m*11+1) (by omega)).1
 have e0:(W.g k).z.getD (m*11) 0=(f:Int):=by rw[←hfe];unfold Gt.fn Gt.o;rw[←hmm]
 have e1:(W.g k).z.getD (m*11+1) 0=(i:Int):=by rw[←hie];unfold Gt.pc Gt.o;rw[←hmm]
 rw[e0] at c0;rw[e1] at c1;rw[haa] at p2;have Z2:∀w,Calls Tryz.prog 112 #[.slice (some ⟨s,0,none⟩) (W.g k).n cap] w fun e w'=>e=.returned (.pointer (some ⟨s,m*11,none⟩))∧w'=w:=fun w=>by
  have:=WL s m cap w (by omega)
  rw[show m+1=(W.g k).n by omega] at this
  exact this
 have HT:=Qq Z2;have k0:(0:Int)≤(k:Int):=by omega
 have k8:(k:Int)<(W.gs.length:Int):=by omega
 have f00:(0:Int)≤(f:Int):=by omega
 have f8:(f:Int)<(W.fs.length:Int):=by omega
 have hbl:=below_alloc1 w (.cells #[.int .i64 0,.int .i64 0,.int .i64 0,.int .i64 0] 86)
 have hblk:=World.block_lt_of_cell? _ _ z0
 have hfl:f<D.fr.length:=by rw[hf.f];exact hf8
 obtain⟨cb0,co0,hfa,y1⟩:∃b off,D.fa=some ⟨b,off,none⟩∧(w.alloc (.cells #[.int .i64 0,.int .i64 0,.int .i64 0,.int .i64 0] 86)).cell? ⟨b,off+f,none⟩=some (.slice (D.fr[f]).1 l.length (D.fr[f]).2):=by
  obtain⟨F,⟨-,⟨-,h2⟩,-,-⟩,-⟩:=hB.fact 1 rfl;exact h2 f _ (by unfold Oy;rw[List.getElem?_zipWith,List.getElem?_eq_getElem hfl,hl])
 rw[hfa] at p0;have HH:=Qq (fun w=>Ky (D.fr[f]).1 l.length (D.fr[f]).2 (i:Int) w)
 have i0:(0:Int)≤(i:Int):=by omega
 obtain⟨N,hN⟩:∃N,N=W.gs.length:=⟨_,rfl⟩
 rw[←hN] at p2 k8;obtain⟨NF,hNF⟩:∃NF,NF=W.fs.length:=⟨_,rfl⟩
 rw[←hNF] at p0 f8;obtain⟨n,hn⟩:∃n,n=(W.g k).n:=⟨_,rfl⟩
 rw[←hn] at HT sl;have hi9:i<1000:=by omega
 by_cases hi:i<l.length
 ·have hx:=List.getElem?_eq_getElem hi
  obtain⟨b',off',c',bb,oo,q1,q2,q3,q4,q5,q6⟩:=Om hB hf hl hx;rw[hfa] at q1;simp only[Option.some.injEq,Addr.mk.injEq,and_true] at q1;obtain⟨rfl,rfl⟩:=q1;rw[y1] at q2;simp only[Option.some.injEq,Value.slice.injEq,true_and] at q2;rw[q2.1] at y1 HH;have hd:decide (0≤(i:Int)∧(i:Int)<(l.length:Int))=true:=decide_eq_true ⟨i0,by omega⟩
  rw[hd] at HH;have i8:(i:Int)<(l.length:Int):=by omega
  rw[hx];generalize l[i]=x at *
  obtain⟨x1,x2,x3,x4⟩:=x;unfold ME;simp only at *
  have HB:=Qq hbl;clear q2 hd hx hi hbl h hf hk8 hgl hm hfn hpc hfe hf8 hie hl e hmm hs hA hB haa hS e0 e1 Z2 hfa hN hNF hn;go_enter Tryz.func98,Tryz.ntmps98
  go_upto_region 1 with fail
  generalize w.alloc (.cells #[.int .i64 0,.int .i64 0,.int .i64 0,.int .i64 0] 86)=w1 at *
  generalize hsz:w.heap.size=bx at *
  have HSZ:=Qq hsz;clear hsz;go_upto_region 2 with(refine(HT.out _).mono ?_;rintro r w2 ⟨rfl,rfl⟩)
  refine zk (fun wx=>∃nq,wx=World.drewN (w2) nq) 11 0 (Array.replicate 11 false) (Qj 11 2047) (by kernel_rfl) (by kernel_rfl) ?_
  refine zf 0 11 _ (Qj 11 2047) 0 (by kernel_rfl) za (zE w2) (by kernel_rfl) ?_
  simp only[QX,QV,QJ];(repeat((first|refine Qx (h:=?_)|refine Qw (h:=?_));simp only[Act.put,QW,QY,QZ]));refine zb ?_;refine zo ?_;refine zD (by kernel_rfl) (NoPanic.normal ?_)
  go_wp2_with fail;refine(HH.out _).mono ?_
  rintro r w3 ⟨rfl,rfl⟩;go_wp2;have hfin:Below w.heap.size w (((((w2.setCell ⟨bx,0,none⟩ (.int .i64 x1)).setCell ⟨bx,1,none⟩ (.int .i64 x2)).setCell ⟨bx,2,none⟩ (.int .i64 x3)).setCell ⟨bx,3,none⟩ (.int .i64 x4)).drew):=by
   have:=HSZ.out
   refine Below.trans (((((HB.out.setCell (by simp) _).setCell (by simp) _).setCell (by simp) _).setCell (by simp) _).mono (by omega)) ((zg _).mono ?_)
   simp
   omega
  exact bodyPost_ret (v:=.tuple #[.agg #[.int .i64 x1,.int .i64 x2,.int .i64 x3,.int .i64 x4],.bool true]) (by simp[results,Tryz.results98,go_sem,z0,z1,z2,z3,hblk]) rfl ⟨rfl,hfin⟩
 ·have hx:l[i]?=none:=List.getElem?_eq_none (by omega)
  have hd:decide (0≤(i:Int)∧(i:Int)<(l.length:Int))=false:=decide_eq_false (by omega)
  rw[hd] at HH;rw[hx];unfold ME;simp only at *
  have HB:=Qq hbl;clear hd hx hi hbl h hf hk8 hgl hm hfn hpc hfe hf8 hie hl e hmm hs hA hB haa hS e0 e1 Z2 hfa hN hNF hn;go_enter Tryz.func98,Tryz.ntmps98
  go_upto_region 1 with fail
  generalize w.alloc (.cells #[.int .i64 0,.int .i64 0,.int .i64 0,.int .i64 0] 86)=w1 at *
  generalize hsz:w.heap.size=bx at *
  have HSZ:=Qq hsz;clear hsz;go_upto_region 2 with(refine(HT.out _).mono ?_;rintro r w2 ⟨rfl,rfl⟩)
  refine zk (fun wx=>∃nq,wx=World.drewN (w2) nq) 11 0 (Array.replicate 11 false) (Qj 11 2047) (by kernel_rfl) (by kernel_rfl) ?_
  refine zf 0 11 _ (Qj 11 2047) 0 (by kernel_rfl) za (zE w2) (by kernel_rfl) ?_
  simp only[QX,QV,QJ];(repeat((first|refine Qx (h:=?_)|refine Qw (h:=?_));simp only[Act.put,QW,QY,QZ]));refine zb ?_;refine zo ?_;refine zD (by kernel_rfl) (NoPanic.normal ?_)
  go_wp2_with fail;refine(HH.out _).mono ?_
  rintro r w3 ⟨rfl,rfl⟩;go_wp2;have hfin:Below w.heap.size w (((((w2.setCell ⟨bx,0,none⟩ (.int .i64 0)).setCell ⟨bx,1,none⟩ (.int .i64 0)).setCell ⟨bx,2,none⟩ (.int .i64 0)).setCell ⟨bx,3,none⟩ (.int .i64 0)).drew):=by
   have:=HSZ.out
   refine Below.trans (((((HB.out.setCell (by simp) _).setCell (by simp) _).setCell (by simp) _).setCell (by simp) _).mono (by omega)) ((zg _).mono ?_)
   simp
   omega
  exact bodyPost_ret (v:=.tuple #[.agg #[.int .i64 0,.int .i64 0,.int .i64 0,.int .i64 0],.bool false]) (by simp[results,Tryz.results98,go_sem,z0,z1,z2,z3,hblk]) rfl ⟨rfl,hfin⟩
theorem N3 {w0 w:World}{p:Nat}{T:List Value}{d:Dq}{W:Wd}{rd:List Int}{R:List zv}(h:yL w0 w p T d W rd R)(hg:d.g<W.gs.length)(hm:1≤(W.g d.g).n∧(W.g d.g).n≤16) :
  Calls Tryz.prog 101 #[.pointer (some ⟨d.q,0,none⟩)] w fun r w'=>r=.returned (.bool (Xr W d.g d.x))∧∃k,w'=w.drewN k:=by
 obtain⟨D,ra,rc,hf,h⟩:=h;obtain⟨b,off,s,cap,F⟩:=ZB hf h hg hm;have q0:=F.top.d0;have q2:=(h.zi 10 rfl 2 _ rfl).1
 have p9:=(h.zi 0 rfl 9 _ rfl).1
 have st0:=F.st.1;have HM:=Qq (F.FI 0)
 have e:Xr W d.g d.x=(decide (W.en=0)&&decide ((W.g d.g).st=1)&&!(decide (d.x.1=12)||decide (d.x.1=17))):=rfl
 rw[e];generalize W.en=en at *;generalize (W.g d.g).st=st at *
 generalize d.x.1=op at *;clear h hf hg hm F e;have ho:op=12∨op=17∨¬op=12∧¬op=17:=by omega
 have he:en=0∨¬en=0:=by omega
 have hs:st=1∨¬st=1:=by omega
 rcases ho with rfl|rfl|⟨ho1,ho2⟩
 case' inr.inr=>have o1:(op==12)=false:=by simpa using ho1
 case' inr.inr=>have o2:(op==17)=false:=by simpa using ho2
 case' inr.inr=>have d1:decide (op=12)=false:=decide_eq_false ho1
 case' inr.inr=>have d2:decide (op=17)=false:=decide_eq_false ho2
 case' inr.inr=>rw[d1,d2]
 case' inr.inr=>clear ho1 ho2 d1 d2
 all_goals
  rcases he with rfl|he
  ·rcases hs with rfl|hs
   ·go_enter Tryz.func101,Tryz.ntmps101
    go_wp2_with fail;refine HM.out.mono ?_
    rintro r w1 ⟨rfl,k,hw1⟩;have st1:w1.cell? ⟨b,off+d.g*2,none⟩=some (.int .i64 1):=by rw[hw1];exact st0
    have HW:=Qq hw1;clear hw1 HM st0;go_wp2;go_ret;exact⟨rfl,_,HW.out⟩
   ·have s1:(st==1)=false:=by simpa using hs
    have d3:decide (st=1)=false:=decide_eq_false hs
    rw[d3];clear hs d3;go_enter Tryz.func101,Tryz.ntmps101
    go_wp2_with fail;refine HM.out.mono ?_
    rintro r w1 ⟨rfl,k,hw1⟩;have st1:w1.cell? ⟨b,off+d.g*2,none⟩=some (.int .i64 st):=by rw[hw1];exact st0
    have HW:=Qq hw1;clear hw1 HM st0;go_wp2;go_ret;exact⟨rfl,_,HW.out⟩
  ·have e1:(en==0)=false:=by simpa using he
   have d4:decide (en=0)=false:=decide_eq_false he
   rw[d4];clear he d4 hs;go_enter Tryz.func101,Tryz.ntmps101
   go_wp2;go_ret;exact⟨rfl,0,rfl⟩
theorem Xm.more {w0:World}{p:Nat}{T:List Value}{W:Wd}{F:Nat}{fst cap:Array Value}{kind n:Int}{R:List zv}{Qd:Int→List zv→Prop}{Qp:Ending→List zv→Prop}(h:Xm w0 p T W F fst cap kind n R Qd Qp)(A:zv) :
  Xm w0 p T W F fst cap kind n (A::R) (fun v R2=>∃R1,R2=A::R1∧Qd v R1) (fun r R2=>∃R1,R2=A::R1∧Qp r R1):=by
 intro Z d w' hD;have e:∀X:List zv,Z++(A::X)=(Z++[A])++X:=fun X=>by simp
 rw[e] at hD;refine(h (Z++[A]) d w' hD).mono (fun r w2 hh=>?_)
 rcases hh with⟨v,R',h1,h2,h3⟩|⟨ch,R',h1,h2,h3⟩
 ·exact .inl ⟨v,_,h1,⟨R',rfl,h2⟩,by rw[e];exact h3⟩
 ·exact .inr ⟨ch,_,h1,⟨R',rfl,h2⟩,by rw[e];exact h3⟩
theorem yL.mk {w0 w:World}{p:Nat}{T:List Value}{W:Wd}{D:Wa}{R:List zv}{q:Nat}{A:zv}{g:Nat}{x:yq}{th:Bool}(h:Own w0 w (ze q (yp p (g:Int) x th 0 false none 0 0)::A::(zj p W D T++R)))(hf:D.fits W) :
  yL w0 w p T ⟨q,g,x,th,0,false⟩ W [] (A::R):=by
 refine⟨D,none,0,hf,?_⟩
 have h1:Own w0 w (zd 1 none 0 0 []::(ze q (yp p (g:Int) x th 0 false none 0 0)::A::(zj p W D T++R))) :=
  h.add (Below.refl _ _) (A:=zd 1 none 0 0 []) (F:=[]) ⟨rfl,zT.nil 1 w⟩ (fun x hx=>by simp at hx)
 refine h1.perm ?_
 have e:List.Perm ([zd 1 none 0 0 [],ze q (yp p (g:Int) x th 0 false none 0 0),A]++(zj p W D T++R)) (zj p W D T++([ze q (yp p (g:Int) x th 0 false none 0 0),zd 1 none 0 0 [],A]++R)):=by
  rw[←List.append_assoc,←List.append_assoc];refine List.Perm.append_right R ((List.perm_append_comm).trans (List.Perm.append_left _ ?_))
  exact List.Perm.swap _ _ _
 simpa [zt] using e
theorem PS {w:World}{b:Nat}{k:Bool}{a:Option Addr}{n c:Nat}(e0:w.cell? ⟨b,0,none⟩=some (.bool k))(e1:w.cell? ⟨b,1,none⟩=some (.slice a n c)):(loadVar 210 ⟨b,0,none⟩).run Tryz.prog w=.ok (.agg #[.bool k,.slice a n c]) w:=by
 simp[go_sem,e0,e1]
theorem Jc {w0 w:World}{p:Nat}{T:List Value}{W:Wd}{D:Wa}{R:List zv}(h:Own w0 w (zj p W D T++R))(hf:D.fits W)(g:Int)(hl:¬W.lets g)(draw:Value) :
  Calls Tryz.prog 85 #[.pointer (some ⟨p,0,none⟩),.int .i64 g,draw] w fun r w'=>r=.returned (.agg #[.bool false,.slice none 0 0])∧Own w0 w' (zj p W D T++R):=by
 have HL:Hid (∀(wx:World) (Y:List zv),Own w0 wx (zj p W D T++Y)→Calls Tryz.prog 97 #[.pointer (some ⟨p,0,none⟩),.int .i64 g] wx fun r w'=>r=.returned (.bool false)∧w'=wx):=Qq (fun wx Y ho=>by
  refine(RC ho hf g).mono (fun r w' hh=>?_)
  rw[decide_eq_false hl] at hh;exact hh)
 have o1:=(h.alloc [.bool false,.slice none 0 0] 210 (b:=w.heap.size) rfl)
 have H1:=Qq o1;clear h hf hl o1;go_enter Tryz.func85,Tryz.ntmps85
 go_wp2_with fail;refine(HL.out _ _ H1.out.X5).mono ?_
 rintro r w2 ⟨rfl,rfl⟩;go_wp2;exact bodyPost_ret (zu Tryz.results85 _ ⟨w.heap.size,0,none⟩ rfl (PS (H1.out.zi 0 rfl 0 _ rfl).1 (H1.out.zi 0 rfl 1 _ rfl).1)) rfl ⟨rfl,H1.out.drop⟩
theorem Own.ET {w0 w:World}{A B:zv}{L R:List zv}(h:Own w0 w (A::B::(L++R))):Own w0 w (L++(A::B::R)):=h.perm (by
 have e:List.Perm ([A,B]++(L++R)) (L++([A,B]++R)):=by
  rw[←List.append_assoc,←List.append_assoc];exact List.Perm.append_right R List.perm_append_comm
 simpa using e)
theorem yL.end_ {w0 w:World}{p:Nat}{T:List Value}{d:Dq}{W:Wd}{rd:List Int}{A:zv}{R:List zv}(h:yL w0 w p T d W rd (A::R)):∃D ra rc,D.fits W∧Own w0 w (zd 1 ra rc rd.length (zt rd)::(zj p W D T++R)):=by
 obtain⟨D,ra,rc,hf,h⟩:=h;exact⟨D,ra,rc,hf,Own.yC ((((h.pick 10 rfl).drop).pick 11 rfl).drop)⟩
def Yo (W:Wd)(q g:Nat):Dq:=⟨q,g,(W.ins g).getD (0,0,0,0),(W.ins g).isSome,0,false⟩
def MY (w0:World)(p:Nat)(T:List Value)(W:Wd)(g:Nat)(Qa:Int→Bool→List zv→Prop)(Qp:Ending→List zv→Prop)(r:Ending)(w':World):Prop :=
 (∃v go R' D' ra rc,let m:=doM W g (W.ins g) v go
  r=.returned (.agg #[.bool (Xr m.end_ g ((W.ins g).getD (0,0,0,0))),.slice ra m.rd.length rc])∧Qa v go R'∧D'.fits m.end_∧Own w0 w' (zd 1 ra rc m.rd.length (zt m.rd)::(zj p m.end_ D' T++R'))) ∨
 (∃D' chain R',r=.panicked chain∧Qp r R'∧D'.fits W∧Own w0 w' (zj p W D' T++R'))
theorem Kt {w0 w:World}{p:Nat}{T:List Value}{W:Wd}{D:Wa}{R:List zv}(h:Own w0 w (zj p W D T++R))(hf:D.fits W)(g:Nat)(hl:W.lets (g:Int))(ok:Qo W g)(draw:Value){Qa:Int→Bool→List zv→Prop}{Qp:Ending→List zv→Prop}
  (ha:∀q b w1,yL w0 w1 p T (Yo W q g) W [] (ze b [.bool false,.slice none 0 0]::R)→Calls Tryz.prog 99 #[.pointer (some ⟨q,0,none⟩),draw] w1 fun r w' =>
   (∃v go R',r=.returned (.tuple #[])∧Qa v go R'∧yL w0 w' p T ((Yo W q g).ask v go) W [] (ze b [.bool false,.slice none 0 0]::R'))∨(∃chain R',r=.panicked chain∧Qp r R'∧yL w0 w' p T (Yo W q g) W [] (ze b [.bool false,.slice none 0 0]::R')))
  (hd:∀q v go R' R2 w1,Qa v go R'→yL w0 w1 p T ((Yo W q g).ask v go) W [] R2→Calls Tryz.prog 100 #[.pointer (some ⟨q,0,none⟩)] w1 fun r w' =>
   r=.returned (.tuple #[])∧yL w0 w' p T ((Yo W q g).ask v go) (doM W g (W.ins g) v go).end_ (doM W g (W.ins g) v go).rd R2)
  (hk:∀v go R',Qa v go R'→g<(doM W g (W.ins g) v go).end_.gs.length∧1≤((doM W g (W.ins g) v go).end_.g g).n∧((doM W g (W.ins g) v go).end_.g g).n≤16) :
  Calls Tryz.prog 85 #[.pointer (some ⟨p,0,none⟩),.int .i64 (g:Int),draw] w fun r w'=>MY w0 p T W g Qa Qp r w':=by
 have HL:Hid (∀(wx:World) (D':Wa) (Y:List zv),D'.fits W→Own w0 wx (zj p W D' T++Y)→Calls Tryz.prog 97 #[.pointer (some ⟨p,0,none⟩),.int .i64 (g:Int)] wx fun r w'=>r=.returned (.bool true)∧w'=wx):=Qq (fun wx D' Y hf' ho=>by
  refine(RC ho hf' (g:Int)).mono (fun r w' hh=>?_)
  rw[decide_eq_true hl] at hh;exact hh)
 have HN:=Qq (fun wx Y (ho:Own w0 wx (zj p W D T++Y))=>LM ho hf g ok)
 have HA:=Qq ha;have HD:=Qq hd;have HK:=Qq hk;have HF:=Qq hf;have H1:=Qq (h.alloc [.bool false,.slice none 0 0] 210 (b:=w.heap.size) rfl)
 have B1:Hid ((w.alloc (.cells #[.bool false,.slice none 0 0] 210)).heap.size=w.heap.size+1):=Qq (by simp)
 clear h hf hl ok ha hd hk;go_enter Tryz.func85,Tryz.ntmps85
 go_wp2_with fail;refine(HL.out _ _ _ HF.out H1.out.X5).mono ?_
 rintro r w2 ⟨rfl,rfl⟩;go_upto_region 4 with fail
 have H2:=Qq (H1.out.alloc [.pointer (some ⟨p,0,none⟩),.int .i64 (g:Int),.int .i64 0,.int .i64 0,.int .i64 0,.int .i64 0,.bool false,.int .i64 0,.bool false,.slice none 0 0] 232 (b:=w.heap.size+1) B1.out.symm)
 clear H1 B1;generalize ((w.alloc (.cells #[.bool false,.slice none 0 0] 210)).alloc (.cells #[.pointer (some ⟨p,0,none⟩),.int .i64 (g:Int),.int .i64 0,.int .i64 0,.int .i64 0,.int .i64 0,.bool false,.int .i64 0,.bool false,.slice none 0 0] 232))=w2 at *
 generalize w.heap.size+1=q at *
 generalize w.heap.size=b6 at *;obtain⟨x0,x1,x2,x3,th,hI1,hI2,hBx⟩:∃x0 x1 x2 x3 th,ME (W.ins g)=.agg #[.int .i64 x0,.int .i64 x1,.int .i64 x2,.int .i64 x3]∧(W.ins g).isSome=th∧∀q,Yo W q g=⟨q,g,(x0,x1,x2,x3),th,0,false⟩:=by
  unfold Yo ME;cases hI:W.ins g with
  | none=>exact⟨0,0,0,0,false,rfl,rfl,fun _=>rfl⟩
  | some x=>exact⟨x.1,x.2.1,x.2.2.1,x.2.2.2,true,rfl,rfl,fun _=>rfl⟩
 have HBx:=Qq hBx;clear hBx;have HN2:=Qq (HN.out _ _ H2.out.ET)
 rw[hI1,hI2] at HN2;clear HN hI1 hI2;go_wp2_with fail;refine HN2.out.mono ?_
 rintro r w3 ⟨rfl,b3⟩;have o3:=H2.out.step b3;clear H2 HN2 b3;obtain⟨z2,y2⟩:=o3.zi 0 rfl 2 _ rfl;obtain⟨z3,y3⟩:=o3.zi 0 rfl 3 _ rfl;obtain⟨z4,y4⟩:=o3.zi 0 rfl 4 _ rfl;obtain⟨z5,y5⟩:=o3.zi 0 rfl 5 _ rfl;obtain⟨z6,y6⟩:=o3.zi 0 rfl 6 _ rfl;have HA2:=Qq (HA.out q b6 _ (by rw[HBx.out q];exact yL.mk (x:=(x0,x1,x2,x3)) (th:=th) (((((o3.set 2 (.int .i64 x0)).set 3 (.int .i64 x1)).set 4 (.int .i64 x2)).set 5 (.int .i64 x3)).set 6 (.bool th)) HF.out))
 clear HA o3;go_wp2_with fail;refine HA2.out.mono ?_
 clear z2 y2 z3 y3 z4 y4 z5 y5 z6 y6 HA2;intro r w4 hp;rcases hp with⟨v,go,R',rfl,hq,h4⟩|⟨ch,R',rfl,hq,h4⟩
 ·have HQ:=Qq hq
  have HDo:=Qq (HD.out q v go R' _ w4 hq h4)
  have HKo:=Qq (HK.out v go R' hq)
  have HLo:Hid (Calls Tryz.prog 97 #[.pointer (some ⟨p,0,none⟩),.int .i64 (g:Int)] w4 fun r w'=>r=.returned (.bool true)∧w'=w4):=Qq (by
   obtain⟨D4,ra4,rc4,hf4,o4⟩:=h4;exact HL.out _ _ _ hf4 o4)
  clear hq h4 HD HK HL;go_wp2_with fail;refine HLo.out.mono ?_
  rintro r w5 ⟨rfl,rfl⟩;clear HLo;go_wp2_with fail;refine HDo.out.mono ?_
  rintro r w6 ⟨rfl,h6⟩;clear HDo;obtain⟨m,hm⟩:∃m,m=doM W g (W.ins g) v go:=⟨_,rfl⟩
  have HM:=Qq hm;rw[←hm] at h6 HKo;clear hm;have h7:=h6.step (zg w6)
  have HKp:=Qq (N3 h7 HKo.out.1 HKo.out.2)
  obtain⟨D6,ra,rc,hf6,o6⟩:=h6;have SB:∀(wx:World) (Z:List zv),Own w0 wx (zj p m.end_ D6 T++(ze q (yp p (g:Int) (Yo W q g).x (Yo W q g).th v go ra m.rd.length rc)::Z))→wx.cell? ⟨q,9,none⟩=some (.slice ra m.rd.length rc):=by
   intro wx Z ho;exact(ho.zi 10 rfl 9 _ rfl).1
  have HSB:=Qq SB;have H6:=Qq o6;have HF6:=Qq hf6;clear h7 o6 hf6 SB HKo;go_upto_region 9 with fail
  have o7:=H6.out.step (zg w6)
  refine zV (fun wx=>wx.cell? ⟨q,9,none⟩=some (.slice ra m.rd.length rc)) 8 (Array.replicate 8 false) (by kernel_rfl) (by kernel_rfl) ?_
  refine zm 0 1 _ (Qj 8 1) 7 (by kernel_rfl) za (HSB.out _ _ o7) (by kernel_rfl) ?_
  simp only[QX,QV,QJ];(repeat((first|refine Qx (h:=?_)|refine Qv (h:=?_));simp only[Act.put,QW,QY,QZ]));refine zb ?_;refine zm 2 4 _ (Qj 8 61) 3 (by kernel_rfl) za (HSB.out _ _ o7) (by kernel_rfl) ?_
  simp only[QX,QV,QQ,QJ];(repeat((first|refine Qx (h:=?_)|refine Qv (h:=?_));simp only[Act.put,QW,QY,QZ]));refine zb ?_;refine zh 1 _ (Qj 8 63) 2 (by kernel_rfl) (fun K hK=>?_)
  have HKK:=Qq hK;clear hK;simp only[QQ,QJ];refine zc (by rfl) ?_;go_simp;refine HKp.out.mono ?_
  rintro r w8 ⟨rfl,k8,hw8⟩;have o8:=o7.q1 hw8;clear hw8 HKp;refine HKK.out _ _ (HSB.out _ _ o8) ?_
  clear HKK K;refine zm 6 1 _ (Qj 8 127) 1 (by kernel_rfl) za (HSB.out _ _ o8) (by kernel_rfl) ?_
  simp only[QX,QV,QQ,QJ];(repeat((first|refine Qx (h:=?_)|refine Qv (h:=?_));simp only[Act.put,QW,QY,QZ]));refine zb ?_;obtain⟨e0,f0⟩:=o8.zi 12 rfl 0 _ rfl;obtain⟨e1,f1⟩:=o8.zi 12 rfl 1 _ rfl;have o9:=((o8.pick 12 rfl).set 0 (.bool (Xr m.end_ g (Yo W q g).x))).set 1 (.slice ra m.rd.length rc)
  have H9:=Qq o9;refine zh 7 _ (Qj 8 255) 0 (by kernel_rfl) (fun K hK=>?_)
  have HKK:=Qq hK;clear hK;simp only[QQ,QJ];refine zc (by rfl) ?_;go_simp;refine HKK.out _ _ ((H9.out.zi 11 rfl 9 _ rfl).1) ?_
  clear HKK K;refine wpAnyH_done (by kernel_rfl) (NoPanic.normal ?_) _
  clear o7 o8 o9 H6 HSB;go_wp2_with fail;refine bodyPost_ret (zu Tryz.results85 _ ⟨b6,0,none⟩ rfl (PS (k:=Xr m.end_ g (Yo W q g).x) (H9.out.zi 0 rfl 0 _ rfl).1 (H9.out.zi 0 rfl 1 _ rfl).1)) rfl (.inl ⟨v,go,R',D6,ra,rc,?_⟩)
  have HM2:=HM.out;clear HM;subst HM2;exact⟨rfl,HQ.out,HF6.out,Own.yC ((H9.out.drop.pick 10 rfl).drop)⟩
 ·obtain⟨D5,ra5,rc5,hf5,h5⟩:=h4.end_
  exact⟨rfl,.inr ⟨D5,ch,R',rfl,hq,hf5,h5.drop⟩⟩
theorem Nk {w0 w:World}{p:Nat}{T:List Value}{d:Dq}{W:Wd}{R:List zv}(h:yL w0 w p T d W [] R)(hg:d.g<W.gs.length)(hm:1≤(W.g d.g).n∧(W.g d.g).n≤16)(ha:0≤d.x.2.1∧d.x.2.1<8)(ho:W.out.length≤1000) :
  Calls Tryz.prog 140 #[.pointer (some ⟨d.q,0,none⟩)] w fun r w'=>ZQ w0 p T d R (Yw W [] d.g d.x) r w':=by
 obtain⟨D,ra,rc,hf,h⟩:=h;obtain⟨a,hA,ha8⟩:=yN (n:=8) ha
 obtain⟨b,off,s,cap,F⟩:=ZB hf h hg hm;have q0:=F.top.d0;have q3:=(h.zi 10 rfl 3 _ rfl).1
 have p8:=(h.zi 0 rfl 8 _ rfl).1
 rw[hA] at q3;by_cases hl:1000≤W.out.length
 ·have e:Yw W [] d.g d.x=⟨W,[],some (-6)⟩:=by unfold Yw;rw[if_pos hl]
  rw[e];have hd:decide ((1000:Int)≤(W.out.length:Int))=true:=by simpa using (by omega:(1000:Int)≤(W.out.length:Int))
  have H:=Qq (show yL w0 w p T d W [] R from⟨D,ra,rc,hf,h⟩)
  generalize W.out.length=n at *;clear h hf F q3 hl ho e;go_enter Tryz.func140,Tryz.ntmps140
  go_wp2;exact⟨rfl,rfl,H.out⟩
 ·have e:Yw W [] d.g d.x=⟨{ W with out:=W.out++[(W.g d.g).rg d.x.2.1] },[],none⟩:=by unfold Yw;rw[if_neg hl]
  rw[e];have hd:decide ((1000:Int)≤(W.out.length:Int))=false:=by simpa using (by omega:¬(1000:Int)≤(W.out.length:Int))
  have hone:d.x.2.1=(a:Int):=hA
  rw[hA];generalize hv:(W.g d.g).rg (a:Int)=v
  have hreg:=(ZO F.stk hm.1 a ha8).1
  rw[hv] at hreg;have a0:(0:Int)≤(a:Int):=by omega
  have a8:(a:Int)<8:=by omega
  have SCB:∀(wx:World) (A9:zv),Own w0 wx ((zj p W D T++(ze d.q (yp p (d.g:Int) d.x d.th d.dr d.go ra 0 rc)::zd 1 ra rc 0 (zt [])::R)).set 9 A9) →
    wx.cell? ⟨d.q,0,none⟩=some (.pointer (some ⟨p,0,none⟩))∧wx.cell? ⟨p,8,none⟩=some (.slice D.oa W.out.length D.oc)∧wx.cell? ⟨d.q,3,none⟩=some (.int .i64 (a:Int))∧wx.cell? ⟨s,((W.g d.g).n-1)*11+2+a,none⟩=some (.int .i64 v):=by
   intro wx A9 ho;obtain⟨Fx,⟨_,hk⟩,-⟩:=(ho.pick 3 rfl).XC (Yj F.sk (Wd.WW hg))
   have h3:=(ho.zi 10 rfl 3 _ rfl).1
   rw[hA] at h3;have hr:=(ZO hk hm.1 a ha8).1
   rw[hv] at hr;exact⟨(ho.zi 10 rfl 0 _ rfl).1,(ho.zi 0 rfl 8 _ rfl).1,h3,hr⟩
  have Z2:=Xj (F.top.drewN 1)
  have H:=Qq h;have HF:=Qq hf;obtain⟨i0,hi0,hz0,hz1,hz2⟩:=info_parts VE;have Hi:=Qq hi0;clear hi0
  have Hz0:=Qq hz0;clear hz0
  have Hz1:=Qq hz1;clear hz1
  have Hz2:=Qq hz2;clear hz2
  have HL:=Qq (show W.out.length≤1000 from ho)
  obtain⟨n,hn⟩:∃n,n=W.out.length:=⟨_,rfl⟩
  rw[←hn] at SCB hd p8 HL;obtain⟨m,hmm⟩:∃m,m=(W.g d.g).n-1:=⟨_,rfl⟩
  rw[←hmm] at SCB hreg Z2;have HT:=Qq Z2;have HN:=Qq hn;clear hn hl ho e hone F hf hA hv ha hm Z2 hmm;have h0:=H.out;clear h;go_enter Tryz.func140,Tryz.ntmps140
  go_upto_region 2 with fail
  have o1:=h0.step (zg w)
  refine xg (fun wx=>wx.cell? ⟨d.q,0,none⟩=some (.pointer (some ⟨p,0,none⟩))∧wx.cell? ⟨p,8,none⟩=some (.slice D.oa n D.oc)∧wx.cell? ⟨d.q,3,none⟩=some (.int .i64 (a:Int))∧wx.cell? ⟨s,m*11+2+a,none⟩=some (.int .i64 v)) 26 27 (Array.replicate 27 false) (by kernel_rfl) (by kernel_rfl) ?_
  refine yw 0 12 _ (Qj 27 4095) 15 (by kernel_rfl) za (SCB _ _ o1) (by kernel_rfl) ?_
  simp only[QX,QV,QJ];(repeat((first|refine Qx (h:=?_)|refine Qv (h:=?_));simp only[Act.put,QW,QY,QZ]));refine zb ?_;refine yw 13 5 _ (Qj 27 258047) 10 (by kernel_rfl) za (SCB _ _ o1) (by kernel_rfl) ?_
  simp only[QX,QV,QQ,QJ];(repeat((first|refine Qx (h:=?_)|refine Qv (h:=?_));simp only[Act.put,QW,QY,QZ]));refine zb ?_;refine yj 12 _ (Qj 27 262143) 9 (by kernel_rfl) (fun K hK=>?_)
  have HKK:=Qq hK;clear hK;simp only[QQ,QJ];refine zc (by rfl) ?_;go_simp;refine HT.out.mono ?_
  rintro r w1 ⟨rfl,k1,hw1⟩;have o2:=h0.q2 hw1;clear hw1;refine HKK.out _ _ (SCB _ _ o2) ?_
  clear HKK K;refine yw 18 4 _ (Qj 27 4194303) 5 (by kernel_rfl) za (SCB _ _ o2) (by kernel_rfl) ?_
  simp only[QX,QV,QQ,QJ];(repeat((first|refine Qx (h:=?_)|refine Qv (h:=?_));simp only[Act.put,QW,QY,QZ]));refine zb ?_;refine yj 22 _ (Qj 27 8388607) 4 (by kernel_rfl) (fun K hK=>?_)
  have HKK:=Qq hK;clear hK;simp only[QQ,QJ];refine zc (by rfl) ?_;go_simp;have o3:=o2.step (below_alloc1 _ (.cells #[.int .i64 v] 2))
  refine HKK.out _ _ (SCB _ _ o3) ?_
  clear HKK K;refine yj 23 _ (Qj 27 16777215) 3 (by kernel_rfl) (fun K hK=>?_)
  have HKK:=Qq hK;clear hK;simp only[QQ,QJ];refine zc (by rfl) ?_;have hrow:=o3.xl 9 rfl;rw[←HN.out] at hrow;refine yx (n:=n) (m:=1) (cs:=zt W.out) (ds:=zt [v]) _ _ 39 (by rfl) 2 i0 _ Tryz.underlying39 Hi.out Hz0.out Hz1.out Hz2.out rfl (by omega) (by omega) (by rfl) (by rfl) hrow (zr.new _ (zt [v]) _ rfl) rfl (ZL _) (by have:=HL.out;omega) ?_
  intro a9 c9 w9 k9 ch9 f9;have o4:=(Own.yJ (o3.pick 9 rfl) k9 ch9 f9).back (i:=9) (As:=zj p W D T++(ze d.q (yp p (d.g:Int) d.x d.th d.dr d.go ra 0 rc)::zd 1 ra rc 0 (zt [])::R)) (by simp[zj])
  refine HKK.out _ _ (SCB _ _ o4) ?_
  clear HKK K;refine xF 24 1 _ (Qj 27 33554431) 2 (by kernel_rfl) za (by kernel_rfl) ?_
  simp only[QX,QV,QQ,QJ];(repeat((first|refine Qx (h:=?_)|refine Qv (h:=?_));simp only[Act.put,QW,QY,QZ]));refine zb ?_;refine yw 25 1 _ (Qj 27 67108863) 1 (by kernel_rfl) za (SCB _ _ o4) (by kernel_rfl) ?_
  simp only[QX,QV,QQ,QJ];(repeat((first|refine Qx (h:=?_)|refine Qv (h:=?_));simp only[Act.put,QW,QY,QZ]));refine zb ?_;have hf:=HF.out;obtain⟨z8,f8⟩:=o4.zi 0 rfl 8 _ rfl;have o5:=o4.setAt 0 rfl 8 (.slice a9 (n+1) c9)
  have e1:(W.out++[v]).length=n+1:=by rw[List.length_append,←HN.out];rfl
  have HR:Hid (yL w0 (w9.setCell ⟨p,8,none⟩ (.slice a9 (n+1) c9)) p T d { W with out:=W.out++[v] } [] R):=Qq ⟨{ D with oa:=a9,oc:=c9 },ra,rc,⟨hf.f,hf.g,hf.c,hf.n,hf.l,hf.k⟩,by
   simp only[zj,yH,e1,ZM];exact o5⟩
  clear o1 o2 o3 o4 o5 k9 ch9 f9 hf hrow SCB HT H HF;refine xE 26 _ (Qj 27 134217727) 0 (by kernel_rfl) (fun K hK=>?_)
  have HKK:=Qq hK;clear hK;simp only[QQ,QJ];refine zc (by rfl) ?_;go_simp;refine HKK.out _ _ ?_
  clear HKK K;refine xG (by kernel_rfl) (NoPanic.normal ?_) _
  go_wp2;go_end0
  exact⟨rfl,HR.out⟩
theorem NY {w0 w:World}{p:Nat}{T:List Value}{d:Dq}{W:Wd}{R:List zv}(h:yL w0 w p T d W [] R)(hg:d.g<W.gs.length)(hm:1≤(W.g d.g).n∧(W.g d.g).n≤16)(ha:0≤d.x.2.1∧d.x.2.1<8) :
  Calls Tryz.prog 141 #[.pointer (some ⟨d.q,0,none⟩)] w fun r w'=>ZQ w0 p T d R ⟨W.put d.g d.x.2.1 d.dr,[],none⟩ r w':=by
 obtain⟨D,ra,rc,hf,h⟩:=h;obtain⟨a,hA,ha8⟩:=yN (n:=8) ha
 obtain⟨b,off,s,cap,F⟩:=ZB hf h hg hm;have q0:=F.top.d0;have q3:=(h.zi 10 rfl 3 _ rfl).1
 have q7:=(h.zi 10 rfl 7 _ rfl).1
 rw[hA] at q3;rw[hA];obtain⟨m,hmm⟩:∃m,m=(W.g d.g).n-1:=⟨_,rfl⟩
 have hreg:=ZO F.stk hm.1 a ha8;have HT:=Qq (F.Z2 hmm 1)
 have HP:Hid (∀w1 k,w1=(w.drewN 1).drewN k→yL w0 (w1.setCell ⟨s,m*11+2+a,none⟩ (.int .i64 d.dr)) p T d (W.put d.g (a:Int) d.dr) [] R):=Qq (fun w1 k e=>by
  rw[hmm];exact⟨D,ra,rc,hf.ye _ _,VI (h.q2 e) hg F.sk a d.dr⟩)
 rw[←hmm] at hreg;have a0:(0:Int)≤(a:Int):=by omega
 have a8:(a:Int)<8:=by omega
 obtain⟨r0,r1⟩:=hreg;clear h hf F hA ha hm hmm;go_enter Tryz.func141,Tryz.ntmps141
 refine zk (fun wx=>∃nq,wx=World.drewN (w) nq) 14 1 (Array.replicate 15 false) (Qj 15 16383) (by kernel_rfl) (by kernel_rfl) ?_
 refine zf 0 1 _ (Qj 15 1) 13 (by kernel_rfl) za (zE w) (by kernel_rfl) ?_
 simp only[QX,QV,QJ];(repeat((first|refine Qx (h:=?_)|refine Qw (h:=?_));simp only[Act.put,QW,QY,QZ]));refine zb ?_;refine zf 2 9 _ (Qj 15 2045) 4 (by kernel_rfl) za (zE w) (by kernel_rfl) ?_
 simp only[QX,QV,QQ,QJ];(repeat((first|refine Qx (h:=?_)|refine Qw (h:=?_));simp only[Act.put,QW,QY,QZ]));refine zb ?_;refine zA 1 _ (Qj 15 2047) 3 (by kernel_rfl) (fun K hK=>?_)
 have HKK:=Qq hK;clear hK;simp only[QQ,QJ];refine zc (by rfl) ?_;go_simp;refine HT.out.mono ?_
 rintro r w1 ⟨rfl,k1,hw1⟩;refine HKK.out _ _ (VQ hw1) ?_
 clear HKK K;refine zf 11 3 _ (Qj 15 16383) 0 (by kernel_rfl) za (VQ hw1) (by kernel_rfl) ?_
 simp only[QX,QV,QQ,QJ];(repeat((first|refine Qx (h:=?_)|refine Qw (h:=?_));simp only[Act.put,QW,QY,QZ]));refine zb ?_;refine zo ?_;refine zS 14 (by kernel_rfl) ?_
 simp only[QQ,QJ];have hfin:=HP.out _ _ hw1;have HF:=Qq hfin;have s0:w1.cell? ⟨s,m*11+2+a,none⟩=some (.int .i64 ((W.g d.g).rg (a:Int))):=by rw[hw1];exact r0
 have s1:w1.frozen? ⟨s,m*11+2+a,none⟩=false:=by rw[hw1];exact r1
 clear hfin hw1 HP HT;go_wp2;go_end0
 exact⟨rfl,HF.out⟩
theorem Ms {w0 w:World}{p:Nat}{T:List Value}{d:Dq}{W:Wd}{R:List zv}(h:yL w0 w p T d W [] R)(hg:d.g<W.gs.length)(hm:1≤(W.g d.g).n∧(W.g d.g).n≤16)(ha:0≤d.x.2.1∧d.x.2.1<(W.Ls.length:Int))(hl:∀L∈W.Ls,L.length≤1000000)(hk:W.Ls.length≤1000) :
  Calls Tryz.prog 138 #[.pointer (some ⟨d.q,0,none⟩)] w fun r w'=>ZQ w0 p T d R (Xc W [] d.g d.x) r w':=by
 obtain⟨D,ra,rc,hf,h⟩:=h;obtain⟨a,hA,ha8⟩:=yN (n:=W.Ls.length) ha
 obtain⟨b,off,s,cap,F⟩:=ZB hf h hg hm;have q0:=F.top.d0;have q1:=F.top.d1;have q3:=(h.zi 10 rfl 3 _ rfl).1
 have p4:=(h.zi 0 rfl 4 _ rfl).1
 rw[hA] at q3;obtain⟨pt,lb,lo,R',hla,l0,k1,k2⟩:=Ro h hf ha8;rw[hla] at p4;have a0:(0:Int)≤(a:Int):=by omega
 have a8:(a:Int)<(W.Ls.length:Int):=by omega
 have hLl:=hl _ (List.mem_of_getElem? (Wd.SI ha8))
 have e:Xc W [] d.g d.x=if(W.lk (a:Int)).isEmpty=true then⟨{ W with Ls:=W.Ls.set a (W.lk (a:Int)++[(d.g:Int)]) },[],none⟩ else⟨({ W with Ls:=W.Ls.set a (W.lk (a:Int)++[(d.g:Int)]) }:Wd).zU d.g 2,[],none⟩:=by
  unfold Xc;rw[hA];cases hL:W.lk (a:Int)<;>simp[hL]
 rw[e];have K2:=Qq k2;have HC:Hid (∀k,Calls Tryz.prog 164 #[.pointer (some ⟨pt,0,none⟩),.int .i64 (d.g:Int)] (w.drewN k) fun r w'=>r=.returned (.bool (W.lk (a:Int)).isEmpty)∧Own w0 w' (zj p { W with Ls:=W.Ls.set a (W.lk (a:Int)++[(d.g:Int)]) } D T++(ze d.q (yp p (d.g:Int) d.x d.th d.dr d.go ra 0 rc)::zd 1 ra rc 0 (zt [])::R))∧D.fits { W with Ls:=W.Ls.set a (W.lk (a:Int)++[(d.g:Int)]) }) :=
  Qq (fun k=>(K7 (k1.step (zx w k)) (d.g:Int) hLl).mono (fun r w' hh=>⟨hh.1,k2 _ _ hh.2⟩))
 generalize hem:(W.lk (a:Int)).isEmpty=em at *
 generalize hW1:({ W with Ls:=W.Ls.set a (W.lk (a:Int)++[(d.g:Int)]) }:Wd)=W1 at *
 have hg1:d.g<W1.gs.length:=by rw[←hW1];exact hg
 have hm1:1≤(W1.g d.g).n∧(W1.g d.g).n≤16:=by rw[←hW1];exact hm
 generalize W.Ls.length=N at *;clear k1 k2 h F hf hA ha hl hem hW1 hLl hm e K2;go_enter Tryz.func138,Tryz.ntmps138
 go_upto_region 0 with fail
 refine zk (fun wx=>∃nq,wx=World.drewN (w) nq) 18 2 (Array.replicate 20 false) (Qj 20 262143) (by kernel_rfl) (by kernel_rfl) ?_
 refine zf 0 18 _ (Qj 20 262143) 0 (by kernel_rfl) za (zE w) (by kernel_rfl) ?_
 simp only[QX,QV,QJ];(repeat((first|refine Qx (h:=?_)|refine Qw (h:=?_));simp only[Act.put,QW,QY,QZ]));refine zb ?_;refine zo ?_;refine zS 18 (by kernel_rfl) ?_
 simp only[QQ,QJ];go_wp2_with fail;refine(HC.out 1).mono ?_
 rintro r w1 ⟨rfl,h1,hf1⟩;have H1:=Qq (show yL w0 w1 p T d W1 [] R from⟨D,ra,rc,hf1,h1⟩)
 obtain⟨b1,off1,s1,cap1,F1⟩:=ZB hf1 h1 hg1 hm1;have HM:=Qq (F1.FI 0)
 have HP:Hid (∀w2 k,w2=(w1.drewN 0).drewN k→yL w0 (w2.setCell ⟨b1,off1+d.g*2,none⟩ (.int .i64 2)) p T d (W1.zU d.g 2) [] R):=Qq (fun w2 k e=>⟨D,ra,rc,hf1.ye _ _,Ve (h1.q2 e) hf1 hg1 F1.aa 2⟩)
 obtain⟨c0,c1⟩:=F1.st;clear HC h1 hf1 F1;go_wp2_with fail;refine NoPanic.normal ?_
 cases em with
 | true =>
  go_wp2;go_end0
  exact⟨rfl,H1.out⟩
 | false =>
  go_wp2_with fail;refine(HM.out).mono ?_
  rintro r w2 ⟨rfl,k,hw2⟩;have HF:=Qq (HP.out _ _ hw2)
  have c0':w2.cell? ⟨b1,off1+d.g*2,none⟩=some (.int .i64 ((W1.g d.g).st)):=by rw[hw2];exact c0
  have c1':w2.frozen? ⟨b1,off1+d.g*2,none⟩=false:=by rw[hw2];exact c1
  clear hw2 HP HM c0 c1;go_wp2;go_end0
  exact⟨rfl,HF.out⟩
theorem Wc {w0 w w1:World}{R:List zv}{g n cap:Nat}{z:List Int}(h:Own w0 w R)(hb:Below w.heap.size w w1)(hs:zQ w1 g n cap z)(hg:w.heap.size≤g):Own w0 w1 (Yv g n cap z::R) :=
 h.add hb (F:=[g]) ⟨rfl,hs⟩ (fun x hx=>by simp at hx;omega)
theorem yL.Kx {w0 w:World}{p:Nat}{T:List Value}{d:Dq}{W:Wd}{D:Wa}{rd:List Int}{ra:Option Addr}{rc:Nat}{R:List zv}{s' n' cap':Nat}{z':List Int}(hf:D.fits W)(hg:d.g<W.gs.length)(hm:1≤(W.g d.g).n∧(W.g d.g).n≤16)
  (h:Own w0 w (Yv s' n' cap' z'::(zj p W D T++(ze d.q (yp p (d.g:Int) d.x d.th d.dr d.go ra rd.length rc)::zd 1 ra rc rd.length (zt rd)::R)))) :
  ∃b off,(Calls Tryz.prog 121 #[.pointer (some ⟨d.q,0,none⟩)] w fun r w'=>r=.returned (.pointer (some ⟨b,off+d.g*2,none⟩))∧∃j,w'=w.drewN j) ∧
   (∃v,w.cell? ⟨b,off+d.g*2+1,none⟩=some v)∧w.frozen? ⟨b,off+d.g*2+1,none⟩=false ∧
   ∀w2 j,w2=w.drewN j→yL w0 (w2.setCell ⟨b,off+d.g*2+1,none⟩ (.slice (some ⟨s',0,none⟩) n' cap')) p T d (W.ye d.g ⟨(W.g d.g).st,n',z'⟩) rd R:=by
 obtain⟨b,off,s,cap,F⟩:=ZB hf h.drop hg hm;refine⟨b,off,?_,⟨_,F.top.k⟩,F.sl,fun w2 j e=>?_⟩
 ·exact R8 F.top
 ·obtain⟨k1,k2⟩:=IF (h.q1 e) hf hg F.aa
  exact⟨_,ra,rc,k2,k1⟩
theorem NR {w0 w:World}{p:Nat}{T:List Value}{d:Dq}{W:Wd}{R:List zv}(h:yL w0 w p T d W [] R)(hg:d.g<W.gs.length)(hm:1≤(W.g d.g).n∧(W.g d.g).n≤16)(ha:0≤d.x.2.2.1∧d.x.2.2.1<8) :
  Calls Tryz.prog 130 #[.pointer (some ⟨d.q,0,none⟩)] w fun r w'=>ZQ w0 p T d R (Yz W [] d.g d.x) r w':=by
 obtain⟨D,ra,rc,hf,h⟩:=h;obtain⟨a,hA,ha8⟩:=yN (n:=8) ha
 obtain⟨b,off,s,cap,F⟩:=ZB hf h hg hm;have q0:=F.top.d0;have q3:=(h.zi 10 rfl 3 _ rfl).1
 have q4:=(h.zi 10 rfl 4 _ rfl).1
 have q5:=(h.zi 10 rfl 5 _ rfl).1
 rw[hA] at q4;have sl:=F.top.k;obtain⟨m,hmm⟩:∃m,m=(W.g d.g).n-1:=⟨_,rfl⟩
 have hreg:=(ZO F.stk hm.1 a ha8).1
 have HT:=fun k=>Qq (F.Z2 hmm k)
 have HM:=fun k=>Qq (F.FI k)
 have a0:(0:Int)≤(a:Int):=by omega
 have a8:(a:Int)<8:=by omega
 by_cases h16:(W.g d.g).n=16
 ·have e:Yz W [] d.g d.x=⟨W,[],some (-4)⟩:=by unfold Yz;rw[if_pos (by omega)]
  rw[e];have hs:=F.stk;rw[h16] at hs sl;have HC:Hid (∀k,Calls Tryz.prog 155 #[.slice (some ⟨s,0,none⟩) 16 cap,.int .i64 d.x.2.1,.int .i64 ((W.g d.g).rg (a:Int)),.int .i64 d.x.2.2.2] (w.drewN k) fun e w'=>∃g' cap',e=.returned (.tuple #[.slice (some ⟨g',0,none⟩) 16 cap',.bool false])∧yL w0 w' p T d W [] R) :=
   Qq (fun k=>(NG s cap _ d.x.2.1 ((W.g d.g).rg (a:Int)) d.x.2.2.2 (w.drewN k) (hs.below (zx w k))).mono (fun r w' ⟨g',c',h1,h2⟩=>⟨g',c',h1,D,ra,rc,hf,(h.step (zx w k)).step h2⟩))
  rw[←hmm] at hreg;generalize (W.g d.g).rg (a:Int)=v at *
  clear h hf F hA ha hm hs h16 e hmm hg;go_enter Tryz.func130,Tryz.ntmps130
  go_upto_region 0 with fail
  refine zk (fun wx=>∃nq,wx=World.drewN (w) nq) 26 6 (Array.replicate 32 false) (Qj 32 67108863) (by kernel_rfl) (by kernel_rfl) ?_
  refine zf 0 1 _ (Qj 32 1) 25 (by kernel_rfl) za (zE w) (by kernel_rfl) ?_
  simp only[QX,QV,QJ];(repeat((first|refine Qx (h:=?_)|refine Qw (h:=?_));simp only[Act.put,QW,QY,QZ]));refine zb ?_;refine zf 5 6 _ (Qj 32 2017) 19 (by kernel_rfl) za (zE w) (by kernel_rfl) ?_
  simp only[QX,QV,QQ,QJ];(repeat((first|refine Qx (h:=?_)|refine Qw (h:=?_));simp only[Act.put,QW,QY,QZ]));refine zb ?_;refine zf 12 5 _ (Qj 32 128993) 14 (by kernel_rfl) za (zE w) (by kernel_rfl) ?_
  simp only[QX,QV,QQ,QJ];(repeat((first|refine Qx (h:=?_)|refine Qw (h:=?_));simp only[Act.put,QW,QY,QZ]));refine zb ?_;refine zf 21 5 _ (Qj 32 65140705) 9 (by kernel_rfl) za (zE w) (by kernel_rfl) ?_
  simp only[QX,QV,QQ,QJ];(repeat((first|refine Qx (h:=?_)|refine Qw (h:=?_));simp only[Act.put,QW,QY,QZ]));refine zb ?_;refine zA 1 _ (Qj 32 65140707) 8 (by kernel_rfl) (fun K hK=>?_)
  have HKK:=Qq hK;clear hK;simp only[QQ,QJ];refine zc (by rfl) ?_;go_simp;refine(HM 1).out.mono ?_
  rintro r w1 ⟨rfl,k1,rfl⟩;refine HKK.out _ _ ((by first|exact⟨_,rfl⟩|exact⟨_,World.drewN_drewN _ _ _⟩)) ?_
  clear HKK K;refine zf 2 3 _ (Qj 32 65140735) 5 (by kernel_rfl) za ((by first|exact⟨_,rfl⟩|exact⟨_,World.drewN_drewN _ _ _⟩)) (by kernel_rfl) ?_
  simp only[QX,QV,QQ,QJ];(repeat((first|refine Qx (h:=?_)|refine Qw (h:=?_));simp only[Act.put,QW,QY,QZ]));refine zb ?_;refine zA 11 _ (Qj 32 65142783) 4 (by kernel_rfl) (fun K hK=>?_)
  have HKK:=Qq hK;clear hK;simp only[QQ,QJ];refine zc (by rfl) ?_;go_simp;refine(HT _).out.mono ?_
  rintro r w2 ⟨rfl,k2,rfl⟩;refine HKK.out _ _ ((by first|exact⟨_,rfl⟩|exact⟨_,World.drewN_drewN _ _ _⟩)) ?_
  clear HKK K;refine zf 17 4 _ (Qj 32 67108863) 0 (by kernel_rfl) za ((by first|exact⟨_,rfl⟩|exact⟨_,World.drewN_drewN _ _ _⟩)) (by kernel_rfl) ?_
  simp only[QX,QV,QQ,QJ];(repeat((first|refine Qx (h:=?_)|refine Qw (h:=?_));simp only[Act.put,QW,QY,QZ]));refine zb ?_;refine zo ?_;refine yA (fun _=>True) 6 0 (Qj 32 4294967295) ?_
  refine zA 26 _ (Qj 32 134217727) 5 (by kernel_rfl) (fun K hK=>?_)
  have HKK:=Qq hK;clear hK;simp only[QQ,QJ];refine zc (by rfl) ?_;go_simp;refine(HC.out _).mono ?_
  rintro r w3 ⟨g',c',rfl,h3⟩;have H3:=Qq h3;clear h3;refine HKK.out _ _ (trivial) ?_
  clear HKK K;refine zf 27 2 _ (Qj 32 536870911) 3 (by kernel_rfl) za (trivial) (by kernel_rfl) ?_
  simp only[QX,QV,QQ,QJ];(repeat((first|refine Qx (h:=?_)|refine Qv (h:=?_));simp only[Act.put,QW,QY,QZ]));refine zb ?_;refine zf 30 1 _ (Qj 32 1610612735) 2 (by kernel_rfl) za (trivial) (by kernel_rfl) ?_
  simp only[QX,QV,QQ,QJ];(repeat((first|refine Qx (h:=?_)|refine Qv (h:=?_));simp only[Act.put,QW,QY,QZ]));refine zb ?_;refine zf 29 1 _ (Qj 32 2147483647) 1 (by kernel_rfl) za (trivial) (by kernel_rfl) ?_
  simp only[QX,QV,QQ,QJ];(repeat((first|refine Qx (h:=?_)|refine Qv (h:=?_));simp only[Act.put,QW,QY,QZ]));refine zb ?_;refine zf 31 1 _ (Qj 32 4294967295) 0 (by kernel_rfl) za (trivial) (by kernel_rfl) ?_
  simp only[QX,QV,QQ,QJ];(repeat((first|refine Qx (h:=?_)|refine Qv (h:=?_));simp only[Act.put,QW,QY,QZ]));refine zb ?_;refine zo ?_;refine zD (by kernel_rfl) (NoPanic.normal ?_)
  clear HC HT HM;go_wp2;exact⟨rfl,rfl,H3.out⟩
 ·have e:Yz W [] d.g d.x=⟨W.ye d.g ⟨(W.g d.g).st,(W.g d.g).n+1,(W.g d.g).z++ZF d.x.2.1 ((W.g d.g).rg (a:Int)) d.x.2.2.2⟩,[],none⟩:=by unfold Yz;rw[if_neg (by omega),hA]
  rw[e];have hs:=F.stk;have HC:Hid (∀k,Calls Tryz.prog 155 #[.slice (some ⟨s,0,none⟩) (W.g d.g).n cap,.int .i64 d.x.2.1,.int .i64 ((W.g d.g).rg (a:Int)),.int .i64 d.x.2.2.2] (w.drewN k) fun e w'=>∃g' cap',e=.returned (.tuple #[.slice (some ⟨g',0,none⟩) ((W.g d.g).n+1) cap',.bool true])∧Own w0 w' (Yv g' ((W.g d.g).n+1) cap' ((W.g d.g).z++ZF d.x.2.1 ((W.g d.g).rg (a:Int)) d.x.2.2.2)::(zj p W D T++(ze d.q (yp p (d.g:Int) d.x d.th d.dr d.go ra 0 rc)::zd 1 ra rc 0 (zt [])::R)))) :=
   Qq (fun k=>(Lx s _ cap _ d.x.2.1 ((W.g d.g).rg (a:Int)) d.x.2.2.2 (w.drewN k) (hs.below (zx w k)) hm.1 (by omega)).mono (fun r w' ⟨g',c',h1,h2,h3,h4⟩=>⟨g',c',h1,Wc (h.step (zx w k)) h4 h3 h2⟩))
  have HN:=Qq (fun w g' c' h=>yL.Kx (w0:=w0) (w:=w) (T:=T) (R:=R) (rd:=[]) (s':=g') (cap':=c') (n':=(W.g d.g).n+1) (z':=(W.g d.g).z++ZF d.x.2.1 ((W.g d.g).rg (a:Int)) d.x.2.2.2) (p:=p) (ra:=ra) (rc:=rc) hf hg hm h)
  rw[←hmm] at hreg;generalize (W.g d.g).rg (a:Int)=v at *
  obtain⟨n,hn⟩:∃n,n=(W.g d.g).n:=⟨_,rfl⟩
  rw[←hn] at sl HC HN ⊢;clear h hf F hA ha hm hs h16 e hmm hg hn;go_enter Tryz.func130,Tryz.ntmps130
  go_upto_region 0 with fail
  refine zk (fun wx=>∃nq,wx=World.drewN (w) nq) 26 6 (Array.replicate 32 false) (Qj 32 67108863) (by kernel_rfl) (by kernel_rfl) ?_
  refine zf 0 1 _ (Qj 32 1) 25 (by kernel_rfl) za (zE w) (by kernel_rfl) ?_
  simp only[QX,QV,QJ];(repeat((first|refine Qx (h:=?_)|refine Qw (h:=?_));simp only[Act.put,QW,QY,QZ]));refine zb ?_;refine zf 5 6 _ (Qj 32 2017) 19 (by kernel_rfl) za (zE w) (by kernel_rfl) ?_
  simp only[QX,QV,QQ,QJ];(repeat((first|refine Qx (h:=?_)|refine Qw (h:=?_));simp only[Act.put,QW,QY,QZ]));refine zb ?_;refine zf 12 5 _ (Qj 32 128993) 14 (by kernel_rfl) za (zE w) (by kernel_rfl) ?_
  simp only[QX,QV,QQ,QJ];(repeat((first|refine Qx (h:=?_)|refine Qw (h:=?_));simp only[Act.put,QW,QY,QZ]));refine zb ?_;refine zf 21 5 _ (Qj 32 65140705) 9 (by kernel_rfl) za (zE w) (by kernel_rfl) ?_
  simp only[QX,QV,QQ,QJ];(repeat((first|refine Qx (h:=?_)|refine Qw (h:=?_));simp only[Act.put,QW,QY,QZ]));refine zb ?_;refine zA 1 _ (Qj 32 65140707) 8 (by kernel_rfl) (fun K hK=>?_)
  have HKK:=Qq hK;clear hK;simp only[QQ,QJ];refine zc (by rfl) ?_;go_simp;refine(HM 1).out.mono ?_
  rintro r w1 ⟨rfl,k1,rfl⟩;refine HKK.out _ _ ((by first|exact⟨_,rfl⟩|exact⟨_,World.drewN_drewN _ _ _⟩)) ?_
  clear HKK K;refine zf 2 3 _ (Qj 32 65140735) 5 (by kernel_rfl) za ((by first|exact⟨_,rfl⟩|exact⟨_,World.drewN_drewN _ _ _⟩)) (by kernel_rfl) ?_
  simp only[QX,QV,QQ,QJ];(repeat((first|refine Qx (h:=?_)|refine Qw (h:=?_));simp only[Act.put,QW,QY,QZ]));refine zb ?_;refine zA 11 _ (Qj 32 65142783) 4 (by kernel_rfl) (fun K hK=>?_)
  have HKK:=Qq hK;clear hK;simp only[QQ,QJ];refine zc (by rfl) ?_;go_simp;refine(HT _).out.mono ?_
  rintro r w2 ⟨rfl,k2,rfl⟩;refine HKK.out _ _ ((by first|exact⟨_,rfl⟩|exact⟨_,World.drewN_drewN _ _ _⟩)) ?_
  clear HKK K;refine zf 17 4 _ (Qj 32 67108863) 0 (by kernel_rfl) za ((by first|exact⟨_,rfl⟩|exact⟨_,World.drewN_drewN _ _ _⟩)) (by kernel_rfl) ?_
  simp only[QX,QV,QQ,QJ];(repeat((first|refine Qx (h:=?_)|refine Qw (h:=?_));simp only[Act.put,QW,QY,QZ]));refine zb ?_;refine zo ?_;refine yA (fun _=>True) 6 0 (Qj 32 4294967295) ?_
  refine zA 26 _ (Qj 32 134217727) 5 (by kernel_rfl) (fun K hK=>?_)
  have HKK:=Qq hK;clear hK;simp only[QQ,QJ];refine zc (by rfl) ?_;go_simp;refine(HC.out _).mono ?_
  rintro r w3 ⟨g',c',rfl,h3⟩;obtain⟨b',off',m1,⟨v1,m2⟩,m3,m4⟩:=HN.out w3 g' c' h3;have HM':=Qq m1;have H4:=Qq m4;clear h3 m1 m4;refine HKK.out _ _ (trivial) ?_
  clear HKK K;refine zf 27 2 _ (Qj 32 536870911) 3 (by kernel_rfl) za (trivial) (by kernel_rfl) ?_
  simp only[QX,QV,QQ,QJ];(repeat((first|refine Qx (h:=?_)|refine Qv (h:=?_));simp only[Act.put,QW,QY,QZ]));refine zb ?_;refine zf 30 1 _ (Qj 32 1610612735) 2 (by kernel_rfl) za (trivial) (by kernel_rfl) ?_
  simp only[QX,QV,QQ,QJ];(repeat((first|refine Qx (h:=?_)|refine Qv (h:=?_));simp only[Act.put,QW,QY,QZ]));refine zb ?_;refine zf 29 1 _ (Qj 32 2147483647) 1 (by kernel_rfl) za (trivial) (by kernel_rfl) ?_
  simp only[QX,QV,QQ,QJ];(repeat((first|refine Qx (h:=?_)|refine Qv (h:=?_));simp only[Act.put,QW,QY,QZ]));refine zb ?_;refine zf 31 1 _ (Qj 32 4294967295) 0 (by kernel_rfl) za (trivial) (by kernel_rfl) ?_
  simp only[QX,QV,QQ,QJ];(repeat((first|refine Qx (h:=?_)|refine Qv (h:=?_));simp only[Act.put,QW,QY,QZ]));refine zb ?_;refine zo ?_;refine zD (by kernel_rfl) (NoPanic.normal ?_)
  clear HC HT HM HN;go_wp2_with fail;refine HM'.out.mono ?_
  rintro r w4 ⟨rfl,j,hw4⟩;have HF:=Qq (H4.out w4 j hw4)
  have m2':w4.cell? ⟨b',off'+d.g*2+1,none⟩=some v1:=by rw[hw4];exact m2
  have m3':w4.frozen? ⟨b',off'+d.g*2+1,none⟩=false:=by rw[hw4];exact m3
  clear H4 HM' hw4 m2 m3;go_wp2;go_end0
  exact⟨rfl,HF.out⟩
theorem LV {w0 w:World}{p:Nat}{T:List Value}{d:Dq}{W:Wd}{R:List zv}(h:yL w0 w p T d W [] R)(hg:d.g<W.gs.length)(hm:1≤(W.g d.g).n∧(W.g d.g).n≤16)(ha:0≤d.x.2.1∧d.x.2.1<8)
  (hi:2≤(W.g d.g).n→0≤(W.g d.g).z.getD ((W.g d.g).o+10) 0∧(W.g d.g).z.getD ((W.g d.g).o+10) 0<8) :
  Calls Tryz.prog 131 #[.pointer (some ⟨d.q,0,none⟩)] w fun r w'=>ZQ w0 p T d R (WV W [] d.g d.x) r w':=by
 obtain⟨D,ra,rc,hf,h⟩:=h;obtain⟨a,hA,ha8⟩:=yN (n:=8) ha
 obtain⟨b,off,s,cap,F⟩:=ZB hf h hg hm;have q0:=F.top.d0;have q3:=(h.zi 10 rfl 3 _ rfl).1
 rw[hA] at q3;have sl:=F.top.k;obtain⟨m,hmm⟩:∃m,m=(W.g d.g).n-1:=⟨_,rfl⟩
 have hreg:=(ZO F.stk hm.1 a ha8).1
 have HT:=fun k=>Qq (F.Z2 hmm k)
 have HM:=fun k=>Qq (F.FI k)
 have a0:(0:Int)≤(a:Int):=by omega
 have a8:(a:Int)<8:=by omega
 have hs:=F.stk;by_cases h1:(W.g d.g).n=1
 ·have e:WV W [] d.g d.x=⟨{ W.zU d.g 4 with en:=if d.g=0 then 1 else W.en },[],none⟩:=by unfold WV;rw[if_pos (by omega)]
  rw[e];rw[h1] at hs sl;have HC:Hid (∀v k,Calls Tryz.prog 156 #[.slice (some ⟨s,0,none⟩) 1 cap,.int .i64 v] (w.drewN k) fun e w'=>e=.returned (.tuple #[.slice none 0 0,.bool false])∧w.drewN k=w'):=Qq (fun v k=>Rj s cap v _)
  rw[←hmm] at hreg;generalize (W.g d.g).rg (a:Int)=v at *
  have c0:=F.st;have HP:Hid (∀k,Own w0 ((w.drewN k).setCell ⟨b,off+d.g*2,none⟩ (.int .i64 4)) (zj p (W.zU d.g 4) D T++(ze d.q (yp p (d.g:Int) d.x d.th d.dr d.go ra 0 rc)::zd 1 ra rc 0 (zt [])::R))):=Qq (fun k=>Ve (h.q1 rfl) hf hg F.aa 4)
  have hf1:D.fits (W.zU d.g 4):=hf.ye _ _
  have HF:=Qq hf1;obtain⟨c0,c1⟩:=c0;have q1:=F.top.d1;have hpne:∀k,(w.drewN k).cell? ⟨d.q,0,none⟩=some (.pointer (some ⟨p,0,none⟩)):=fun k=>q0
  generalize hW:({ W.zU d.g 4 with en:=if d.g=0 then 1 else W.en }:Wd)=W'
  have HW:=Qq hW;clear hf F hA ha hm hs h1 e hmm hf1 hi hW;have H:=Qq h;clear h;go_enter Tryz.func131,Tryz.ntmps131
  go_upto_region 0 with fail
  refine zk (fun wx=>∃nq,wx=World.drewN (w) nq) 16 6 (Array.replicate 22 false) (Qj 22 65535) (by kernel_rfl) (by kernel_rfl) ?_
  refine zf 0 1 _ (Qj 22 1) 15 (by kernel_rfl) za (zE w) (by kernel_rfl) ?_
  simp only[QX,QV,QJ];(repeat((first|refine Qx (h:=?_)|refine Qw (h:=?_));simp only[Act.put,QW,QY,QZ]));refine zb ?_;refine zf 5 1 _ (Qj 22 33) 14 (by kernel_rfl) za (zE w) (by kernel_rfl) ?_
  simp only[QX,QV,QQ,QJ];(repeat((first|refine Qx (h:=?_)|refine Qw (h:=?_));simp only[Act.put,QW,QY,QZ]));refine zb ?_;refine zf 7 5 _ (Qj 22 4001) 9 (by kernel_rfl) za (zE w) (by kernel_rfl) ?_
  simp only[QX,QV,QQ,QJ];(repeat((first|refine Qx (h:=?_)|refine Qw (h:=?_));simp only[Act.put,QW,QY,QZ]));refine zb ?_;refine zA 1 _ (Qj 22 4003) 8 (by kernel_rfl) (fun K hK=>?_)
  have HKK:=Qq hK;clear hK;simp only[QQ,QJ];refine zc (by rfl) ?_;go_simp;refine(HM 1).out.mono ?_
  rintro r w1 ⟨rfl,k1,rfl⟩;refine HKK.out _ _ ((by first|exact⟨_,rfl⟩|exact⟨_,World.drewN_drewN _ _ _⟩)) ?_
  clear HKK K;refine zf 2 3 _ (Qj 22 4031) 5 (by kernel_rfl) za ((by first|exact⟨_,rfl⟩|exact⟨_,World.drewN_drewN _ _ _⟩)) (by kernel_rfl) ?_
  simp only[QX,QV,QQ,QJ];(repeat((first|refine Qx (h:=?_)|refine Qw (h:=?_));simp only[Act.put,QW,QY,QZ]));refine zb ?_;refine zA 6 _ (Qj 22 4095) 4 (by kernel_rfl) (fun K hK=>?_)
  have HKK:=Qq hK;clear hK;simp only[QQ,QJ];refine zc (by rfl) ?_;go_simp;refine(HT _).out.mono ?_
  rintro r w2 ⟨rfl,k2,rfl⟩;refine HKK.out _ _ ((by first|exact⟨_,rfl⟩|exact⟨_,World.drewN_drewN _ _ _⟩)) ?_
  clear HKK K;refine zf 12 4 _ (Qj 22 65535) 0 (by kernel_rfl) za ((by first|exact⟨_,rfl⟩|exact⟨_,World.drewN_drewN _ _ _⟩)) (by kernel_rfl) ?_
  simp only[QX,QV,QQ,QJ];(repeat((first|refine Qx (h:=?_)|refine Qw (h:=?_));simp only[Act.put,QW,QY,QZ]));refine zb ?_;refine zo ?_;refine yA (fun _=>True) 6 0 (Qj 22 4194303) ?_
  refine zA 16 _ (Qj 22 131071) 5 (by kernel_rfl) (fun K hK=>?_)
  have HKK:=Qq hK;clear hK;simp only[QQ,QJ];refine zc (by rfl) ?_;go_simp;refine(HC.out _ _).mono ?_
  rintro r w3 ⟨rfl,rfl⟩;refine HKK.out _ _ (trivial) ?_
  clear HKK K;refine zf 17 2 _ (Qj 22 524287) 3 (by kernel_rfl) za (trivial) (by kernel_rfl) ?_
  simp only[QX,QV,QQ,QJ];(repeat((first|refine Qx (h:=?_)|refine Qv (h:=?_));simp only[Act.put,QW,QY,QZ]));refine zb ?_;refine zf 20 1 _ (Qj 22 1572863) 2 (by kernel_rfl) za (trivial) (by kernel_rfl) ?_
  simp only[QX,QV,QQ,QJ];(repeat((first|refine Qx (h:=?_)|refine Qv (h:=?_));simp only[Act.put,QW,QY,QZ]));refine zb ?_;refine zf 19 1 _ (Qj 22 2097151) 1 (by kernel_rfl) za (trivial) (by kernel_rfl) ?_
  simp only[QX,QV,QQ,QJ];(repeat((first|refine Qx (h:=?_)|refine Qv (h:=?_));simp only[Act.put,QW,QY,QZ]));refine zb ?_;refine zf 21 1 _ (Qj 22 4194303) 0 (by kernel_rfl) za (trivial) (by kernel_rfl) ?_
  simp only[QX,QV,QQ,QJ];(repeat((first|refine Qx (h:=?_)|refine Qv (h:=?_));simp only[Act.put,QW,QY,QZ]));refine zb ?_;refine zo ?_;refine zD (by kernel_rfl) (NoPanic.normal ?_)
  go_wp2_with fail;refine(HM _).out.mono ?_
  rintro r w4 ⟨rfl,j0,hw0⟩;obtain⟨j,hw4⟩:=VQ hw0;clear hw0;have ho:=HP.out j;rw[←hw4] at ho;have c0':w4.cell? ⟨b,off+d.g*2,none⟩=some (.int .i64 ((W.g d.g).st)):=by rw[hw4];exact c0
  have c1':w4.frozen? ⟨b,off+d.g*2,none⟩=false:=by rw[hw4];exact c1
  have q0':=(ho.zi 10 rfl 0 _ rfl).1
  have q1':=(ho.zi 10 rfl 1 _ rfl).1
  obtain⟨e0,e1⟩:=ho.zi 0 rfl 9 _ rfl;have ho2:=ho.setAt 0 rfl 9 (.int .i64 1)
  have HO:=Qq ho;have HO2:=Qq ho2;clear ho ho2 hw4 HP HM HT HC c0 c1;by_cases hz:d.g=0
  ·have hz':((d.g:Int)==0)=true:=by simp[hz]
   have HF2:Hid (yL w0 ((w4.setCell ⟨b,off+d.g*2,none⟩ (.int .i64 4)).setCell ⟨p,9,none⟩ (.int .i64 1)) p T d W' [] R):=Qq (by rw[←HW.out];exact⟨D,ra,rc,⟨HF.out.f,HF.out.g,HF.out.c,HF.out.n,HF.out.l,HF.out.k⟩,by rw[if_pos hz];exact HO2.out⟩)
   clear HO HO2 hz;go_upto_region 4 with fail
   generalize w4.setCell ⟨b,off+d.g*2,none⟩ (.int .i64 4)=w5 at *
   go_wp2;go_end0
   exact⟨rfl,HF2.out⟩
  ·have hz':((d.g:Int)==0)=false:=by simp;omega
   have HF2:Hid (yL w0 (w4.setCell ⟨b,off+d.g*2,none⟩ (.int .i64 4)) p T d W' [] R):=Qq (by rw[←HW.out];exact⟨D,ra,rc,⟨HF.out.f,HF.out.g,HF.out.c,HF.out.n,HF.out.l,HF.out.k⟩,by rw[if_neg hz];exact HO.out⟩)
   clear HO HO2 hz;go_upto_region 4 with fail
   generalize w4.setCell ⟨b,off+d.g*2,none⟩ (.int .i64 4)=w5 at *
   go_wp2;go_end0
   exact⟨rfl,HF2.out⟩
 ·obtain⟨k,hk,hk8⟩:=yN (n:=8) (hi (by omega))
  obtain⟨n,hn⟩:∃n,(W.g d.g).n=n+2:=⟨(W.g d.g).n-2,by omega⟩
  have e:WV W [] d.g d.x=⟨W.ye d.g ⟨(W.g d.g).st,n+1,((W.g d.g).z.take ((n+1)*11)).set (n*11+2+k) ((W.g d.g).rg (a:Int))⟩,[],none⟩:=by
   unfold WV;rw[if_neg (by omega),hA,hk,hn]
   rfl
  rw[e];have hk2:(W.g d.g).z[n*11+21]?=some (k:Int):=by
   unfold Gt.o at hk;rw[hn,List.getD_eq_getElem?_getD] at hk
   have hl:=hs.len;rw[hn] at hl;have hlt:n*11+21<(W.g d.g).z.length:=by omega
   rw[show(n+2-1)*11+10=n*11+21 by omega,List.getElem?_eq_getElem hlt] at hk
   rw[List.getElem?_eq_getElem hlt]
   simpa using hk
  rw[hn] at hs sl;have HC:Hid (∀k',Calls Tryz.prog 156 #[.slice (some ⟨s,0,none⟩) (n+2) cap,.int .i64 ((W.g d.g).rg (a:Int))] (w.drewN k') fun e w'=>∃g' cap',e=.returned (.tuple #[.slice (some ⟨g',0,none⟩) (n+1) cap',.bool true])∧Own w0 w' (Yv g' (n+1) cap' (((W.g d.g).z.take ((n+1)*11)).set (n*11+2+k) ((W.g d.g).rg (a:Int)))::(zj p W D T++(ze d.q (yp p (d.g:Int) d.x d.th d.dr d.go ra 0 rc)::zd 1 ra rc 0 (zt [])::R)))) :=
   Qq (fun k'=>(QB s n cap _ ((W.g d.g).rg (a:Int)) k (w.drewN k') (hs.below (zx w k')) (by omega) hk2 hk8).mono (fun r w' ⟨g',c',h1,h2,h3,h4⟩=>⟨g',c',h1,Wc (h.step (zx w k')) h4 h3 h2⟩))
  have HN:=Qq (fun w g' c' h=>yL.Kx (w0:=w0) (w:=w) (T:=T) (R:=R) (rd:=[]) (s':=g') (cap':=c') (n':=n+1) (z':=((W.g d.g).z.take ((n+1)*11)).set (n*11+2+k) ((W.g d.g).rg (a:Int))) (p:=p) (ra:=ra) (rc:=rc) hf hg hm h)
  rw[←hmm] at hreg;generalize (W.g d.g).rg (a:Int)=v at *
  clear h hf F hA ha hm hs h1 e hmm hg hn hk hk2 hi;go_enter Tryz.func131,Tryz.ntmps131
  go_upto_region 0 with fail
  refine zk (fun wx=>∃nq,wx=World.drewN (w) nq) 16 6 (Array.replicate 22 false) (Qj 22 65535) (by kernel_rfl) (by kernel_rfl) ?_
  refine zf 0 1 _ (Qj 22 1) 15 (by kernel_rfl) za (zE w) (by kernel_rfl) ?_
  simp only[QX,QV,QJ];(repeat((first|refine Qx (h:=?_)|refine Qw (h:=?_));simp only[Act.put,QW,QY,QZ]));refine zb ?_;refine zf 5 1 _ (Qj 22 33) 14 (by kernel_rfl) za (zE w) (by kernel_rfl) ?_
  simp only[QX,QV,QQ,QJ];(repeat((first|refine Qx (h:=?_)|refine Qw (h:=?_));simp only[Act.put,QW,QY,QZ]));refine zb ?_;refine zf 7 5 _ (Qj 22 4001) 9 (by kernel_rfl) za (zE w) (by kernel_rfl) ?_
  simp only[QX,QV,QQ,QJ];(repeat((first|refine Qx (h:=?_)|refine Qw (h:=?_));simp only[Act.put,QW,QY,QZ]));refine zb ?_;refine zA 1 _ (Qj 22 4003) 8 (by kernel_rfl) (fun K hK=>?_)
  have HKK:=Qq hK;clear hK;simp only[QQ,QJ];refine zc (by rfl) ?_;go_simp;refine(HM 1).out.mono ?_
  rintro r w1 ⟨rfl,k1,rfl⟩;refine HKK.out _ _ ((by first|exact⟨_,rfl⟩|exact⟨_,World.drewN_drewN _ _ _⟩)) ?_
  clear HKK K;refine zf 2 3 _ (Qj 22 4031) 5 (by kernel_rfl) za ((by first|exact⟨_,rfl⟩|exact⟨_,World.drewN_drewN _ _ _⟩)) (by kernel_rfl) ?_
  simp only[QX,QV,QQ,QJ];(repeat((first|refine Qx (h:=?_)|refine Qw (h:=?_));simp only[Act.put,QW,QY,QZ]));refine zb ?_;refine zA 6 _ (Qj 22 4095) 4 (by kernel_rfl) (fun K hK=>?_)
  have HKK:=Qq hK;clear hK;simp only[QQ,QJ];refine zc (by rfl) ?_;go_simp;refine(HT _).out.mono ?_
  rintro r w2 ⟨rfl,k2,rfl⟩;refine HKK.out _ _ ((by first|exact⟨_,rfl⟩|exact⟨_,World.drewN_drewN _ _ _⟩)) ?_
  clear HKK K;refine zf 12 4 _ (Qj 22 65535) 0 (by kernel_rfl) za ((by first|exact⟨_,rfl⟩|exact⟨_,World.drewN_drewN _ _ _⟩)) (by kernel_rfl) ?_
  simp only[QX,QV,QQ,QJ];(repeat((first|refine Qx (h:=?_)|refine Qw (h:=?_));simp only[Act.put,QW,QY,QZ]));refine zb ?_;refine zo ?_;refine yA (fun _=>True) 6 0 (Qj 22 4194303) ?_
  refine zA 16 _ (Qj 22 131071) 5 (by kernel_rfl) (fun K hK=>?_)
  have HKK:=Qq hK;clear hK;simp only[QQ,QJ];refine zc (by rfl) ?_;go_simp;refine(HC.out _).mono ?_
  rintro r w3 ⟨g',c',rfl,h3⟩;obtain⟨b',off',m1,⟨v1,m2⟩,m3,m4⟩:=HN.out w3 g' c' h3;have HM':=Qq m1;have H4:=Qq m4;clear h3 m1 m4;refine HKK.out _ _ (trivial) ?_
  clear HKK K;refine zf 17 2 _ (Qj 22 524287) 3 (by kernel_rfl) za (trivial) (by kernel_rfl) ?_
  simp only[QX,QV,QQ,QJ];(repeat((first|refine Qx (h:=?_)|refine Qv (h:=?_));simp only[Act.put,QW,QY,QZ]));refine zb ?_;refine zf 20 1 _ (Qj 22 1572863) 2 (by kernel_rfl) za (trivial) (by kernel_rfl) ?_
  simp only[QX,QV,QQ,QJ];(repeat((first|refine Qx (h:=?_)|refine Qv (h:=?_));simp only[Act.put,QW,QY,QZ]));refine zb ?_;refine zf 19 1 _ (Qj 22 2097151) 1 (by kernel_rfl) za (trivial) (by kernel_rfl) ?_
  simp only[QX,QV,QQ,QJ];(repeat((first|refine Qx (h:=?_)|refine Qv (h:=?_));simp only[Act.put,QW,QY,QZ]));refine zb ?_;refine zf 21 1 _ (Qj 22 4194303) 0 (by kernel_rfl) za (trivial) (by kernel_rfl) ?_
  simp only[QX,QV,QQ,QJ];(repeat((first|refine Qx (h:=?_)|refine Qv (h:=?_));simp only[Act.put,QW,QY,QZ]));refine zb ?_;refine zo ?_;refine zD (by kernel_rfl) (NoPanic.normal ?_)
  clear HC HT HM HN;go_wp2_with fail;refine HM'.out.mono ?_
  rintro r w4 ⟨rfl,j,hw4⟩;have HF:=Qq (H4.out w4 j hw4)
  have m2':w4.cell? ⟨b',off'+d.g*2+1,none⟩=some v1:=by rw[hw4];exact m2
  have m3':w4.frozen? ⟨b',off'+d.g*2+1,none⟩=false:=by rw[hw4];exact m3
  clear H4 HM' hw4 m2 m3;go_wp2;go_end0
  exact⟨rfl,HF.out⟩
theorem V4 (fn arg:Int)(w:World):Calls Tryz.prog 63 #[.int .i64 fn,.int .i64 arg] w fun e w'=>∃g,e=.returned (.agg #[.int .i64 1,.slice (some ⟨g,0,none⟩) 1 1])∧w.heap.size≤g∧zQ w' g 1 1 (ZF fn arg 0)∧Below w.heap.size w w':=by
 have hb:=Qq (fun w=>NA fn arg w)
 go_enter Tryz.func63,Tryz.ntmps63
 go_wp2_with fail;refine(hb.out _).mono ?_
 rintro r w1 ⟨g,rfl,h1,h2,h3⟩;obtain⟨x0,y0⟩:=(zH.mk w [.int .i64 0,.slice none 0 0] 159 w.heap.size rfl).below h3 0 _ rfl
 obtain⟨x1,y1⟩:=(zH.mk w [.int .i64 0,.slice none 0 0] 159 w.heap.size rfl).below h3 1 _ rfl
 have hlt:=World.block_lt_of_cell? w1 _ x0
 have hgs:w.heap.size<g:=by have:=h1;simp at this;omega
 have hB:=zB (below_alloc1 w (.cells #[.int .i64 0,.slice none 0 0] 159)) h3
 have HS:=Qq h2;have HB:=Qq hB;clear h1 h2 h3 hB hb;obtain⟨b,hbe⟩:∃b,b=w.heap.size:=⟨_,rfl⟩
 rw[←hbe] at x0 y0 x1 y1 hlt hgs;have HFin:Hid (zQ ((w1.setCell ⟨b,0,none⟩ (.int .i64 1)).setCell ⟨b,1,none⟩ (.slice (some ⟨g,0,none⟩) 1 1)) g 1 1 (ZF fn arg 0)∧Below w.heap.size w ((w1.setCell ⟨b,0,none⟩ (.int .i64 1)).setCell ⟨b,1,none⟩ (.slice (some ⟨g,0,none⟩) 1 1))):=Qq
  ⟨(HS.out.yE ((zK.refl (F:=[b]) _).setCell _ (.inl (by simp))) (by simp;omega)).yE ((zK.refl (F:=[b]) _).setCell _ (.inl (by simp))) (by simp;omega),(HB.out.setCell (by simp[hbe]) _).setCell (by simp[hbe]) _⟩
 have HBE:=Qq hbe;have hgb:=HBE.out;generalize hsz:w.heap.size=sz at *
 have HSZ:=Qq hsz;clear hsz;subst hgb;clear HS HB hbe HBE;go_wp2;refine bodyPost_ret (v:=.agg #[.int .i64 1,.slice (some ⟨g,0,none⟩) 1 1]) (by simp[results,Tryz.results63,go_sem,x0,x1,hlt]) rfl ⟨g,rfl,by have:=HSZ.out;omega,?_,?_⟩
 ·exact HFin.out.1
 ·rw[HSZ.out];exact HFin.out.2
theorem FD:(Tryz.prog.info? 159).map (fun i=>(i.zero,i.size,i.bytes))=some (some (.agg #[.int .i64 0,.slice none 0 0]),2,32):=by kernel_rfl
theorem LH (sk:List (Nat×Nat))(gs:List Gt)(s:Nat×Nat)(G:Gt)(h:sk.length=gs.length):YB (sk++[s]) (gs++[G])=YB sk gs++[.int .i64 G.st,.slice (some ⟨s.1,0,none⟩) G.n s.2]:=by
 unfold YB;rw[List.zip_append h];simp
theorem NK (sk:List (Nat×Nat))(gs:List Gt)(s:Nat×Nat)(G:Gt)(h:sk.length=gs.length):YT (sk++[s]) (gs++[G])=YT sk gs++[Yv s.1 G.n s.2 G.z]:=by
 unfold YT;rw[List.zipWith_append h];rfl
theorem Wd.QP (W:Wd)(i:Nat)(s:Int)(h:(W.g i).st=s)(hi:i<W.gs.length):W.zU i s=W:=by
 unfold Wd.zU Wd.ye;have:({ W.g i with st:=s }:Gt)=W.g i:=by rw[←h]
 rw[this,yt _ _ _ (Wd.WW hi)]
theorem Ny {w0 w:World}{p:Nat}{W:Wd}{D:Wa}{T:List Value}{Y:List zv}{g' n:Nat}{a9:Option Addr}{c9:Nat}{z:List Int}(hf:D.fits W)(hn:n=W.gs.length)
  (h:Own w0 w ((((zj p W D T++Y)++[Yv g' 1 1 z]).set 2 (zd 2 a9 c9 (n+1) (YB D.sk W.gs++[.int .i64 1,.slice (some ⟨g',0,none⟩) 1 1]))).set 0 (ze p ((yH W D++T).set 2 (.slice a9 (n+1) c9))))) :
  Own w0 w (zj p { W with gs:=W.gs++[⟨1,1,z⟩] } { D with aa:=a9,ac:=c9,sk:=D.sk++[(g',1)] } T++Y)∧({ D with aa:=a9,ac:=c9,sk:=D.sk++[(g',1)] }:Wa).fits { W with gs:=W.gs++[⟨1,1,z⟩] }:=by
 refine⟨?_,⟨hf.f,by simp[hf.g],hf.c,hf.n,hf.l,hf.k⟩⟩
 have h1:Own w0 w ((((zj p W D T++Y).set 2 (zd 2 a9 c9 (n+1) (YB D.sk W.gs++[.int .i64 1,.slice (some ⟨g',0,none⟩) 1 1]))).set 0 (ze p ((yH W D++T).set 2 (.slice a9 (n+1) c9))))++[Yv g' 1 1 z]):=h
 have h2:=h1.perm (List.perm_append_singleton _ _)
 have h3:=((h2.pick 4 rfl).pick 1 rfl).Xx
 have h4:=h3.back (i:=3) (As:=(((zj p W D T++Y).set 2 (zd 2 a9 c9 (n+1) (YB D.sk W.gs++[.int .i64 1,.slice (some ⟨g',0,none⟩) 1 1]))).set 0 (ze p ((yH W D++T).set 2 (.slice a9 (n+1) c9))))) (by simp[zj])
 have e1:(W.gs++[(⟨1,1,z⟩:Gt)]).length=n+1:=by rw[List.length_append,←hn];rfl
 simp only[zj,yH,LH _ _ _ _ hf.g,NK _ _ _ _ hf.g,e1];exact h4
theorem Qe {w0 w:World}{p:Nat}{T:List Value}{d:Dq}{W:Wd}{R:List zv}(h:yL w0 w p T d W [] R)(hg:d.g<W.gs.length)(hm:1≤(W.g d.g).n∧(W.g d.g).n≤16)(ha:0≤d.x.2.2.1∧d.x.2.2.1<8)(hc:0≤d.x.2.2.2∧d.x.2.2.2<8)(hgs:W.gs.length≤100) :
  Calls Tryz.prog 132 #[.pointer (some ⟨d.q,0,none⟩)] w fun r w'=>ZQ w0 p T d R (ZH W [] d.g d.x) r w':=by
 obtain⟨D,ra,rc,hf,h⟩:=h;obtain⟨a,hA,ha8⟩:=yN (n:=8) ha
 obtain⟨c,hC,hc8⟩:=yN (n:=8) hc
 obtain⟨b,off,s,cap,F⟩:=ZB hf h hg hm;have q0:=F.top.d0;have q3:=(h.zi 10 rfl 3 _ rfl).1
 have q4:=(h.zi 10 rfl 4 _ rfl).1
 have p2:=(h.zi 0 rfl 2 _ rfl).1
 rw[hA] at q4;by_cases hl:100≤W.gs.length
 ·have e:ZH W [] d.g d.x=⟨W,[],some (-5)⟩:=by unfold ZH;rw[if_pos hl]
  rw[e];have hd:decide ((100:Int)≤(W.gs.length:Int))=true:=by simpa using (by omega:(100:Int)≤(W.gs.length:Int))
  have H:=Qq (show yL w0 w p T d W [] R from⟨D,ra,rc,hf,h⟩)
  clear F h hg;generalize W.gs.length=n at *;clear hf q3 q4 hl e;go_enter Tryz.func132,Tryz.ntmps132
  go_wp2;exact⟨rfl,rfl,H.out⟩
 ·have e:ZH W [] d.g d.x=⟨({ W with gs:=W.gs++[⟨1,1,ZF d.x.2.1 ((W.g d.g).rg (a:Int)) 0⟩] }:Wd).put d.g (c:Int) (W.gs.length:Int),[(W.gs.length:Int)],none⟩:=by unfold ZH;rw[if_neg hl,hA,hC];rfl
  rw[e];have hd:decide ((100:Int)≤(W.gs.length:Int))=false:=by simpa using (by omega:¬(100:Int)≤(W.gs.length:Int))
  generalize hv:(W.g d.g).rg (a:Int)=v
  have hreg:=(ZO F.stk hm.1 a ha8).1
  rw[hv] at hreg;have a0:(0:Int)≤(a:Int):=by omega
  have a8:(a:Int)<8:=by omega
  have SCB:∀(wx:World) (A2:zv) (Y:List zv),Own w0 wx ((zj p W D T++(ze d.q (yp p (d.g:Int) d.x d.th d.dr d.go ra 0 rc)::zd 1 ra rc 0 (zt [])::R)).set 2 A2++Y) →
    wx.cell? ⟨d.q,0,none⟩=some (.pointer (some ⟨p,0,none⟩))∧wx.cell? ⟨p,2,none⟩=some (.slice D.aa W.gs.length D.ac)∧wx.cell? ⟨d.q,3,none⟩=some (.int .i64 d.x.2.1)∧wx.cell? ⟨d.q,4,none⟩=some (.int .i64 (a:Int))∧wx.cell? ⟨s,((W.g d.g).n-1)*11+2+a,none⟩=some (.int .i64 v):=by
   intro wx A2 Y ho;obtain⟨Fx,⟨_,hk⟩,-⟩:=(ho.pick 3 rfl).XC (Yj F.sk (Wd.WW hg))
   have h4:=(ho.zi 10 rfl 4 _ rfl).1
   rw[hA] at h4;have hr:=(ZO hk hm.1 a ha8).1
   rw[hv] at hr;exact⟨(ho.zi 10 rfl 0 _ rfl).1,(ho.zi 0 rfl 2 _ rfl).1,(ho.zi 10 rfl 3 _ rfl).1,h4,hr⟩
  have Z2:=Xj (F.top.drewN 1)
  have H:=Qq h;have HF:=Qq hf;obtain⟨i0,hi0,hz0,hz1,hz2⟩:=info_parts FD;have Hi:=Qq hi0;clear hi0
  have Hz0:=Qq hz0;clear hz0
  have Hz1:=Qq hz1;clear hz1
  have Hz2:=Qq hz2;clear hz2
  have HL:=Qq (show W.gs.length≤100 from hgs)
  have HG:=Qq hg;have HM:=Qq hm;have HC:=Qq hC;obtain⟨n,hn⟩:∃n,n=W.gs.length:=⟨_,rfl⟩
  rw[←hn] at SCB hd p2 HL;obtain⟨m,hmm⟩:∃m,m=(W.g d.g).n-1:=⟨_,rfl⟩
  rw[←hmm] at SCB hreg Z2;have HT:=Qq Z2;have HN:=Qq hn;have h0:=H.out;rw[←hn];clear hl e F hf hA hv ha hm Z2 hmm h hn hg hgs hc hC;go_enter Tryz.func132,Tryz.ntmps132
  go_upto_region 3 with fail
  have o1:=h0.step (zg w)
  refine xg (fun wx=>wx.cell? ⟨d.q,0,none⟩=some (.pointer (some ⟨p,0,none⟩))∧wx.cell? ⟨p,2,none⟩=some (.slice D.aa n D.ac)∧wx.cell? ⟨d.q,3,none⟩=some (.int .i64 d.x.2.1)∧wx.cell? ⟨d.q,4,none⟩=some (.int .i64 (a:Int))∧wx.cell? ⟨s,m*11+2+a,none⟩=some (.int .i64 v)) 32 33 (Array.replicate 33 false) (by kernel_rfl) (by kernel_rfl) ?_
  have SC0:=Qq (fun wx (ho:Own w0 wx (zj p W D T++(ze d.q (yp p (d.g:Int) d.x d.th d.dr d.go ra 0 rc)::zd 1 ra rc 0 (zt [])::R)))=>SCB wx (zd 2 D.aa D.ac W.gs.length (YB D.sk W.gs)) [] (by rw[List.append_nil];exact ho))
  refine yw 0 17 _ (Qj 33 131071) 16 (by kernel_rfl) za (SC0.out _ o1) (by kernel_rfl) ?_
  simp only[QX,QV,QJ];(repeat((first|refine Qx (h:=?_)|refine Qv (h:=?_));simp only[Act.put,QW,QY,QZ]));refine zb ?_;refine yw 18 5 _ (Qj 33 8257535) 11 (by kernel_rfl) za (SC0.out _ o1) (by kernel_rfl) ?_
  simp only[QX,QV,QQ,QJ];(repeat((first|refine Qx (h:=?_)|refine Qv (h:=?_));simp only[Act.put,QW,QY,QZ]));refine zb ?_;refine yj 17 _ (Qj 33 8388607) 10 (by kernel_rfl) (fun K hK=>?_)
  have HKK:=Qq hK;clear hK;simp only[QQ,QJ];refine zc (by rfl) ?_;go_simp;refine HT.out.mono ?_
  rintro r w1 ⟨rfl,k1,hw1⟩;have o2:=h0.q2 hw1;clear hw1;refine HKK.out _ _ (SC0.out _ o2) ?_
  clear HKK K;refine yw 23 4 _ (Qj 33 134217727) 6 (by kernel_rfl) za (SC0.out _ o2) (by kernel_rfl) ?_
  simp only[QX,QV,QQ,QJ];(repeat((first|refine Qx (h:=?_)|refine Qv (h:=?_));simp only[Act.put,QW,QY,QZ]));refine zb ?_;refine yj 27 _ (Qj 33 268435455) 5 (by kernel_rfl) (fun K hK=>?_)
  have HKK:=Qq hK;clear hK;simp only[QQ,QJ];refine zc (by rfl) ?_;go_simp;refine(V4 _ _ _).mono ?_
  rintro r w2 ⟨g',rfl,hg',hs',hb'⟩;have o3:=(Wc o2 hb' hs' hg').Dk
  refine HKK.out _ _ (SCB _ (zd 2 D.aa D.ac W.gs.length (YB D.sk W.gs)) _ o3) ?_
  clear HKK K;refine yj 28 _ (Qj 33 536870911) 4 (by kernel_rfl) (fun K hK=>?_)
  have HKK:=Qq hK;clear hK;simp only[QQ,QJ];refine zc (by rfl) ?_;go_simp;have o4:=o3.step (below_alloc1 _ (.cells #[.int .i64 1,.slice (some ⟨g',0,none⟩) 1 1] 159))
  refine HKK.out _ _ (SCB _ (zd 2 D.aa D.ac W.gs.length (YB D.sk W.gs)) _ o4) ?_
  clear HKK K;refine yj 29 _ (Qj 33 1073741823) 3 (by kernel_rfl) (fun K hK=>?_)
  have HKK:=Qq hK;clear hK;simp only[QQ,QJ];refine zc (by rfl) ?_;have hrow:=o4.xl 2 rfl;rw[←HN.out] at hrow;refine yx (n:=n) (m:=1) (cs:=YB D.sk W.gs) (ds:=[.int .i64 1,.slice (some ⟨g',0,none⟩) 1 1]) _ _ 108 (by rfl) 159 i0 _ Tryz.underlying108 Hi.out Hz0.out Hz1.out Hz2.out rfl (by omega) (by omega) (by rfl) (by rfl) hrow (zr.new _ [.int .i64 1,.slice (some ⟨g',0,none⟩) 1 1] _ rfl) rfl (by simp[Value.oneCell']) (by have:=HL.out;omega) ?_
  intro a9 c9 w9 k9 ch9 f9;have o5:=(Own.yJ (o4.pick 2 rfl) k9 ch9 f9).back (i:=2) (As:=zj p W D T++(ze d.q (yp p (d.g:Int) d.x d.th d.dr d.go ra 0 rc)::zd 1 ra rc 0 (zt [])::R)++[Yv g' 1 1 (ZF d.x.2.1 v 0)]) (by simp[zj])
  refine HKK.out _ _ (SCB _ _ _ o5) ?_
  clear HKK K;refine xF 30 1 _ (Qj 33 2147483647) 2 (by kernel_rfl) za (by kernel_rfl) ?_
  simp only[QX,QV,QQ,QJ];(repeat((first|refine Qx (h:=?_)|refine Qv (h:=?_));simp only[Act.put,QW,QY,QZ]));refine zb ?_;refine yw 31 1 _ (Qj 33 4294967295) 1 (by kernel_rfl) za (SCB _ _ _ o5) (by kernel_rfl) ?_
  simp only[QX,QV,QQ,QJ];(repeat((first|refine Qx (h:=?_)|refine Qv (h:=?_));simp only[Act.put,QW,QY,QZ]));refine zb ?_;obtain⟨z8,f8⟩:=o5.zi 0 rfl 2 _ rfl;obtain⟨o6,hf6⟩:=Ny HF.out HN.out (o5.setAt 0 rfl 2 (.slice a9 (n+1) c9))
  have H6:=Qq o6;have HF6:=Qq hf6;clear o1 o2 o3 o4 o5 o6 hf6 k9 ch9 f9 hrow SCB SC0 HT H HF hs' hb' hg' h0 hreg;refine xE 32 _ (Qj 33 8589934591) 0 (by kernel_rfl) (fun K hK=>?_)
  have HKK:=Qq hK;clear hK;simp only[QQ,QJ];refine zc (by rfl) ?_;go_simp;refine HKK.out _ _ ?_
  clear HKK K;refine xG (by kernel_rfl) (NoPanic.normal ?_) _
  generalize w9.setCell ⟨p,2,none⟩ (.slice a9 (n+1) c9)=w5 at *
  generalize hW5:({ W with gs:=W.gs++[⟨1,1,ZF d.x.2.1 v 0⟩] }:Wd)=W5 at *
  have hg5:d.g<W5.gs.length:=by rw[←hW5];simp;have:=HG.out;omega
  have hl5:W5.gs.length=n+1:=by rw[←hW5,HN.out];simp
  have hm5:1≤(W5.g d.g).n∧(W5.g d.g).n≤16:=by
   have:W5.g d.g=W.g d.g:=by rw[←hW5];unfold Wd.g;rw[List.getD_eq_getElem?_getD,List.getD_eq_getElem?_getD,List.getElem?_append_left HG.out]
   rw[this];exact HM.out
  have hst5:(W5.g n).st=1∧n<W5.gs.length:=by
   rw[←hW5,HN.out];refine⟨?_,by simp⟩
   unfold Wd.g;rw[List.getD_eq_getElem?_getD,List.getElem?_append_right (Nat.le_refl _)]
   simp
  obtain⟨b,off,s,cap,F⟩:=ZB HF6.out H6.out hg5 hm5;have q0:=F.top.d0;have q5:=(H6.out.zi 10 rfl 5 _ rfl).1
  rw[HC.out] at q5;obtain⟨m,hmm⟩:∃m,m=(W5.g d.g).n-1:=⟨_,rfl⟩
  have hreg:=ZO F.stk hm5.1 c hc8;have HT:=Qq (F.Z2 hmm 1)
  have HP:Hid (∀w1 k,w1=(w5.drewN 1).drewN k→yL w0 (w1.setCell ⟨s,m*11+2+c,none⟩ (.int .i64 (n:Int))) p T d (W5.put d.g (c:Int) (n:Int)) [] R):=Qq (fun w1 k e=>by
   rw[hmm];exact⟨_,ra,rc,HF6.out.ye _ _,VI (H6.out.q2 e) hg5 F.sk c (n:Int)⟩)
  rw[←hmm] at hreg;have c0:(0:Int)≤(c:Int):=by omega
  have c8:(c:Int)<8:=by omega
  obtain⟨r0,r1⟩:=hreg;have hgp:n<(W5.put d.g (c:Int) (n:Int)).gs.length:=by unfold Wd.put Wd.ye;rw[List.length_set];exact hst5.2
  have hgl:(W5.put d.g (c:Int) (n:Int)).gs.length≤1000:=by unfold Wd.put Wd.ye;rw[List.length_set,hl5];have:=HL.out;omega
  have hsame:(W5.put d.g (c:Int) (n:Int)).zU n 1=W5.put d.g (c:Int) (n:Int):=by
   refine Wd.QP _ _ _ ?_ hgp
   unfold Wd.put;rw[Wd.Yn _ _ _ _ hg5];by_cases e:d.g=n
   ·rw[if_pos e];unfold Gt.put;simp only;rw[e];exact hst5.1
   ·rw[if_neg e];exact hst5.1
  have HWk:Hid (∀w',yL w0 w' p T d (W5.put d.g (c:Int) (n:Int)) [] R→Calls Tryz.prog 157 #[.pointer (some ⟨d.q,0,none⟩),.int .i64 (n:Int)] w' fun r w''=>r=.returned (.tuple #[])∧yL w0 w'' p T d (W5.put d.g (c:Int) (n:Int)) [(n:Int)] R) :=
   Qq (fun w' h'=>(WO (rd:=[]) h' n hgp hgl (by simp)).mono (fun r w'' hh=>⟨hh.1,by have:=hh.2;rw[hsame] at this;exact this⟩))
  generalize hW6:W5.put d.g (c:Int) (n:Int)=W6 at *
  have HW5:=Qq hW5;have HW6:=Qq hW6;clear F hmm H6 HF6 HG HM HC HN hst5 hm5 hl5 hg5 hW5 hgp hgl hsame hW6;go_upto_region 4 with fail
  refine zk (fun wx=>∃nq,wx=World.drewN (w5) nq) 11 1 (Array.replicate 12 false) (Qj 12 2047) (by kernel_rfl) (by kernel_rfl) ?_
  refine zf 0 1 _ (Qj 12 1) 10 (by kernel_rfl) za (zE w5) (by kernel_rfl) ?_
  simp only[QX,QV,QJ];(repeat((first|refine Qx (h:=?_)|refine Qw (h:=?_));simp only[Act.put,QW,QY,QZ]));refine zb ?_;refine zf 2 6 _ (Qj 12 253) 4 (by kernel_rfl) za (zE w5) (by kernel_rfl) ?_
  simp only[QX,QV,QQ,QJ];(repeat((first|refine Qx (h:=?_)|refine Qw (h:=?_));simp only[Act.put,QW,QY,QZ]));refine zb ?_;refine zA 1 _ (Qj 12 255) 3 (by kernel_rfl) (fun K hK=>?_)
  have HKK:=Qq hK;clear hK;simp only[QQ,QJ];refine zc (by rfl) ?_;go_simp;refine HT.out.mono ?_
  rintro r w1 ⟨rfl,k1,hw1⟩;refine HKK.out _ _ (VQ hw1) ?_
  clear HKK K;refine zf 8 3 _ (Qj 12 2047) 0 (by kernel_rfl) za (VQ hw1) (by kernel_rfl) ?_
  simp only[QX,QV,QQ,QJ];(repeat((first|refine Qx (h:=?_)|refine Qw (h:=?_));simp only[Act.put,QW,QY,QZ]));refine zb ?_;refine zo ?_;refine zS 11 (by kernel_rfl) ?_
  simp only[QQ,QJ];have H7:=Qq (HP.out _ _ hw1)
  have s0:w1.cell? ⟨s,m*11+2+c,none⟩=some (.int .i64 ((W5.g d.g).rg (c:Int))):=by rw[hw1];exact r0
  have s1:w1.frozen? ⟨s,m*11+2+c,none⟩=false:=by rw[hw1];exact r1
  clear hw1 HP HT r0 r1;go_wp2_with fail;refine NoPanic.normal ?_
  go_wp2_with fail;refine(HWk.out _ H7.out).mono ?_
  rintro r w7 ⟨rfl,h7⟩;have H8:=Qq h7;clear h7 H7 HWk;go_wp2;go_end0
  exact⟨rfl,by simp only[HW5.out,HW6.out];exact H8.out⟩
theorem Tc {w0 w:World}{p:Nat}{T:List Value}{d:Dq}{W:Wd}{R:List zv}(h:yL w0 w p T d W [] R)(hg:d.g<W.gs.length)(hm:1≤(W.g d.g).n∧(W.g d.g).n≤16)(ok:To W [] d.g d.x 0)(okw:WS W d.x) :
  Calls Tryz.prog 134 #[.pointer (some ⟨d.q,0,none⟩)] w fun r w'=>ZQ w0 p T d R (Yk W [] d.g d.x) r w':=by
 have HT:=Qq (RE h hg hm 0 ok (by simp))
 have HW:=Qq (fun w (h:yL w0 w p T d W [] R)=>TF h hg hm okw)
 unfold Yk;generalize YR W [] d.g d.x 0=o at *
 clear h ok okw hg hm;go_enter Tryz.func134,Tryz.ntmps134
 go_wp2_with fail;refine HT.out.mono ?_
 intro r w4 hp;unfold V0 at hp;cases o with
 | none =>
  obtain⟨rfl,h2⟩:=hp;have HC:=Qq (HW.out _ h2)
  clear h2 HT HW;go_wp2_with fail;refine HC.out.mono ?_
  rintro r w5 ⟨rfl,h5⟩;have H5:=Qq h5;clear h5 HC;go_wp2;go_end0
  exact⟨rfl,H5.out⟩
 | some m =>
  obtain⟨Wm,rm,tm⟩:=m;cases tm with
  | none =>
   obtain⟨rfl,h2⟩:=hp;have H2:=Qq h2;clear h2 HT HW;go_wp2;go_end0
   exact⟨rfl,H2.out⟩
  | some k =>
   obtain⟨rfl,h2⟩:=hp;have H2:=Qq h2;clear h2 HT HW;unfold WA;go_wp2;exact⟨rfl,rfl,H2.out⟩
structure V8 (W:Wd) (g:Nat) (x:yq) (dr:Int) (go:Bool):Prop where
 ix:QN W x
 k:W.ks.length≤1000
 t:go=true→To W [] g x dr
 w:go=false→WS W x
 r:0≤x.2.2.2∧x.2.2.2<8
theorem SF {w0 w:World}{p:Nat}{T:List Value}{d:Dq}{W:Wd}{R:List zv}(h:yL w0 w p T d W [] R)(hg:d.g<W.gs.length)(hm:1≤(W.g d.g).n∧(W.g d.g).n≤16)(ok:V8 W d.g d.x d.dr d.go) :
  Calls Tryz.prog 136 #[.pointer (some ⟨d.q,0,none⟩)] w fun r w'=>ZQ w0 p T d R (Zu W [] d.g d.x d.dr d.go) r w':=by
 have H:=Qq h;obtain⟨hx,hk,ht,hw,hr⟩:=ok;obtain⟨D,ra,rc,hf,h⟩:=h;have q0:=(h.zi 10 rfl 0 _ rfl).1
 have q7:=(h.zi 10 rfl 7 _ rfl).1
 have q8:=(h.zi 10 rfl 8 _ rfl).1
 unfold Zu;cases hgo:d.go with
 | true =>
  have HT:=Qq (RE H.out hg hm d.dr (ht hgo) (by simp))
  rw[hgo] at q8;rw[if_pos rfl];generalize YR W [] d.g d.x d.dr=o at *
  clear h ht hw hg hm hgo hf hx hk hr H;go_enter Tryz.func136,Tryz.ntmps136
  go_wp2_with fail;refine HT.out.mono ?_
  intro r w4 hp;unfold V0 at hp;cases o with
  | none =>
   obtain⟨rfl,h2⟩:=hp;have H2:=Qq h2;clear h2 HT;go_wp2;exact bodyPost_ret (v:=.tuple #[]) (by simp[results,Tryz.results136]) rfl ⟨rfl,H2.out⟩
  | some m =>
   obtain⟨Wm,rm,tm⟩:=m;cases tm with
   | none =>
    obtain⟨rfl,h2⟩:=hp;have H2:=Qq h2;clear h2 HT;go_wp2;exact bodyPost_ret (v:=.tuple #[]) (by simp[results,Tryz.results136]) rfl ⟨rfl,H2.out⟩
   | some k =>
    obtain⟨rfl,h2⟩:=hp;have H2:=Qq h2;clear h2 HT;unfold WA;go_wp2;exact⟨rfl,rfl,H2.out⟩
 | false =>
  rw[hgo] at q8;rw[if_neg (by simp)]
  generalize hrr:(if UL 0 (W.yK d.x)<0 then(Dd.mk (Wr W d.g d.x) [] none) else Dd.mk (W.put d.g d.x.2.2.2 (UL 0 (W.yK d.x))) [] none)=rr
  have HRR:=Qq hrr;clear hrr;have HW:=Qq (fun w (h:yL w0 w p T d W [] R)=>TF h hg hm (hw hgo))
  have hc:=(h.zi 10 rfl)
  have q2:=(hc 2 _ rfl).1
  have q3:=(hc 3 _ rfl).1
  have q4:=(hc 4 _ rfl).1
  have q5:=(hc 5 _ rfl).1
  have HCa:=Qq (fun j=>ZU (h.step (zx w j)) hf d.x hx hk)
  obtain⟨c,hC,hc8⟩:=yN (n:=8) hr
  have HD:Hid (∀(w':World) Z,Own w0 w' (Z::(zj p W D T++(ze d.q (yp p (d.g:Int) d.x d.th d.dr d.go ra 0 rc)::zd 1 ra rc 0 (zt [])::R)))→yL w0 w' p T d W [] R):=Qq (fun w' Z h'=>⟨D,ra,rc,hf,h'.drop⟩)
  obtain⟨m,hmm⟩:∃m,m=(W.g d.g).n-1:=⟨_,rfl⟩
  obtain⟨s,cap,hs⟩:=hf.Yh hg;have HPut:Hid (∀(w':World),Own w0 w' (zj p W D T++(ze d.q (yp p (d.g:Int) d.x d.th d.dr d.go ra 0 rc)::zd 1 ra rc 0 (zt [])::R))→∀v:Int,
    w'.cell? ⟨d.q,0,none⟩=some (.pointer (some ⟨p,0,none⟩))∧w'.cell? ⟨d.q,5,none⟩=some (.int .i64 (c:Int)) ∧
    (∀j,Calls Tryz.prog 118 #[.pointer (some ⟨d.q,0,none⟩)] (w'.drewN j) fun r w''=>r=.returned (.pointer (some ⟨s,m*11,none⟩))∧∃k,w''=(w'.drewN j).drewN k) ∧
    (∃v0,w'.cell? ⟨s,m*11+2+c,none⟩=some v0)∧w'.frozen? ⟨s,m*11+2+c,none⟩=false∧∀w'' j,w''=w'.drewN j→yL w0 (w''.setCell ⟨s,m*11+2+c,none⟩ (.int .i64 v)) p T d (W.put d.g d.x.2.2.2 v) [] R):=Qq (fun w' h' v=>by
   have q5:=(h'.zi 10 rfl 5 _ rfl).1
   rw[hC] at q5;obtain⟨r0,r1⟩:=ZO (YY h' hg hs).1 hm.1 c hc8
   refine⟨(h'.zi 10 rfl 0 _ rfl).1,q5,fun j=>?_,⟨_,by rw[hmm];exact r0⟩,by rw[hmm];exact r1,fun w'' j e=>?_⟩
   ·rw[hmm];exact VG (h'.step (zx w' j)) ((h'.step (zx w' j)).zi 10 rfl) hg hs hm
   ·rw[hmm,hC]
    exact⟨D,ra,rc,hf.ye _ _,VI (h'.q1 e) hg hs c v⟩)
  clear h ht hw hg hm hgo hf hx hk hr hc hmm hs hC;go_enter Tryz.func136,Tryz.ntmps136
  obtain⟨e1,he1⟩:∃e1,e1=(if UL 0 (W.yK d.x)<0 then 0 else UL 0 (W.yK d.x)):=⟨_,rfl⟩
  obtain⟨b1,hb1⟩:∃b1,b1=(!decide (UL 0 (W.yK d.x)<0)):=⟨_,rfl⟩
  have HE1:=Qq he1;have HB1:=Qq hb1;clear he1 hb1;go_upto_region 2 with fail
  refine zk (fun wx=>∃nq,wx=World.drewN (w) nq) 8 7 (Array.replicate 15 false) (Qj 15 255) (by kernel_rfl) (by kernel_rfl) ?_
  refine zf 0 8 _ (Qj 15 255) 0 (by kernel_rfl) za (zE w) (by kernel_rfl) ?_
  simp only[QX,QV,QJ];(repeat((first|refine Qx (h:=?_)|refine Qw (h:=?_));simp only[Act.put,QW,QY,QZ]));refine zb ?_;refine zo ?_;refine yA (fun _=>True) 7 0 (Qj 15 32767) ?_
  refine zA 8 _ (Qj 15 511) 6 (by kernel_rfl) (fun K hK=>?_)
  have HKK:=Qq hK;clear hK;simp only[QQ,QJ];refine zc (by rfl) ?_;go_simp;refine(HCa.out 1).mono ?_
  rintro r w3 ⟨a,ca,Z,rfl,hP,hl,o3,-⟩
  have hcell:=hP.cells o3 2 0 rfl rfl;refine HKK.out _ _ (trivial) ?_
  clear HKK K;refine zA 9 _ (Qj 15 1023) 5 (by kernel_rfl) (fun K hK=>?_)
  have HKK:=Qq hK;clear hK;simp only[QQ,QJ];refine zc (by rfl) ?_;go_simp;have hels:=Qq (MS w3 a (W.yK d.x).length ca (W.yK d.x) hcell rfl (by omega))
  clear hcell;rw[←HE1.out,←HB1.out] at hels;refine hels.out.mono ?_
  rintro r w4 ⟨rfl,b4⟩;have o4:=(o3.drop).step b4
  refine HKK.out _ _ (trivial) ?_
  clear HKK K;refine zf 10 5 _ (Qj 15 32767) 0 (by kernel_rfl) za (trivial) (by kernel_rfl) ?_
  simp only[QX,QV,QQ,QJ];(repeat((first|refine Qx (h:=?_)|refine Qv (h:=?_));simp only[Act.put,QW,QY,QZ]));refine zb ?_;refine zo ?_;refine zD (by kernel_rfl) (NoPanic.normal ?_)
  clear hP hl o3 b4 HCa hels;have HD4:=Qq (show yL w0 w4 p T d W [] R from HD.out w4 Er (o4.add (Below.refl _ _) (F:=[]) rfl (fun x hx=>by simp at hx)))
  by_cases hel:UL 0 (W.yK d.x)<0
  ·have hb:b1=false:=by rw[HB1.out];simp[hel]
   subst hb;have HEL:=Qq hel;have HC:=Qq (HW.out w4 HD4.out)
   clear hel HW HPut o4 HD;go_wp2_with fail;refine HC.out.mono ?_
   rintro r w5 ⟨rfl,h5⟩;have H5:=Qq h5;clear h5 HC;go_wp2;go_end0
   have er:rr=Dd.mk (Wr W d.g d.x) [] none:=by rw[←HRR.out,if_pos HEL.out]
   rw[er];exact⟨rfl,H5.out⟩
  ·have hb:b1=true:=by rw[HB1.out];simp[hel]
   subst hb;have HEL:=Qq hel;obtain⟨p0,p5,ptop,⟨v0,r0⟩,r1,pfin⟩:=HPut.out w4 o4 (UL 0 (W.yK d.x))
   have HTp:=Qq ptop;have HFn:=Qq pfin;have e2:UL 0 (W.yK d.x)=e1:=by rw[HE1.out,if_neg hel]
   rw[e2] at HFn;have E2:=Qq e2;have c0:(0:Int)≤(c:Int):=by omega
   have c8:(c:Int)<8:=by omega
   clear hel HW HPut o4 HD ptop pfin e2;go_upto_region 4 with fail
   refine zk (fun wx=>∃nq,wx=World.drewN (w4) nq) 11 1 (Array.replicate 12 false) (Qj 12 2047) (by kernel_rfl) (by kernel_rfl) ?_
   refine zf 0 1 _ (Qj 12 1) 10 (by kernel_rfl) za (zE w4) (by kernel_rfl) ?_
   simp only[QX,QV,QJ];(repeat((first|refine Qx (h:=?_)|refine Qw (h:=?_));simp only[Act.put,QW,QY,QZ]));refine zb ?_;refine zf 2 6 _ (Qj 12 253) 4 (by kernel_rfl) za (zE w4) (by kernel_rfl) ?_
   simp only[QX,QV,QQ,QJ];(repeat((first|refine Qx (h:=?_)|refine Qw (h:=?_));simp only[Act.put,QW,QY,QZ]));refine zb ?_;refine zA 1 _ (Qj 12 255) 3 (by kernel_rfl) (fun K hK=>?_)
   have HKK:=Qq hK;clear hK;simp only[QQ,QJ];refine zc (by rfl) ?_;go_simp;refine(HTp.out 1).mono ?_
   rintro r w5 ⟨rfl,k5,hw5⟩;refine HKK.out _ _ (VQ hw5) ?_
   clear HKK K;refine zf 8 3 _ (Qj 12 2047) 0 (by kernel_rfl) za (VQ hw5) (by kernel_rfl) ?_
   simp only[QX,QV,QQ,QJ];(repeat((first|refine Qx (h:=?_)|refine Qw (h:=?_));simp only[Act.put,QW,QY,QZ]));refine zb ?_;refine zo ?_;refine zS 11 (by kernel_rfl) ?_
   simp only[QQ,QJ];obtain⟨j5,hw6⟩:=VQ hw5;have H6:=Qq (HFn.out w5 j5 hw6)
   have s0:w5.cell? ⟨s,m*11+2+c,none⟩=some v0:=by rw[hw6];exact r0
   have s1:w5.frozen? ⟨s,m*11+2+c,none⟩=false:=by rw[hw6];exact r1
   clear hw5 hw6 HFn HTp r0 r1;go_wp2_with fail;refine NoPanic.normal ?_
   go_wp2;refine bodyPost_ret (v:=.tuple #[]) (by simp[results,Tryz.results136]) rfl ?_
   have er:rr=Dd.mk (W.put d.g d.x.2.2.2 e1) [] none:=by rw[←HRR.out,if_neg (by have:=HEL.out;omega),E2.out]
   rw[er];exact⟨rfl,H6.out⟩
def IQ (p:Nat)(W:Wd)(D:Wa)(T:List Value):Hp :=
 ⟨p,.slice D.fa W.fs.length D.fc,.slice D.ca W.ks.length D.cc,.slice D.aa W.gs.length D.ac,.slice D.ha W.Cs.length D.hc,.slice D.la W.Ls.length D.lc,.int .u64 (W.clock:Int)::.slice D.oa W.out.length D.oc::.int .i64 W.en::.int .i64 W.why::T⟩
theorem Gg {w0 w:World}{p:Nat}{T:List Value}{W:Wd}{D:Wa}{Y:List zv}(h:Own w0 w (zj p W D T++Y))(at_ id:Int)(hl:W.hp.length≤100000)(hn:W.nx≤100000) :
  Calls Tryz.prog 163 #[.pointer (some ⟨p,5,none⟩),.int .u64 at_,.int .i64 id] w fun r w'=>∃sv',r=.returned (.int .u64 (W.nx:Int))∧Own w0 w' (zj p { W with hp:=ZR W.hp ⟨at_,W.nx,id⟩,nx:=W.nx+1 } { D with sv:=sv' } T++Y):=by
 have h1:=(h.pick 8 rfl).pick 1 rfl
 have hc:=Own.call (As:=[ze p (yH W D++T),xv D.sv W.hp]) (R:=[Xq D.fa D.fr W.fs D.ca W.ks,zd 2 D.aa D.ac W.gs.length (YB D.sk W.gs),yD (YT D.sk W.gs),zd 1 D.ha D.hc W.Cs.length (xT (List.zip D.ps W.Ns)),yD (YD (List.zip D.ps W.Ns) W.Cs),
  zd 1 D.la D.lc W.Ls.length (W8 D.lp),yD (SO D.lp W.Ls),zd 1 D.oa D.oc W.out.length (zt W.out)]++Y) h1 (P:=Tryz.prog) (f:=163) (args:=#[.pointer (some ⟨p,5,none⟩),.int .u64 at_,.int .i64 id])
  (post:=fun r l=>∃sv',r=.returned (.int .u64 (W.nx:Int))∧l=[ze p (yH { W with hp:=ZR W.hp ⟨at_,W.nx,id⟩,nx:=W.nx+1 } { D with sv:=sv' }++T),xv sv' (ZR W.hp ⟨at_,W.nx,id⟩)]) (fun F hF=>by
   obtain⟨F1,F2,rfl,⟨rfl,hpl,hb⟩,hne,F3,F4,rfl,⟨rfl,hi⟩,-,rfl⟩:=hF;have hH:yl w (IQ p W D T) D.sv W.hp W.nx:=⟨hb,hi,fun x hx e=>hne p (by simp) (by rw[e] at hx;simpa [IQ] using hx)⟩
   refine(NB w (IQ p W D T) D.sv W.hp W.nx at_ id hH hl hn).mono (fun r w' hh=>?_)
   obtain⟨v',h1,⟨h2,h3,h4⟩,h5,h6⟩:=hh;refine⟨_,⟨v',h1,rfl⟩,[p]++(v'.ownBlock.toList++[]),⟨[p],v'.ownBlock.toList++[],rfl,⟨rfl,Nat.lt_of_lt_of_le hpl h5.size,h2⟩,fun x hx hx2=>?_,v'.ownBlock.toList,[],rfl,⟨rfl,h3⟩,fun x hx=>by simp,rfl⟩,?_,fun x hx=>?_⟩
   ·simp only[List.mem_cons,List.not_mem_nil,or_false] at hx
    subst hx;rw[List.append_nil] at hx2;exact h4 x hx2 rfl
   ·exact h5.mono (fun x hx=>by
     simp only[xA,List.mem_cons] at hx;rcases hx with rfl|hx
     ·simp[IQ]
     ·simp[List.mem_append,hx])
   ·have hx':x∈xA (IQ p W D T) v':=by
     simp only[List.mem_append,List.mem_cons,List.not_mem_nil,or_false] at hx;simp only[xA,List.mem_cons];exact hx
    rcases h6 x hx' with h7|h7
    ·left
     simp only[xA,List.mem_cons] at h7;simp only[List.mem_append,List.mem_cons,List.not_mem_nil,or_false];exact h7
    ·exact .inr h7)
 refine hc.mono (fun r w' hh=>?_)
 obtain⟨As',⟨sv',h1,rfl⟩,h2⟩:=hh;exact⟨sv',h1,(h2.pick 1 rfl).back (As:=zj p { W with hp:=ZR W.hp ⟨at_,W.nx,id⟩,nx:=W.nx+1 } { D with sv:=sv' } T++Y) (i:=8) (by simp[zj])⟩
theorem Fp {w0 w:World}{p:Nat}{T:List Value}{W:Wd}{D:Wa}{Y:List zv}(h:Own w0 w (zj p W D T++Y))(now:Int)(hl:W.hp.length≤100000) :
  Calls Tryz.prog 91 #[.pointer (some ⟨p,5,none⟩),.int .u64 now] w fun r w'=>∃v5 sv',r=.returned v5∧Own w0 w' (xv v5 (yZ W.hp now).1::(zj p { W with hp:=(yZ W.hp now).2 } { D with sv:=sv' } T++Y)):=by
 have h1:=(h.pick 8 rfl).pick 1 rfl
 have hc:=Own.call (As:=[ze p (yH W D++T),xv D.sv W.hp]) (R:=[Xq D.fa D.fr W.fs D.ca W.ks,zd 2 D.aa D.ac W.gs.length (YB D.sk W.gs),yD (YT D.sk W.gs),zd 1 D.ha D.hc W.Cs.length (xT (List.zip D.ps W.Ns)),yD (YD (List.zip D.ps W.Ns) W.Cs),
  zd 1 D.la D.lc W.Ls.length (W8 D.lp),yD (SO D.lp W.Ls),zd 1 D.oa D.oc W.out.length (zt W.out)]++Y) h1 (P:=Tryz.prog) (f:=91) (args:=#[.pointer (some ⟨p,5,none⟩),.int .u64 now])
  (post:=fun r l=>∃v5 sv',r=.returned v5∧l=[xv v5 (yZ W.hp now).1,ze p (yH { W with hp:=(yZ W.hp now).2 } { D with sv:=sv' }++T),xv sv' (yZ W.hp now).2]) (fun F hF=>by
   have hFlt:=hF.lt;obtain⟨F1,F2,rfl,⟨rfl,hpl,hb⟩,hne,F3,F4,rfl,⟨rfl,hi⟩,-,rfl⟩:=hF;have hH:yl w (IQ p W D T) D.sv W.hp W.nx:=⟨hb,hi,fun x hx e=>hne p (by simp) (by rw[e] at hx;simpa [IQ] using hx)⟩
   refine(Ll w (IQ p W D T) D.sv W.hp W.nx now hH hl).mono (fun r w' hh=>?_)
   obtain⟨v5,v',h1,h2,h3,⟨h4,h5,h6⟩,h7,h8⟩:=hh;refine⟨_,⟨v5,v',h1,rfl⟩,v5.ownBlock.toList++([p]++(v'.ownBlock.toList++[])),⟨v5.ownBlock.toList,_,rfl,⟨rfl,h2⟩,fun x hx hx2=>?_,[p],v'.ownBlock.toList++[],rfl,⟨rfl,Nat.lt_of_lt_of_le hpl h8.size,h4⟩,fun x hx hx2=>?_,v'.ownBlock.toList,[],rfl,⟨rfl,h5⟩,fun x hx=>by simp,rfl⟩,?_,fun x hx=>?_⟩
   ·have:=h3 x hx
    have:=hFlt x (by rw[←h7];exact hx2)
    omega
   ·simp only[List.mem_cons,List.not_mem_nil,or_false] at hx
    subst hx;rw[List.append_nil] at hx2;exact h6 x hx2 rfl
   ·exact h8.mono (fun x hx=>by
     simp only[xA,List.mem_cons] at hx;rcases hx with rfl|hx
     ·simp[IQ]
     ·simp[List.mem_append,hx])
   ·rcases List.mem_append.1 hx with h9|h9
    ·exact .inr (h3 x h9)
    ·left;rw[←h7];exact h9)
 refine hc.mono (fun r w' hh=>?_)
 obtain⟨As',⟨v5,sv',h1,rfl⟩,h2⟩:=hh;refine⟨v5,sv',h1,?_⟩
 exact((h2.pick 2 rfl).back (As:=xv v5 (yZ W.hp now).1::(zj p { W with hp:=(yZ W.hp now).2 } { D with sv:=sv' } T++Y)) (i:=9) (by simp[zj]))
theorem Wa.fits.sv {D:Wa}{W:Wd}(h:D.fits W)(sv:Value)(hp:List It)(nx:Nat):({ D with sv:=sv }:Wa).fits { W with hp:=hp,nx:=nx }:=⟨h.f,h.g,h.c,h.n,h.l,h.k⟩
theorem PB {w0 w:World}{p:Nat}{T:List Value}{d:Dq}{W:Wd}{R:List zv}(h:yL w0 w p T d W [] R)(hg:d.g<W.gs.length)(hm:1≤(W.g d.g).n∧(W.g d.g).n≤16)(ha:0≤d.x.2.1∧d.x.2.1<8)(hl:W.hp.length≤100000)(hn:W.nx≤100000)(hc:W.clock≤100000) :
  Calls Tryz.prog 137 #[.pointer (some ⟨d.q,0,none⟩)] w fun r w'=>ZQ w0 p T d R (Z7 W [] d.g d.x) r w':=by
 obtain⟨D,ra,rc,hf,h⟩:=h;obtain⟨a,hA,ha8⟩:=yN (n:=8) ha
 obtain⟨b,off,s,cap,F⟩:=ZB hf h hg hm;have q0:=F.top.d0;have q1:=F.top.d1;have q3:=(h.zi 10 rfl 3 _ rfl).1
 rw[hA] at q3;obtain⟨m,hmm⟩:∃m,m=(W.g d.g).n-1:=⟨_,rfl⟩
 have hreg:=(ZO F.stk hm.1 a ha8).1
 have HT:=Qq (F.Z2 hmm 1)
 rw[←hmm] at hreg;have a0:(0:Int)≤(a:Int):=by omega
 have a8:(a:Int)<8:=by omega
 have H:=Qq h;have HF:=Qq hf;obtain⟨v,hv⟩:∃v,v=(W.g d.g).rg (a:Int):=⟨_,rfl⟩
 rw[←hv] at hreg;have e:Z7 W [] d.g d.x=if(if 1048576<v then 1048576 else v)≤0 then⟨W,[],none⟩ else⟨{ W.zU d.g 3 with hp:=ZR W.hp ⟨(W.clock:Int)+(if 1048576<v then 1048576 else v),(W.nx:Int),(d.g:Int)⟩,nx:=W.nx+1 },[],none⟩:=by
  unfold Z7;rw[hA,←hv]
 rw[e];obtain⟨t,ht⟩:∃t,t=if 1048576<v then 1048576 else v:=⟨_,rfl⟩
 have ht2:t≤1048576:=by rw[ht];split<;>omega
 rw[←ht];have hmin:=ht.symm;generalize hrr:(if t≤0 then(⟨W,[],none⟩:Dd) else⟨{ W.zU d.g 3 with hp:=ZR W.hp ⟨(W.clock:Int)+t,(W.nx:Int),(d.g:Int)⟩,nx:=W.nx+1 },[],none⟩)=rr
 have HRR:=Qq hrr;have HMIN:=Qq hmin;have HMX:=Qq (fun k=>F.FI k)
 have FST:Hid (∀n,(w.drewN n).cell? ⟨b,off+d.g*2,none⟩=some (.int .i64 (W.g d.g).st)∧(w.drewN n).frozen? ⟨b,off+d.g*2,none⟩=false):=Qq (fun n=>F.st)
 have HAA:=Qq F.aa;have HHG:=Qq hg;clear h hf F hm hmm hv e hA ha ht hg hrr hmin;go_enter Tryz.func137,Tryz.ntmps137
 go_upto_region 0 with fail
 refine zk (fun wx=>∃nq,wx=World.drewN (w) nq) 13 0 (Array.replicate 13 false) (Qj 13 8191) (by kernel_rfl) (by kernel_rfl) ?_
 refine zf 0 1 _ (Qj 13 1) 12 (by kernel_rfl) za (zE w) (by kernel_rfl) ?_
 simp only[QX,QV,QJ];(repeat((first|refine Qx (h:=?_)|refine Qw (h:=?_));simp only[Act.put,QW,QY,QZ]));refine zb ?_;refine zf 2 5 _ (Qj 13 125) 7 (by kernel_rfl) za (zE w) (by kernel_rfl) ?_
 simp only[QX,QV,QQ,QJ];(repeat((first|refine Qx (h:=?_)|refine Qw (h:=?_));simp only[Act.put,QW,QY,QZ]));refine zb ?_;refine zA 1 _ (Qj 13 127) 6 (by kernel_rfl) (fun K hK=>?_)
 have HKK:=Qq hK;clear hK;simp only[QQ,QJ];refine zc (by rfl) ?_;go_simp;refine HT.out.mono ?_
 rintro r w1 ⟨rfl,k1,hw1⟩;refine HKK.out _ _ (VQ hw1) ?_
 clear HKK K;refine zf 7 6 _ (Qj 13 8191) 0 (by kernel_rfl) za (VQ hw1) (by kernel_rfl) ?_
 simp only[QX,QV,QQ,QJ];(repeat((first|refine Qx (h:=?_)|refine Qw (h:=?_));simp only[Act.put,QW,QY,QZ]));refine zb ?_;refine zo ?_;refine zD (by kernel_rfl) (NoPanic.normal ?_)
 rw[HMIN.out];have hw1':w1=w.drewN (1+k1):=by rw[hw1,World.drewN_drewN]
 clear hw1 HT;by_cases h0:t≤0
 ·have HE:Hid (ZQ w0 p T d R rr (.returned (.tuple #[])) w1):=Qq (by
   rw[←HRR.out,if_pos h0];exact⟨rfl,D,ra,rc,HF.out,H.out.q1 hw1'⟩)
  clear hw1' FST;go_wp2;go_end0
  exact HE.out
 ·have ho:=H.out.q1 hw1'
  have HM1:Hid (Calls Tryz.prog 121 #[.pointer (some ⟨d.q,0,none⟩)] w1 fun r w'=>r=.returned (.pointer (some ⟨b,off+d.g*2,none⟩))∧∃j,w'=w1.drewN j):=Qq (by rw[hw1'];exact HMX.out _)
  have c0:∀j,(w1.drewN j).cell? ⟨b,off+d.g*2,none⟩=some (.int .i64 (W.g d.g).st):=fun j=>by rw[hw1',World.drewN_drewN];exact(FST.out _).1
  have c1:∀j,(w1.drewN j).frozen? ⟨b,off+d.g*2,none⟩=false:=fun j=>by rw[hw1',World.drewN_drewN];exact(FST.out _).2
  have HO:=Qq ho;clear ho hw1' FST q0 q1 q3 hreg;go_wp2_with fail;refine HM1.out.mono ?_
  rintro r w2 ⟨rfl,j,hw2⟩;have d0:=c0 j;have d1:=c1 j;rw[←hw2] at d0 d1;have o2:=Ve (HO.out.q1 hw2) HF.out HHG.out HAA.out 3
  have HO2:=Qq o2;clear c0 c1 hw2 o2 HM1;go_upto_region 3 with fail
  generalize w2.setCell ⟨b,off+d.g*2,none⟩ (.int .i64 3)=w3 at *
  obtain⟨x0,-⟩:=HO2.out.zi 10 rfl 0 _ rfl;obtain⟨x1,-⟩:=HO2.out.zi 10 rfl 1 _ rfl;have x7:w3.cell? ⟨p,7,none⟩=some (.int .u64 (W.clock:Int)):=(HO2.out.zi 0 rfl 7 _ rfl).1
  have HPU:=Qq (Gg (HO2.out.step (zx w3 1)) ((W.clock:Int)+t) (d.g:Int) hl hn)
  refine zk (fun wx=>∃nq,wx=World.drewN (w3) nq) 20 1 (Array.replicate 21 false) (Qj 21 1048575) (by kernel_rfl) (by kernel_rfl) ?_
  refine zf 0 20 _ (Qj 21 1048575) 0 (by kernel_rfl) za (zE w3) (by kernel_rfl) ?_
  simp only[QX,QV,QJ];(repeat((first|refine Qx (h:=?_)|refine Qw (h:=?_));simp only[Act.put,QW,QY,QZ]));refine zb ?_;refine zo ?_;refine zS 20 (by kernel_rfl) ?_
  simp only[QQ,QJ];go_wp2_with fail;refine HPU.out.mono ?_
  rintro r w4 ⟨sv',rfl,ho4⟩;have HE:Hid (ZQ w0 p T d R rr (.returned (.tuple #[])) w4):=Qq (by
   rw[←HRR.out,if_neg (by omega)]
   exact⟨rfl,_,ra,rc,(HF.out.ye d.g { W.g d.g with st:=3 }).sv _ _ _,ho4⟩)
  clear ho4 HPU;go_wp2_with fail;refine NoPanic.normal ?_
  go_wp2;go_end0
  exact HE.out
structure xZ (W:Wd) (g:Nat) (x:yq) (dr:Int) (go:Bool):Prop where
 r:9≤x.1∧x.1≤22
 o9:x.1=9→0≤x.2.2.1∧x.2.2.1<8
 o10:x.1=10→(0≤x.2.1∧x.2.1<8)∧(2≤(W.g g).n→0≤(W.g g).z.getD ((W.g g).o+10) 0∧(W.g g).z.getD ((W.g g).o+10) 0<8)
 o11:x.1=11→(0≤x.2.2.1∧x.2.2.1<8)∧(0≤x.2.2.2∧x.2.2.2<8)∧W.gs.length≤100
 o13:x.1=13∨x.1=14→To W [] g x 0∧WS W x
 o15:x.1=15→TN W x
 o16:x.1=16→V8 W g x dr go
 o17:x.1=17→(0≤x.2.1∧x.2.1<8)∧W.hp.length≤100000∧W.nx≤100000∧W.clock≤100000
 o18:x.1=18→(0≤x.2.1∧x.2.1<(W.Ls.length:Int))∧(∀L∈W.Ls,L.length≤1000000)∧W.Ls.length≤1000
 o19:x.1=19→(0≤x.2.1∧x.2.1<(W.Ls.length:Int))∧(∀L∈W.Ls,∀x∈L,0≤x∧x<(W.gs.length:Int))∧W.Ls.length≤1000∧W.gs.length≤1000
 o20:x.1=20→(0≤x.2.1∧x.2.1<8)∧W.out.length≤1000
 o21:x.1=21→0≤x.2.1∧x.2.1<8
def yS (w0:World)(p:Nat)(T:List Value)(d:Dq)(W:Wd):Prop :=
 ∃fk,(∀w,(Instr.index 252 (.agg YC) (.int .i64 d.x.1)).run Tryz.prog w=.ok (.func (.func fk) #[] #[]) w)∧(∀(args:Array Value) (w:World),(callFunc fk args).run Tryz.prog w=.ok (.enter fk args) w) ∧
  ∀R' w',yL w0 w' p T d W [] R'→Calls Tryz.prog fk #[.pointer (some ⟨d.q,0,none⟩)] w' fun r w''=>ZQ w0 p T d R' (yf W d.g d.x d.dr d.go) r w''
theorem GV (w0:World)(p:Nat)(T:List Value)(d:Dq)(W:Wd)(hg:d.g<W.gs.length)(hm:1≤(W.g d.g).n∧(W.g d.g).n≤16)(ok:xZ W d.g d.x d.dr d.go)(h:d.x.1=9):yS w0 p T d W:=by
 unfold yS;refine⟨130,fun w=>by rw[h];kernel_rfl,fun _ _=>by kernel_rfl,fun R' w' hD=>?_⟩
 have e:yf W d.g d.x d.dr d.go=Yz W [] d.g d.x:=by unfold yf;simp[h]
 rw[e];exact NR hD hg hm (ok.o9 h)
theorem Is (w0:World)(p:Nat)(T:List Value)(d:Dq)(W:Wd)(hg:d.g<W.gs.length)(hm:1≤(W.g d.g).n∧(W.g d.g).n≤16)(ok:xZ W d.g d.x d.dr d.go)(h:d.x.1=10):yS w0 p T d W:=by
 unfold yS;refine⟨131,fun w=>by rw[h];kernel_rfl,fun _ _=>by kernel_rfl,fun R' w' hD=>?_⟩
 have e:yf W d.g d.x d.dr d.go=WV W [] d.g d.x:=by unfold yf;simp[h]
 rw[e];exact LV hD hg hm (ok.o10 h).1 (ok.o10 h).2
theorem Ju (w0:World)(p:Nat)(T:List Value)(d:Dq)(W:Wd)(hg:d.g<W.gs.length)(hm:1≤(W.g d.g).n∧(W.g d.g).n≤16)(ok:xZ W d.g d.x d.dr d.go)(h:d.x.1=11):yS w0 p T d W:=by
 unfold yS;refine⟨132,fun w=>by rw[h];kernel_rfl,fun _ _=>by kernel_rfl,fun R' w' hD=>?_⟩
 have e:yf W d.g d.x d.dr d.go=ZH W [] d.g d.x:=by unfold yf;simp[h]
 rw[e];exact Qe hD hg hm (ok.o11 h).1 (ok.o11 h).2.1 (ok.o11 h).2.2
theorem JV (w0:World)(p:Nat)(T:List Value)(d:Dq)(W:Wd)(hg:d.g<W.gs.length)(hm:1≤(W.g d.g).n∧(W.g d.g).n≤16)(ok:xZ W d.g d.x d.dr d.go)(h:d.x.1=13):yS w0 p T d W:=by
 unfold yS;refine⟨134,fun w=>by rw[h];kernel_rfl,fun _ _=>by kernel_rfl,fun R' w' hD=>?_⟩
 have e:yf W d.g d.x d.dr d.go=Yk W [] d.g d.x:=by unfold yf;simp[h]
 rw[e];exact Tc hD hg hm (ok.o13 (.inl h)).1 (ok.o13 (.inl h)).2
theorem JC (w0:World)(p:Nat)(T:List Value)(d:Dq)(W:Wd)(hg:d.g<W.gs.length)(hm:1≤(W.g d.g).n∧(W.g d.g).n≤16)(ok:xZ W d.g d.x d.dr d.go)(h:d.x.1=14):yS w0 p T d W:=by
 unfold yS;refine⟨134,fun w=>by rw[h];kernel_rfl,fun _ _=>by kernel_rfl,fun R' w' hD=>?_⟩
 have e:yf W d.g d.x d.dr d.go=Yk W [] d.g d.x:=by unfold yf;simp[h]
 rw[e];exact Tc hD hg hm (ok.o13 (.inr h)).1 (ok.o13 (.inr h)).2
theorem J1 (w0:World)(p:Nat)(T:List Value)(d:Dq)(W:Wd)(hg:d.g<W.gs.length)(hm:1≤(W.g d.g).n∧(W.g d.g).n≤16)(ok:xZ W d.g d.x d.dr d.go)(h:d.x.1=15):yS w0 p T d W:=by
 unfold yS;refine⟨135,fun w=>by rw[h];kernel_rfl,fun _ _=>by kernel_rfl,fun R' w' hD=>?_⟩
 have e:yf W d.g d.x d.dr d.go=ZN W [] d.x:=by unfold yf;simp[h]
 rw[e];exact Pc hD (ok.o15 h)
theorem IT (w0:World)(p:Nat)(T:List Value)(d:Dq)(W:Wd)(hg:d.g<W.gs.length)(hm:1≤(W.g d.g).n∧(W.g d.g).n≤16)(ok:xZ W d.g d.x d.dr d.go)(h:d.x.1=16):yS w0 p T d W:=by
 unfold yS;refine⟨136,fun w=>by rw[h];kernel_rfl,fun _ _=>by kernel_rfl,fun R' w' hD=>?_⟩
 have e:yf W d.g d.x d.dr d.go=Zu W [] d.g d.x d.dr d.go:=by unfold yf;simp[h]
 rw[e];exact SF hD hg hm (ok.o16 h)
theorem K8 (w0:World)(p:Nat)(T:List Value)(d:Dq)(W:Wd)(hg:d.g<W.gs.length)(hm:1≤(W.g d.g).n∧(W.g d.g).n≤16)(ok:xZ W d.g d.x d.dr d.go)(h:d.x.1=17):yS w0 p T d W:=by
 unfold yS;refine⟨137,fun w=>by rw[h];kernel_rfl,fun _ _=>by kernel_rfl,fun R' w' hD=>?_⟩
 have e:yf W d.g d.x d.dr d.go=Z7 W [] d.g d.x:=by unfold yf;simp[h]
 rw[e];exact PB hD hg hm (ok.o17 h).1 (ok.o17 h).2.1 (ok.o17 h).2.2.1 (ok.o17 h).2.2.2
theorem IM (w0:World)(p:Nat)(T:List Value)(d:Dq)(W:Wd)(hg:d.g<W.gs.length)(hm:1≤(W.g d.g).n∧(W.g d.g).n≤16)(ok:xZ W d.g d.x d.dr d.go)(h:d.x.1=18):yS w0 p T d W:=by
 unfold yS;refine⟨138,fun w=>by rw[h];kernel_rfl,fun _ _=>by kernel_rfl,fun R' w' hD=>?_⟩
 have e:yf W d.g d.x d.dr d.go=Xc W [] d.g d.x:=by unfold yf;simp[h]
 rw[e];exact Ms hD hg hm (ok.o18 h).1 (ok.o18 h).2.1 (ok.o18 h).2.2
theorem IG (w0:World)(p:Nat)(T:List Value)(d:Dq)(W:Wd)(hg:d.g<W.gs.length)(hm:1≤(W.g d.g).n∧(W.g d.g).n≤16)(ok:xZ W d.g d.x d.dr d.go)(h:d.x.1=19):yS w0 p T d W:=by
 unfold yS;refine⟨139,fun w=>by rw[h];kernel_rfl,fun _ _=>by kernel_rfl,fun R' w' hD=>?_⟩
 have e:yf W d.g d.x d.dr d.go=Zr W [] d.g d.x:=by unfold yf;simp[h]
 rw[e];exact Sv hD hg hm (ok.o19 h).1 (ok.o19 h).2.1 (ok.o19 h).2.2.1 (ok.o19 h).2.2.2
theorem Jf (w0:World)(p:Nat)(T:List Value)(d:Dq)(W:Wd)(hg:d.g<W.gs.length)(hm:1≤(W.g d.g).n∧(W.g d.g).n≤16)(ok:xZ W d.g d.x d.dr d.go)(h:d.x.1=20):yS w0 p T d W:=by
 unfold yS;refine⟨140,fun w=>by rw[h];kernel_rfl,fun _ _=>by kernel_rfl,fun R' w' hD=>?_⟩
 have e:yf W d.g d.x d.dr d.go=Yw W [] d.g d.x:=by unfold yf;simp[h]
 rw[e];exact Nk hD hg hm (ok.o20 h).1 (ok.o20 h).2
theorem Ir (w0:World)(p:Nat)(T:List Value)(d:Dq)(W:Wd)(hg:d.g<W.gs.length)(hm:1≤(W.g d.g).n∧(W.g d.g).n≤16)(ok:xZ W d.g d.x d.dr d.go)(h:d.x.1=21):yS w0 p T d W:=by
 unfold yS;refine⟨141,fun w=>by rw[h];kernel_rfl,fun _ _=>by kernel_rfl,fun R' w' hD=>?_⟩
 have e:yf W d.g d.x d.dr d.go=⟨W.put d.g d.x.2.1 d.dr,[],none⟩:=by unfold yf;simp[h]
 rw[e];exact NY hD hg hm (ok.o21 h)
theorem IV (w0:World)(p:Nat)(T:List Value)(d:Dq)(W:Wd)(hg:d.g<W.gs.length)(hm:1≤(W.g d.g).n∧(W.g d.g).n≤16)(ok:xZ W d.g d.x d.dr d.go)(h:d.x.1=12):yS w0 p T d W:=by
 unfold yS;refine⟨133,fun w=>by rw[h];kernel_rfl,fun _ _=>by kernel_rfl,fun R' w' hD=>?_⟩
 have e:yf W d.g d.x d.dr d.go=⟨W,[],none⟩:=by unfold yf;simp[h]
 rw[e];refine(Q7 d.q w').mono (fun r w2 hh=>?_)
 obtain⟨rfl,rfl⟩:=hh;exact⟨rfl,hD⟩
theorem IZ (w0:World)(p:Nat)(T:List Value)(d:Dq)(W:Wd)(hg:d.g<W.gs.length)(hm:1≤(W.g d.g).n∧(W.g d.g).n≤16)(ok:xZ W d.g d.x d.dr d.go)(h:d.x.1=22):yS w0 p T d W:=by
 unfold yS;refine⟨142,fun w=>by rw[h];kernel_rfl,fun _ _=>by kernel_rfl,fun R' w' hD=>?_⟩
 have e:yf W d.g d.x d.dr d.go=⟨W,[],some d.x.2.1⟩:=by unfold yf;simp[h]
 rw[e];have c3:w'.cell? ⟨d.q,3,none⟩=some (.int .i64 d.x.2.1):=by
  obtain⟨D,ra,rc,hf,ho⟩:=hD;exact(ho.zi 10 rfl 3 _ rfl).1
 refine(KI d.q d.x.2.1 w' c3).mono (fun r w2 hh=>?_)
 obtain⟨rfl,rfl⟩:=hh;exact⟨rfl,hD⟩
theorem MW (w0:World)(p:Nat)(T:List Value)(d:Dq)(W:Wd)(hg:d.g<W.gs.length)(hm:1≤(W.g d.g).n∧(W.g d.g).n≤16)(ok:xZ W d.g d.x d.dr d.go):yS w0 p T d W:=by
 obtain⟨h1,h2⟩:=ok.r;have hc:d.x.1=9∨d.x.1=10∨d.x.1=11∨d.x.1=12∨d.x.1=13∨d.x.1=14∨d.x.1=15∨d.x.1=16∨d.x.1=17∨d.x.1=18∨d.x.1=19∨d.x.1=20∨d.x.1=21∨d.x.1=22:=by omega
 rcases hc with h|h|h|h|h|h|h|h|h|h|h|h|h|h
 ·exact GV w0 p T d W hg hm ok h
 ·exact Is w0 p T d W hg hm ok h
 ·exact Ju w0 p T d W hg hm ok h
 ·exact IV w0 p T d W hg hm ok h
 ·exact JV w0 p T d W hg hm ok h
 ·exact JC w0 p T d W hg hm ok h
 ·exact J1 w0 p T d W hg hm ok h
 ·exact IT w0 p T d W hg hm ok h
 ·exact K8 w0 p T d W hg hm ok h
 ·exact IM w0 p T d W hg hm ok h
 ·exact IG w0 p T d W hg hm ok h
 ·exact Jf w0 p T d W hg hm ok h
 ·exact Ir w0 p T d W hg hm ok h
 ·exact IZ w0 p T d W hg hm ok h
theorem Wd.LN (W:Wd)(g:Nat):(W.step g).gs.length=W.gs.length:=by unfold Wd.step Wd.ye;simp
theorem Wd.GO (W:Wd)(g:Nat)(hg:g<W.gs.length):((W.step g).g g).n=(W.g g).n:=by unfold Wd.step;rw[Wd.Yn _ _ _ _ hg];simp
structure G9 (W:Wd) (g:Nat) (dr:Int) (go:Bool):Prop where
 hg:g<W.gs.length
 hm:1≤(W.g g).n∧(W.g g).n≤16
 pc:0≤(W.g g).pc∧(W.g g).pc<1000
 pure:∀x,W.ins g=some x→Z0 x (W.g g).o (W.g g).z≠none→Vb x
 GD:∀x,W.ins g=some x→Z0 x (W.g g).o (W.g g).z=none→xZ (W.step g) g x dr go
theorem GU {w0 w:World}{p:Nat}{T:List Value}{W:Wd}{R:List zv}(q g:Nat)(dr:Int)(go:Bool)(ok:G9 W g dr go)(h:yL w0 w p T ((Yo W q g).ask dr go) W [] R) :
  Calls Tryz.prog 100 #[.pointer (some ⟨q,0,none⟩)] w fun r w'=>r=.returned (.tuple #[])∧yL w0 w' p T ((Yo W q g).ask dr go) (doM W g (W.ins g) dr go).end_ (doM W g (W.ins g) dr go).rd R:=by
 obtain⟨hg,hm,hpc,hpu,hde⟩:=ok;cases hI:W.ins g with
 | none =>
  have ht:((Yo W q g).ask dr go).th=false:=by show(W.ins g).isSome=false;rw[hI];rfl
  exact KQ h ht
 | some x =>
  have ht:((Yo W q g).ask dr go).th=true:=by show(W.ins g).isSome=true;rw[hI];rfl
  have hx:((Yo W q g).ask dr go).x=x:=by show(W.ins g).getD (0,0,0,0)=x;rw[hI];rfl
  cases hP:Z0 x (W.g g).o (W.g g).z with
  | some z =>
   have hz:Z0 ((Yo W q g).ask dr go).x (W.g ((Yo W q g).ask dr go).g).o (W.g ((Yo W q g).ask dr go).g).z=some z:=by rw[hx];exact hP
   have e:doM W g (some x) dr go=⟨W.ye g { W.g g with z:=z },[],none⟩:=by unfold doM;simp[hP]
   rw[e];exact MC h ht hg hm (by rw[hx];exact hpu x hI (by rw[hP];simp)) hpc hz
  | none =>
   have e:doM W g (some x) dr go=yf (W.step g) g x dr go:=by unfold doM;simp[hP]
   rw[e];have hD:=hde x hI hP;obtain⟨fk,hix,heg,hc⟩:=MW w0 p T ((Yo W q g).ask dr go) (W.step g) (by rw[Wd.LN];exact hg) (by show 1≤((W.step g).g g).n∧((W.step g).g g).n≤16;rw[Wd.GO _ _ hg];exact hm) (by rw[hx];exact hD)
   rw[hx] at hix hc;exact Lh h ht hg hm (by rw[hx];exact⟨hD.r.1,hD.r.2⟩) hpc fk (by rw[hx];exact hix) heg _ (fun R' w' h'=>hc R' w' h')
end Go.Proofs.YtlkjheheofgdgaaGreat
