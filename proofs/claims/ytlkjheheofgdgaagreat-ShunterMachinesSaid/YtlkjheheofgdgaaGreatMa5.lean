/-
  Texts put together: WdSlp, WdDoes, WdEx2, WdWF, WdWF2, WdWF3, WdWF4, WdGets, WdCln, WdNew, WdWld, SdA, SdB, RdM, SdInv, SdQ.
-/
import Derived.Test.YtlkjheheofgdgaaGreatMa3
import Derived.Test.YtlkjheheofgdgaaGreatMa4
import Derived.Test.YtlkjheheofgdgaaGreatMa2
import Derived.Test.YtlkjheheofgdgaaGreatMa1
set_option maxRecDepth 100000
set_option maxHeartbeats 16000000
set_option linter.unusedSimpArgs false
set_option linter.unusedVariables false
open Go Go.RowKit
namespace Go.Proofs.YtlkjheheofgdgaaGreat
def JX (p:Nat)(W:Wd)(D:Wa)(T:List Value):Hp :=
 ⟨p,.slice D.fa W.fs.length D.fc,.slice D.ca W.ks.length D.cc,.slice D.aa W.gs.length D.ac,.slice D.ha W.Cs.length D.hc,.slice D.la W.Ls.length D.lc,.int .u64 (W.clock:Int)::.slice D.oa W.out.length D.oc::.int .i64 W.en::.int .i64 W.why::T⟩
theorem E8 {w0 w:World}{p:Nat}{T:List Value}{W:Wd}{D:Wa}{Y:List zy}(h:Own w0 w (zh p W D T++Y))(at_ id:Int)(hl:W.hp.length≤100000)(hn:W.nx≤100000) :
  Calls Tryz.prog 163 #[.pointer (some ⟨p,5,none⟩),.int .u64 at_,.int .i64 id] w fun r w'=>∃sv',r=.returned (.int .u64 (W.nx:Int))∧Own w0 w' (zh p { W with hp:=ZX W.hp ⟨at_,W.nx,id⟩,nx:=W.nx+1 } { D with sv:=sv' } T++Y):=by
 have h1:=(h.pick 8 rfl).pick 1 rfl
 have hc:=Own.call (As:=[zf p (yD W D++T),xx D.sv W.hp]) (R:=[Xl D.fa D.fr W.fs D.ca W.ks,zd 2 D.aa D.ac W.gs.length (YE D.sk W.gs),yT (YZ D.sk W.gs),zd 1 D.ha D.hc W.Cs.length (xR (List.zip D.ps W.Ns)),yT (YF (List.zip D.ps W.Ns) W.Cs),
  zd 1 D.la D.lc W.Ls.length (W8 D.lp),yT (RH D.lp W.Ls),zd 1 D.oa D.oc W.out.length (zr W.out)]++Y) h1 (P:=Tryz.prog) (f:=163) (args:=#[.pointer (some ⟨p,5,none⟩),.int .u64 at_,.int .i64 id])
  (post:=fun r l=>∃sv',r=.returned (.int .u64 (W.nx:Int))∧l=[zf p (yD { W with hp:=ZX W.hp ⟨at_,W.nx,id⟩,nx:=W.nx+1 } { D with sv:=sv' }++T),xx sv' (ZX W.hp ⟨at_,W.nx,id⟩)]) (fun F hF=>by
   obtain⟨F1,F2,rfl,⟨rfl,hpl,hb⟩,hne,F3,F4,rfl,⟨rfl,hi⟩,-,rfl⟩:=hF;have hH:yp w (JX p W D T) D.sv W.hp W.nx:=⟨hb,hi,fun x hx e=>hne p (by simp) (by rw[e] at hx;simpa [JX] using hx)⟩
   refine(ND w (JX p W D T) D.sv W.hp W.nx at_ id hH hl hn).mono (fun r w' hh=>?_)
   obtain⟨v',h1,⟨h2,h3,h4⟩,h5,h6⟩:=hh;refine⟨_,⟨v',h1,rfl⟩,[p]++(v'.ownBlock.toList++[]),⟨[p],v'.ownBlock.toList++[],rfl,⟨rfl,Nat.lt_of_lt_of_le hpl h5.size,h2⟩,fun x hx hx2=>?_,v'.ownBlock.toList,[],rfl,⟨rfl,h3⟩,fun x hx=>by simp,rfl⟩,?_,fun x hx=>?_⟩
   ·simp only[List.mem_cons,List.not_mem_nil,or_false] at hx
    subst hx;rw[List.append_nil] at hx2;exact h4 x hx2 rfl
   ·exact h5.mono (fun x hx=>by
     simp only[xz,List.mem_cons] at hx;rcases hx with rfl|hx
     ·simp[JX]
     ·simp[List.mem_append,hx])
   ·have hx':x∈xz (JX p W D T) v':=by
     simp only[List.mem_append,List.mem_cons,List.not_mem_nil,or_false] at hx;simp only[xz,List.mem_cons];exact hx
    rcases h6 x hx' with h7|h7
    ·left
     simp only[xz,List.mem_cons] at h7;simp only[List.mem_append,List.mem_cons,List.not_mem_nil,or_false];exact h7
    ·exact .inr h7)
 refine hc.mono (fun r w' hh=>?_)
 obtain⟨As',⟨sv',h1,rfl⟩,h2⟩:=hh;exact⟨sv',h1,(h2.pick 1 rfl).back (As:=zh p { W with hp:=ZX W.hp ⟨at_,W.nx,id⟩,nx:=W.nx+1 } { D with sv:=sv' } T++Y) (i:=8) (by simp[zh])⟩
theorem EI {w0 w:World}{p:Nat}{T:List Value}{W:Wd}{D:Wa}{Y:List zy}(h:Own w0 w (zh p W D T++Y))(now:Int)(hl:W.hp.length≤100000) :
  Calls Tryz.prog 91 #[.pointer (some ⟨p,5,none⟩),.int .u64 now] w fun r w'=>∃v5 sv',r=.returned v5∧Own w0 w' (xx v5 (yW W.hp now).1::(zh p { W with hp:=(yW W.hp now).2 } { D with sv:=sv' } T++Y)):=by
 have h1:=(h.pick 8 rfl).pick 1 rfl
 have hc:=Own.call (As:=[zf p (yD W D++T),xx D.sv W.hp]) (R:=[Xl D.fa D.fr W.fs D.ca W.ks,zd 2 D.aa D.ac W.gs.length (YE D.sk W.gs),yT (YZ D.sk W.gs),zd 1 D.ha D.hc W.Cs.length (xR (List.zip D.ps W.Ns)),yT (YF (List.zip D.ps W.Ns) W.Cs),
  zd 1 D.la D.lc W.Ls.length (W8 D.lp),yT (RH D.lp W.Ls),zd 1 D.oa D.oc W.out.length (zr W.out)]++Y) h1 (P:=Tryz.prog) (f:=91) (args:=#[.pointer (some ⟨p,5,none⟩),.int .u64 now])
  (post:=fun r l=>∃v5 sv',r=.returned v5∧l=[xx v5 (yW W.hp now).1,zf p (yD { W with hp:=(yW W.hp now).2 } { D with sv:=sv' }++T),xx sv' (yW W.hp now).2]) (fun F hF=>by
   have hFlt:=hF.lt;obtain⟨F1,F2,rfl,⟨rfl,hpl,hb⟩,hne,F3,F4,rfl,⟨rfl,hi⟩,-,rfl⟩:=hF;have hH:yp w (JX p W D T) D.sv W.hp W.nx:=⟨hb,hi,fun x hx e=>hne p (by simp) (by rw[e] at hx;simpa [JX] using hx)⟩
   refine(Kd w (JX p W D T) D.sv W.hp W.nx now hH hl).mono (fun r w' hh=>?_)
   obtain⟨v5,v',h1,h2,h3,⟨h4,h5,h6⟩,h7,h8⟩:=hh;refine⟨_,⟨v5,v',h1,rfl⟩,v5.ownBlock.toList++([p]++(v'.ownBlock.toList++[])),⟨v5.ownBlock.toList,_,rfl,⟨rfl,h2⟩,fun x hx hx2=>?_,[p],v'.ownBlock.toList++[],rfl,⟨rfl,Nat.lt_of_lt_of_le hpl h8.size,h4⟩,fun x hx hx2=>?_,v'.ownBlock.toList,[],rfl,⟨rfl,h5⟩,fun x hx=>by simp,rfl⟩,?_,fun x hx=>?_⟩
   ·have:=h3 x hx
    have:=hFlt x (by rw[←h7];exact hx2)
    omega
   ·simp only[List.mem_cons,List.not_mem_nil,or_false] at hx
    subst hx;rw[List.append_nil] at hx2;exact h6 x hx2 rfl
   ·exact h8.mono (fun x hx=>by
     simp only[xz,List.mem_cons] at hx;rcases hx with rfl|hx
     ·simp[JX]
     ·simp[List.mem_append,hx])
   ·rcases List.mem_append.1 hx with h9|h9
    ·exact .inr (h3 x h9)
    ·left;rw[←h7];exact h9)
 refine hc.mono (fun r w' hh=>?_)
 obtain⟨As',⟨v5,sv',h1,rfl⟩,h2⟩:=hh;refine⟨v5,sv',h1,?_⟩
 exact((h2.pick 2 rfl).back (As:=xx v5 (yW W.hp now).1::(zh p { W with hp:=(yW W.hp now).2 } { D with sv:=sv' } T++Y)) (i:=9) (by simp[zh]))
theorem Wa.fits.sv {D:Wa}{W:Wd}(h:D.fits W)(sv:Value)(hp:List It)(nx:Nat):({ D with sv:=sv }:Wa).fits { W with hp:=hp,nx:=nx }:=⟨h.f,h.g,h.c,h.n,h.l,h.k⟩
theorem Qu {w0 w:World}{p:Nat}{T:List Value}{d:Dq}{W:Wd}{R:List zy}(h:yH w0 w p T d W [] R)(hg:d.g<W.gs.length)(hm:1≤(W.g d.g).n∧(W.g d.g).n≤16)(ha:0≤d.x.2.1∧d.x.2.1<8)(hl:W.hp.length≤100000)(hn:W.nx≤100000)(hc:W.clock≤100000) :
  Calls Tryz.prog 137 #[.pointer (some ⟨d.q,0,none⟩)] w fun r w'=>ZY w0 p T d R (Yh W [] d.g d.x) r w':=by
 obtain⟨D,ra,rc,hf,h⟩:=h;obtain⟨a,hA,ha8⟩:=yI (n:=8) ha
 obtain⟨b,off,s,cap,F⟩:=ZI hf h hg hm;have q0:=F.top.d0;have q1:=F.top.d1;have q3:=(h.zo 10 rfl 3 _ rfl).1
 rw[hA] at q3;obtain⟨m,hmm⟩:∃m,m=(W.g d.g).n-1:=⟨_,rfl⟩
 have hreg:=(ZV F.stk hm.1 a ha8).1
 have HT:=Qq (F.Z8 hmm 1)
 rw[←hmm] at hreg;have a0:(0:Int)≤(a:Int):=by omega
 have a8:(a:Int)<8:=by omega
 have H:=Qq h;have HF:=Qq hf;obtain⟨v,hv⟩:∃v,v=(W.g d.g).rg (a:Int):=⟨_,rfl⟩
 rw[←hv] at hreg;have e:Yh W [] d.g d.x=if(if 1048576<v then 1048576 else v)≤0 then⟨W,[],none⟩ else⟨{ W.zQ d.g 3 with hp:=ZX W.hp ⟨(W.clock:Int)+(if 1048576<v then 1048576 else v),(W.nx:Int),(d.g:Int)⟩,nx:=W.nx+1 },[],none⟩:=by
  unfold Yh;rw[hA,←hv]
 rw[e];obtain⟨t,ht⟩:∃t,t=if 1048576<v then 1048576 else v:=⟨_,rfl⟩
 have ht2:t≤1048576:=by rw[ht];split<;>omega
 rw[←ht];have hmin:=ht.symm;generalize hrr:(if t≤0 then(⟨W,[],none⟩:Dd) else⟨{ W.zQ d.g 3 with hp:=ZX W.hp ⟨(W.clock:Int)+t,(W.nx:Int),(d.g:Int)⟩,nx:=W.nx+1 },[],none⟩)=rr
 have HRR:=Qq hrr;have HMIN:=Qq hmin;have HMX:=Qq (fun k=>F.DC k)
 have FST:Hid (∀n,(w.drewN n).cell? ⟨b,off+d.g*2,none⟩=some (.int .i64 (W.g d.g).st)∧(w.drewN n).frozen? ⟨b,off+d.g*2,none⟩=false):=Qq (fun n=>F.st)
 have HAA:=Qq F.aa;have HHG:=Qq hg;clear h hf F hm hmm hv e hA ha ht hg hrr hmin;go_enter Tryz.func137,Tryz.ntmps137
 go_upto_region 0 with fail
 refine zi (fun wx=>∃nq,wx=World.drewN (w) nq) 13 0 (Array.replicate 13 false) (Qj 13 8191) (by kernel_rfl) (by kernel_rfl) ?_
 refine ze 0 1 _ (Qj 13 1) 12 (by kernel_rfl) za (zE w) (by kernel_rfl) ?_
 simp only[QX,QV,QJ];(repeat((first|refine Qx (h:=?_)|refine Qw (h:=?_));simp only[Act.put,QW,QY,QZ]));refine zb ?_;refine ze 2 5 _ (Qj 13 125) 7 (by kernel_rfl) za (zE w) (by kernel_rfl) ?_
 simp only[QX,QV,QQ,QJ];(repeat((first|refine Qx (h:=?_)|refine Qw (h:=?_));simp only[Act.put,QW,QY,QZ]));refine zb ?_;refine zB 1 _ (Qj 13 127) 6 (by kernel_rfl) (fun K hK=>?_)
 have HKK:=Qq hK;clear hK;simp only[QQ,QJ];refine zc (by rfl) ?_;go_simp;refine HT.out.mono ?_
 rintro r w1 ⟨rfl,k1,hw1⟩;refine HKK.out _ _ (VX hw1) ?_
 clear HKK K;refine ze 7 6 _ (Qj 13 8191) 0 (by kernel_rfl) za (VX hw1) (by kernel_rfl) ?_
 simp only[QX,QV,QQ,QJ];(repeat((first|refine Qx (h:=?_)|refine Qw (h:=?_));simp only[Act.put,QW,QY,QZ]));refine zb ?_;refine zm ?_;refine zD (by kernel_rfl) (NoPanic.normal ?_)
 rw[HMIN.out];have hw1':w1=w.drewN (1+k1):=by rw[hw1,World.drewN_drewN]
 clear hw1 HT;by_cases h0:t≤0
 ·have HE:Hid (ZY w0 p T d R rr (.returned (.tuple #[])) w1):=Qq (by
   rw[←HRR.out,if_pos h0];exact⟨rfl,D,ra,rc,HF.out,H.out.q1 hw1'⟩)
  clear hw1' FST;go_wp2;go_end0
  exact HE.out
 ·have ho:=H.out.q1 hw1'
  have HM1:Hid (Calls Tryz.prog 121 #[.pointer (some ⟨d.q,0,none⟩)] w1 fun r w'=>r=.returned (.pointer (some ⟨b,off+d.g*2,none⟩))∧∃j,w'=w1.drewN j):=Qq (by rw[hw1'];exact HMX.out _)
  have c0:∀j,(w1.drewN j).cell? ⟨b,off+d.g*2,none⟩=some (.int .i64 (W.g d.g).st):=fun j=>by rw[hw1',World.drewN_drewN];exact(FST.out _).1
  have c1:∀j,(w1.drewN j).frozen? ⟨b,off+d.g*2,none⟩=false:=fun j=>by rw[hw1',World.drewN_drewN];exact(FST.out _).2
  have HO:=Qq ho;clear ho hw1' FST q0 q1 q3 hreg;go_wp2_with fail;refine HM1.out.mono ?_
  rintro r w2 ⟨rfl,j,hw2⟩;have d0:=c0 j;have d1:=c1 j;rw[←hw2] at d0 d1;have o2:=Va (HO.out.q1 hw2) HF.out HHG.out HAA.out 3
  have HO2:=Qq o2;clear c0 c1 hw2 o2 HM1;go_upto_region 3 with fail
  generalize w2.setCell ⟨b,off+d.g*2,none⟩ (.int .i64 3)=w3 at *
  obtain⟨x0,-⟩:=HO2.out.zo 10 rfl 0 _ rfl;obtain⟨x1,-⟩:=HO2.out.zo 10 rfl 1 _ rfl;have x7:w3.cell? ⟨p,7,none⟩=some (.int .u64 (W.clock:Int)):=(HO2.out.zo 0 rfl 7 _ rfl).1
  have HPU:=Qq (E8 (HO2.out.step (zv w3 1)) ((W.clock:Int)+t) (d.g:Int) hl hn)
  refine zi (fun wx=>∃nq,wx=World.drewN (w3) nq) 20 1 (Array.replicate 21 false) (Qj 21 1048575) (by kernel_rfl) (by kernel_rfl) ?_
  refine ze 0 20 _ (Qj 21 1048575) 0 (by kernel_rfl) za (zE w3) (by kernel_rfl) ?_
  simp only[QX,QV,QJ];(repeat((first|refine Qx (h:=?_)|refine Qw (h:=?_));simp only[Act.put,QW,QY,QZ]));refine zb ?_;refine zm ?_;refine zP 20 (by kernel_rfl) ?_
  simp only[QQ,QJ];go_wp2_with fail;refine HPU.out.mono ?_
  rintro r w4 ⟨sv',rfl,ho4⟩;have HE:Hid (ZY w0 p T d R rr (.returned (.tuple #[])) w4):=Qq (by
   rw[←HRR.out,if_neg (by omega)]
   exact⟨rfl,_,ra,rc,(HF.out.ye d.g { W.g d.g with st:=3 }).sv _ _ _,ho4⟩)
  clear ho4 HPU;go_wp2_with fail;refine NoPanic.normal ?_
  go_wp2;go_end0
  exact HE.out
structure xV (W:Wd) (g:Nat) (x:zS) (dr:Int) (go:Bool):Prop where
 r:9≤x.1∧x.1≤22
 o9:x.1=9→0≤x.2.2.1∧x.2.2.1<8
 o10:x.1=10→(0≤x.2.1∧x.2.1<8)∧(2≤(W.g g).n→0≤(W.g g).z.getD ((W.g g).o+10) 0∧(W.g g).z.getD ((W.g g).o+10) 0<8)
 o11:x.1=11→(0≤x.2.2.1∧x.2.2.1<8)∧(0≤x.2.2.2∧x.2.2.2<8)∧W.gs.length≤100
 o13:x.1=13∨x.1=14→Tm W [] g x 0∧Vb W x
 o15:x.1=15→T6 W x
 o16:x.1=16→Ug W g x dr go
 o17:x.1=17→(0≤x.2.1∧x.2.1<8)∧W.hp.length≤100000∧W.nx≤100000∧W.clock≤100000
 o18:x.1=18→(0≤x.2.1∧x.2.1<(W.Ls.length:Int))∧(∀L∈W.Ls,L.length≤1000000)∧W.Ls.length≤1000
 o19:x.1=19→(0≤x.2.1∧x.2.1<(W.Ls.length:Int))∧(∀L∈W.Ls,∀x∈L,0≤x∧x<(W.gs.length:Int))∧W.Ls.length≤1000∧W.gs.length≤1000
 o20:x.1=20→(0≤x.2.1∧x.2.1<8)∧W.out.length≤1000
 o21:x.1=21→0≤x.2.1∧x.2.1<8
def yS (w0:World)(p:Nat)(T:List Value)(d:Dq)(W:Wd):Prop :=
 ∃fk,(∀w,(Instr.index 252 (.agg YG) (.int .i64 d.x.1)).run Tryz.prog w=.ok (.func (.func fk) #[] #[]) w)∧(∀(args:Array Value) (w:World),(callFunc fk args).run Tryz.prog w=.ok (.enter fk args) w) ∧
  ∀R' w',yH w0 w' p T d W [] R'→Calls Tryz.prog fk #[.pointer (some ⟨d.q,0,none⟩)] w' fun r w''=>ZY w0 p T d R' (zT W d.g d.x d.dr d.go) r w''
theorem FU (w0:World)(p:Nat)(T:List Value)(d:Dq)(W:Wd)(hg:d.g<W.gs.length)(hm:1≤(W.g d.g).n∧(W.g d.g).n≤16)(ok:xV W d.g d.x d.dr d.go)(h:d.x.1=9):yS w0 p T d W:=by
 unfold yS;refine⟨130,fun w=>by rw[h];kernel_rfl,fun _ _=>by kernel_rfl,fun R' w' hD=>?_⟩
 have e:zT W d.g d.x d.dr d.go=ZD W [] d.g d.x:=by unfold zT;simp[h]
 rw[e];exact MU hD hg hm (ok.o9 h)
theorem Fm (w0:World)(p:Nat)(T:List Value)(d:Dq)(W:Wd)(hg:d.g<W.gs.length)(hm:1≤(W.g d.g).n∧(W.g d.g).n≤16)(ok:xV W d.g d.x d.dr d.go)(h:d.x.1=10):yS w0 p T d W:=by
 unfold yS;refine⟨131,fun w=>by rw[h];kernel_rfl,fun _ _=>by kernel_rfl,fun R' w' hD=>?_⟩
 have e:zT W d.g d.x d.dr d.go=Y6 W [] d.g d.x:=by unfold zT;simp[h]
 rw[e];exact Lc hD hg hm (ok.o10 h).1 (ok.o10 h).2
theorem IG (w0:World)(p:Nat)(T:List Value)(d:Dq)(W:Wd)(hg:d.g<W.gs.length)(hm:1≤(W.g d.g).n∧(W.g d.g).n≤16)(ok:xV W d.g d.x d.dr d.go)(h:d.x.1=11):yS w0 p T d W:=by
 unfold yS;refine⟨132,fun w=>by rw[h];kernel_rfl,fun _ _=>by kernel_rfl,fun R' w' hD=>?_⟩
 have e:zT W d.g d.x d.dr d.go=ZK W [] d.g d.x:=by unfold zT;simp[h]
 rw[e];exact Qc hD hg hm (ok.o11 h).1 (ok.o11 h).2.1 (ok.o11 h).2.2
theorem Fc (w0:World)(p:Nat)(T:List Value)(d:Dq)(W:Wd)(hg:d.g<W.gs.length)(hm:1≤(W.g d.g).n∧(W.g d.g).n≤16)(ok:xV W d.g d.x d.dr d.go)(h:d.x.1=13):yS w0 p T d W:=by
 unfold yS;refine⟨134,fun w=>by rw[h];kernel_rfl,fun _ _=>by kernel_rfl,fun R' w' hD=>?_⟩
 have e:zT W d.g d.x d.dr d.go=xW W [] d.g d.x:=by unfold zT;simp[h]
 rw[e];exact Tp hD hg hm (ok.o13 (.inl h)).1 (ok.o13 (.inl h)).2
theorem Fh (w0:World)(p:Nat)(T:List Value)(d:Dq)(W:Wd)(hg:d.g<W.gs.length)(hm:1≤(W.g d.g).n∧(W.g d.g).n≤16)(ok:xV W d.g d.x d.dr d.go)(h:d.x.1=14):yS w0 p T d W:=by
 unfold yS;refine⟨134,fun w=>by rw[h];kernel_rfl,fun _ _=>by kernel_rfl,fun R' w' hD=>?_⟩
 have e:zT W d.g d.x d.dr d.go=xW W [] d.g d.x:=by unfold zT;simp[h]
 rw[e];exact Tp hD hg hm (ok.o13 (.inr h)).1 (ok.o13 (.inr h)).2
theorem IE (w0:World)(p:Nat)(T:List Value)(d:Dq)(W:Wd)(hg:d.g<W.gs.length)(hm:1≤(W.g d.g).n∧(W.g d.g).n≤16)(ok:xV W d.g d.x d.dr d.go)(h:d.x.1=15):yS w0 p T d W:=by
 unfold yS;refine⟨135,fun w=>by rw[h];kernel_rfl,fun _ _=>by kernel_rfl,fun R' w' hD=>?_⟩
 have e:zT W d.g d.x d.dr d.go=xN W [] d.x:=by unfold zT;simp[h]
 rw[e];exact QL hD (ok.o15 h)
theorem I5 (w0:World)(p:Nat)(T:List Value)(d:Dq)(W:Wd)(hg:d.g<W.gs.length)(hm:1≤(W.g d.g).n∧(W.g d.g).n≤16)(ok:xV W d.g d.x d.dr d.go)(h:d.x.1=16):yS w0 p T d W:=by
 unfold yS;refine⟨136,fun w=>by rw[h];kernel_rfl,fun _ _=>by kernel_rfl,fun R' w' hD=>?_⟩
 have e:zT W d.g d.x d.dr d.go=Zv W [] d.g d.x d.dr d.go:=by unfold zT;simp[h]
 rw[e];exact SJ hD hg hm (ok.o16 h)
theorem G5 (w0:World)(p:Nat)(T:List Value)(d:Dq)(W:Wd)(hg:d.g<W.gs.length)(hm:1≤(W.g d.g).n∧(W.g d.g).n≤16)(ok:xV W d.g d.x d.dr d.go)(h:d.x.1=17):yS w0 p T d W:=by
 unfold yS;refine⟨137,fun w=>by rw[h];kernel_rfl,fun _ _=>by kernel_rfl,fun R' w' hD=>?_⟩
 have e:zT W d.g d.x d.dr d.go=Yh W [] d.g d.x:=by unfold zT;simp[h]
 rw[e];exact Qu hD hg hm (ok.o17 h).1 (ok.o17 h).2.1 (ok.o17 h).2.2.1 (ok.o17 h).2.2.2
theorem IU (w0:World)(p:Nat)(T:List Value)(d:Dq)(W:Wd)(hg:d.g<W.gs.length)(hm:1≤(W.g d.g).n∧(W.g d.g).n≤16)(ok:xV W d.g d.x d.dr d.go)(h:d.x.1=18):yS w0 p T d W:=by
 unfold yS;refine⟨138,fun w=>by rw[h];kernel_rfl,fun _ _=>by kernel_rfl,fun R' w' hD=>?_⟩
 have e:zT W d.g d.x d.dr d.go=ZR W [] d.g d.x:=by unfold zT;simp[h]
 rw[e];exact MJ hD hg hm (ok.o18 h).1 (ok.o18 h).2.1 (ok.o18 h).2.2
theorem IV (w0:World)(p:Nat)(T:List Value)(d:Dq)(W:Wd)(hg:d.g<W.gs.length)(hm:1≤(W.g d.g).n∧(W.g d.g).n≤16)(ok:xV W d.g d.x d.dr d.go)(h:d.x.1=19):yS w0 p T d W:=by
 unfold yS;refine⟨139,fun w=>by rw[h];kernel_rfl,fun _ _=>by kernel_rfl,fun R' w' hD=>?_⟩
 have e:zT W d.g d.x d.dr d.go=xA W [] d.g d.x:=by unfold zT;simp[h]
 rw[e];exact SM hD hg hm (ok.o19 h).1 (ok.o19 h).2.1 (ok.o19 h).2.2.1 (ok.o19 h).2.2.2
theorem J9 (w0:World)(p:Nat)(T:List Value)(d:Dq)(W:Wd)(hg:d.g<W.gs.length)(hm:1≤(W.g d.g).n∧(W.g d.g).n≤16)(ok:xV W d.g d.x d.dr d.go)(h:d.x.1=20):yS w0 p T d W:=by
 unfold yS;refine⟨140,fun w=>by rw[h];kernel_rfl,fun _ _=>by kernel_rfl,fun R' w' hD=>?_⟩
 have e:zT W d.g d.x d.dr d.go=ZE W [] d.g d.x:=by unfold zT;simp[h]
 rw[e];exact NI hD hg hm (ok.o20 h).1 (ok.o20 h).2
theorem Gv (w0:World)(p:Nat)(T:List Value)(d:Dq)(W:Wd)(hg:d.g<W.gs.length)(hm:1≤(W.g d.g).n∧(W.g d.g).n≤16)(ok:xV W d.g d.x d.dr d.go)(h:d.x.1=21):yS w0 p T d W:=by
 unfold yS;refine⟨141,fun w=>by rw[h];kernel_rfl,fun _ _=>by kernel_rfl,fun R' w' hD=>?_⟩
 have e:zT W d.g d.x d.dr d.go=⟨W.put d.g d.x.2.1 d.dr,[],none⟩:=by unfold zT;simp[h]
 rw[e];exact MQ hD hg hm (ok.o21 h)
theorem HU (w0:World)(p:Nat)(T:List Value)(d:Dq)(W:Wd)(hg:d.g<W.gs.length)(hm:1≤(W.g d.g).n∧(W.g d.g).n≤16)(ok:xV W d.g d.x d.dr d.go)(h:d.x.1=12):yS w0 p T d W:=by
 unfold yS;refine⟨133,fun w=>by rw[h];kernel_rfl,fun _ _=>by kernel_rfl,fun R' w' hD=>?_⟩
 have e:zT W d.g d.x d.dr d.go=⟨W,[],none⟩:=by unfold zT;simp[h]
 rw[e];refine(Qt d.q w').mono (fun r w2 hh=>?_)
 obtain⟨rfl,rfl⟩:=hh;exact⟨rfl,hD⟩
theorem Hg (w0:World)(p:Nat)(T:List Value)(d:Dq)(W:Wd)(hg:d.g<W.gs.length)(hm:1≤(W.g d.g).n∧(W.g d.g).n≤16)(ok:xV W d.g d.x d.dr d.go)(h:d.x.1=22):yS w0 p T d W:=by
 unfold yS;refine⟨142,fun w=>by rw[h];kernel_rfl,fun _ _=>by kernel_rfl,fun R' w' hD=>?_⟩
 have e:zT W d.g d.x d.dr d.go=⟨W,[],some d.x.2.1⟩:=by unfold zT;simp[h]
 rw[e];have c3:w'.cell? ⟨d.q,3,none⟩=some (.int .i64 d.x.2.1):=by
  obtain⟨D,ra,rc,hf,ho⟩:=hD;exact(ho.zo 10 rfl 3 _ rfl).1
 refine(JO d.q d.x.2.1 w' c3).mono (fun r w2 hh=>?_)
 obtain⟨rfl,rfl⟩:=hh;exact⟨rfl,hD⟩
theorem KA (w0:World)(p:Nat)(T:List Value)(d:Dq)(W:Wd)(hg:d.g<W.gs.length)(hm:1≤(W.g d.g).n∧(W.g d.g).n≤16)(ok:xV W d.g d.x d.dr d.go):yS w0 p T d W:=by
 obtain⟨h1,h2⟩:=ok.r;have hc:d.x.1=9∨d.x.1=10∨d.x.1=11∨d.x.1=12∨d.x.1=13∨d.x.1=14∨d.x.1=15∨d.x.1=16∨d.x.1=17∨d.x.1=18∨d.x.1=19∨d.x.1=20∨d.x.1=21∨d.x.1=22:=by omega
 rcases hc with h|h|h|h|h|h|h|h|h|h|h|h|h|h
 ·exact FU w0 p T d W hg hm ok h
 ·exact Fm w0 p T d W hg hm ok h
 ·exact IG w0 p T d W hg hm ok h
 ·exact HU w0 p T d W hg hm ok h
 ·exact Fc w0 p T d W hg hm ok h
 ·exact Fh w0 p T d W hg hm ok h
 ·exact IE w0 p T d W hg hm ok h
 ·exact I5 w0 p T d W hg hm ok h
 ·exact G5 w0 p T d W hg hm ok h
 ·exact IU w0 p T d W hg hm ok h
 ·exact IV w0 p T d W hg hm ok h
 ·exact J9 w0 p T d W hg hm ok h
 ·exact Gv w0 p T d W hg hm ok h
 ·exact Hg w0 p T d W hg hm ok h
theorem Wd.LK (W:Wd)(g:Nat):(W.step g).gs.length=W.gs.length:=by unfold Wd.step Wd.ye;simp
theorem Wd.Ed (W:Wd)(g:Nat)(hg:g<W.gs.length):((W.step g).g g).n=(W.g g).n:=by unfold Wd.step;rw[Wd.Yt _ _ _ _ hg];simp
structure Ds (W:Wd) (g:Nat) (dr:Int) (go:Bool):Prop where
 hg:g<W.gs.length
 hm:1≤(W.g g).n∧(W.g g).n≤16
 pc:0≤(W.g g).pc∧(W.g g).pc<1000
 pure:∀x,W.ins g=some x→Zp x (W.g g).o (W.g g).z≠none→WW x
 EF:∀x,W.ins g=some x→Zp x (W.g g).o (W.g g).z=none→xV (W.step g) g x dr go
theorem Dk {w0 w:World}{p:Nat}{T:List Value}{W:Wd}{R:List zy}(q g:Nat)(dr:Int)(go:Bool)(ok:Ds W g dr go)(h:yH w0 w p T ((Yr W q g).ask dr go) W [] R) :
  Calls Tryz.prog 100 #[.pointer (some ⟨q,0,none⟩)] w fun r w'=>r=.returned (.tuple #[])∧yH w0 w' p T ((Yr W q g).ask dr go) (doM W g (W.ins g) dr go).end_ (doM W g (W.ins g) dr go).rd R:=by
 obtain⟨hg,hm,hpc,hpu,hde⟩:=ok;cases hI:W.ins g with
 | none =>
  have ht:((Yr W q g).ask dr go).th=false:=by show(W.ins g).isSome=false;rw[hI];rfl
  exact LH h ht
 | some x =>
  have ht:((Yr W q g).ask dr go).th=true:=by show(W.ins g).isSome=true;rw[hI];rfl
  have hx:((Yr W q g).ask dr go).x=x:=by show(W.ins g).getD (0,0,0,0)=x;rw[hI];rfl
  cases hP:Zp x (W.g g).o (W.g g).z with
  | some z =>
   have hz:Zp ((Yr W q g).ask dr go).x (W.g ((Yr W q g).ask dr go).g).o (W.g ((Yr W q g).ask dr go).g).z=some z:=by rw[hx];exact hP
   have e:doM W g (some x) dr go=⟨W.ye g { W.g g with z:=z },[],none⟩:=by unfold doM;simp[hP]
   rw[e];exact Jl h ht hg hm (by rw[hx];exact hpu x hI (by rw[hP];simp)) hpc hz
  | none =>
   have e:doM W g (some x) dr go=zT (W.step g) g x dr go:=by unfold doM;simp[hP]
   rw[e];have hD:=hde x hI hP;obtain⟨fk,hix,heg,hc⟩:=KA w0 p T ((Yr W q g).ask dr go) (W.step g) (by rw[Wd.LK];exact hg) (by show 1≤((W.step g).g g).n∧((W.step g).g g).n≤16;rw[Wd.Ed _ _ hg];exact hm) (by rw[hx];exact hD)
   rw[hx] at hix hc;exact KO h ht hg hm (by rw[hx];exact⟨hD.r.1,hD.r.2⟩) hpc fk (by rw[hx];exact hix) heg _ (fun R' w' h'=>hc R' w' h')
structure Rp (W:Wd) (x:zS):Prop where
 sel:x.1=16→FH W x
 rnd:x.1=21→1≤x.2.2.1∧x.2.2.1<9223372036854775808
theorem Ic {w0 w:World}{p:Nat}{T:List Value}{d:Dq}{W:Wd}{R:List zy}{F:Nat}{fst cap:Array Value}{Qd:Int→List zy→Prop}{Qp:Ending→List zy→Prop}(h:yH w0 w p T d W [] R)(hgo:d.go=false)(ok:Rp W d.x)
  (en:∀(args:Array Value) (w:World),(callFunc F args).run Tryz.prog w=.ok (.enter F args) w) (hd:1≤xI W d.x→Xq w0 p T W F fst cap (WO d.x) (xI W d.x:Int) R Qd Qp) :
  Calls Tryz.prog 99 #[.pointer (some ⟨d.q,0,none⟩),.func (.func F) fst cap] w fun r w'=>(xI W d.x=0∧r=.returned (.tuple #[])∧yH w0 w' p T d W [] R)∨(1≤xI W d.x∧TS w0 p T d W Qd Qp r w'):=by
 by_cases h1:d.x.1=21
 ·have hB:=ok.rnd h1
  have e:(xI W d.x:Int)=d.x.2.2.1:=by unfold xI;rw[if_pos h1];omega
  have e1:1≤xI W d.x:=by omega
  have ek:WO d.x=4:=by unfold WO;rw[if_pos h1]
  have hd2:=hd e1;rw[e,ek] at hd2;exact(JF h h1 hgo hB en hd2).mono (fun r w' hh=>.inr ⟨e1,hh⟩)
 ·by_cases h2:d.x.1=16
  ·have e:xI W d.x=(enF (goesN W.Ns W.Cs) 0 (W.yA d.x)).length:=by unfold xI;rw[if_neg h1,if_pos h2]
   have ek:WO d.x=3:=by unfold WO;rw[if_neg h1]
   rw[e,ek] at hd;rw[e];exact IC h h2 (ok.sel h2) _ rfl en (fun h3 _=>hd h3)
  ·have e:xI W d.x=0:=by unfold xI;rw[if_neg h1,if_neg h2]
   refine(De h (.func (.func F) fst cap) h1 h2).mono (fun r w' hh=>.inl ⟨e,hh.1,?_⟩)
   rw[hh.2];exact h
theorem Tw {W:Wd}{x:zS}(ok:Rp W x)(h:xI W x=0)(v:Int):xE W x v=(0,false):=by
 unfold xI at h;unfold xE;split at h
 ·rename_i h1;have:=ok.rnd h1;omega
 ·rename_i h1
  rw[if_neg h1];split at h
  ·rename_i h2;rw[if_pos h2,if_pos h]
  ·rename_i h2;rw[if_neg h2]
def Eu (w0:World)(p:Nat)(T:List Value)(W:Wd)(g:Nat)(R:List zy)(Qd:Int→List zy→Prop)(Qp:Ending→List zy→Prop)(r:Ending)(w':World):Prop :=
 (∃v R' D' ra rc,(xI W ((W.ins g).getD (0,0,0,0))=0∧R'=R∨1≤xI W ((W.ins g).getD (0,0,0,0))∧Qd v R') ∧
  r=.returned (.agg #[.bool (zG W g v).2.1,.slice ra (zG W g v).2.2.length rc])∧D'.fits (zG W g v).1∧Own w0 w' (zd 1 ra rc (zG W g v).2.2.length (zr (zG W g v).2.2)::(zh p (zG W g v).1 D' T++R'))) ∨
 (∃D' chain R',r=.panicked chain∧1≤xI W ((W.ins g).getD (0,0,0,0))∧Qp r R'∧D'.fits W∧Own w0 w' (zh p W D' T++R'))
structure Jf (W:Wd) (g:Nat):Prop where
 lets:W.lets (g:Int)
 next:Pv W g
 ask:Rp W ((W.ins g).getD (0,0,0,0))
 CU:∀v,Ds W g (xE W ((W.ins g).getD (0,0,0,0)) v).1 (xE W ((W.ins g).getD (0,0,0,0)) v).2
 after:∀v,g<(zG W g v).1.gs.length∧1≤((zG W g v).1.g g).n∧((zG W g v).1.g g).n≤16
theorem Up {W:Wd}{g:Nat}(h:W.lets (g:Int))(v:Int):zG W g v =
  ((doM W g (W.ins g) (xE W ((W.ins g).getD (0,0,0,0)) v).1 (xE W ((W.ins g).getD (0,0,0,0)) v).2).end_,YV (doM W g (W.ins g) (xE W ((W.ins g).getD (0,0,0,0)) v).1 (xE W ((W.ins g).getD (0,0,0,0)) v).2).end_ g ((W.ins g).getD (0,0,0,0)),(doM W g (W.ins g) (xE W ((W.ins g).getD (0,0,0,0)) v).1 (xE W ((W.ins g).getD (0,0,0,0)) v).2).rd):=by
 unfold zG;rw[if_pos h];rfl
theorem LN {w0 w:World}{p:Nat}{T:List Value}{W:Wd}{D:Wa}{R:List zy}{F:Nat}{fst cap:Array Value}{Qd:Int→List zy→Prop}{Qp:Ending→List zy→Prop}(h:Own w0 w (zh p W D T++R))(hf:D.fits W)(g:Nat)(ok:Jf W g)
  (en:∀(args:Array Value) (w:World),(callFunc F args).run Tryz.prog w=.ok (.enter F args) w) (hd:1≤xI W ((W.ins g).getD (0,0,0,0))→Xq w0 p T W F fst cap (WO ((W.ins g).getD (0,0,0,0))) (xI W ((W.ins g).getD (0,0,0,0)):Int) R Qd Qp) :
  Calls Tryz.prog 85 #[.pointer (some ⟨p,0,none⟩),.int .i64 (g:Int),.func (.func F) fst cap] w fun r w'=>Eu w0 p T W g R Qd Qp r w':=by
 obtain⟨hl,hn,hak,hdo,haf⟩:=ok;obtain⟨x,hx⟩:∃x,x=(W.ins g).getD (0,0,0,0):=⟨_,rfl⟩
 refine(Kr h hf g hl hn (.func (.func F) fst cap)
  (Qa:=fun v go R'=>∃dv,(v,go)=xE W x dv∧(xI W x=0∧R'=R∨1≤xI W x∧Qd dv R'))
  (Qp:=fun r R'=>1≤xI W x∧Qp r R') (fun q b w1 hD=>?_) (fun q v go R' R2 w1 hq hD=>?_) (fun v go R' hq=>?_)).mono (fun r w' hh=>?_)
 ·have hm:=Ic (F:=F) (fst:=fst) (cap:=cap) hD rfl (by show Rp W ((W.ins g).getD (0,0,0,0));exact hak) en (fun h1=>(hd h1).more (zf b [.bool false,.slice none 0 0]))
  refine hm.mono (fun r w' hh=>?_)
  have ex:(Yr W q g).x=x:=hx.symm
  rw[ex] at hh;rcases hh with⟨h0,rfl,h2⟩|⟨h1,⟨v,R2,rfl,⟨R',rfl,hq⟩,h2⟩|⟨ch,R2,rfl,⟨R',rfl,hq⟩,h2⟩⟩
  ·exact .inl ⟨0,false,R,rfl,⟨0,(Tw (by rw[hx];exact hak) h0 0).symm,.inl ⟨h0,rfl⟩⟩,h2⟩
  ·rw[ex] at h2
   exact .inl ⟨_,_,R',rfl,⟨v,rfl,.inr ⟨h1,hq⟩⟩,h2⟩
  ·exact .inr ⟨ch,R',rfl,⟨h1,hq⟩,h2⟩
 ·obtain⟨dv,he,-⟩:=hq
  have ok:=hdo dv;rw[←hx,←he] at ok;exact Dk q g v go ok hD
 ·obtain⟨dv,he,-⟩:=hq
  have ha:=haf dv;rw[Up hl,←hx,←he] at ha;exact ha
 ·rcases hh with⟨v,go,R',D',ra,rc,h1,⟨dv,he,hq⟩,h2,h3⟩|⟨D',ch,R',h1,⟨h2,h3⟩,h4,h5⟩
  ·refine .inl ⟨dv,R',D',ra,rc,by rw[←hx];exact hq,?_⟩
   rw[Up hl,←hx,←he];rw[←hx] at h1;exact⟨h1,h2,h3⟩
  ·exact .inr ⟨D',ch,R',h1,by rw[←hx];exact h2,h3,h4,h5⟩
structure Y0 (nf nc nk nl n:Nat) (x:zS):Prop where
 op:0≤x.1∧x.1≤22
 pure:x.1≤8→WW x
 j7:x.1=7→0≤x.2.1∧x.2.1<(n:Int)
 j8:x.1=8→0≤x.2.2.1∧x.2.2.1<(n:Int)
 o9:x.1=9∨x.1=11→(0≤x.2.1∧x.2.1<(nf:Int))∧(0≤x.2.2.1∧x.2.2.1<8)∧(0≤x.2.2.2∧x.2.2.2<8)
 o10:x.1=10∨x.1=17∨x.1=20→0≤x.2.1∧x.2.1<8
 o13:x.1=13→(0≤x.2.1∧x.2.1<(nc:Int))∧(0≤x.2.2.1∧x.2.2.1<8)
 o14:x.1=14→(0≤x.2.1∧x.2.1<(nc:Int))∧(0≤x.2.2.1∧x.2.2.1<8)∧(0≤x.2.2.2∧x.2.2.2<8)
 o15:x.1=15→0≤x.2.1∧x.2.1<(nc:Int)
 o16:x.1=16→(0≤x.2.1∧1≤x.2.2.1∧x.2.1+x.2.2.1≤(nk:Int))∧(0≤x.2.2.2∧x.2.2.2<8)
 o18:x.1=18∨x.1=19→0≤x.2.1∧x.2.1<(nl:Int)
 o21:x.1=21→(0≤x.2.1∧x.2.1<8)∧1≤x.2.2.1∧x.2.2.1<1099511627776
theorem KL {nf nc nk nl n:Nat}{x:zS}(h0:0≤x.1)(h:goodB nf nc nk (nl:Int) n x=some true):Y0 nf nc nk nl n x:=by
 obtain⟨o,a,b,c⟩:=x;obtain⟨k,rfl⟩:∃k:Nat,o=(k:Int):=⟨o.toNat,by simp only at h0;omega⟩
 have hk:k≤22:=by
  rcases Nat.lt_or_ge 22 k with h1|h1
  ·exfalso
   obtain⟨j,rfl⟩:∃j,k=23+j:=⟨k-23,by omega⟩
   unfold goodB at h;simp only[Int.toNat_natCast] at h;split at h<;>first|omega|cases h
  ·exact h1
 have hkk:k=0∨k=1∨k=2∨k=3∨k=4∨k=5∨k=6∨k=7∨k=8∨k=9∨k=10∨k=11∨k=12∨k=13∨k=14∨k=15∨k=16∨k=17∨k=18∨k=19∨k=20∨k=21∨k=22:=by omega
 clear hk h0;rcases hkk with rfl|rfl|rfl|rfl|rfl|rfl|rfl|rfl|rfl|rfl|rfl|rfl|rfl|rfl|rfl|rfl|rfl|rfl|rfl|rfl|rfl|rfl|rfl
 all_goals
  simp only[goodB,xy,Int.toNat_natCast,Option.some.injEq,Bool.and_eq_true,decide_eq_true_eq,beq_iff_eq] at h;refine⟨?_,fun _=>?_,fun _=>?_,fun _=>?_,fun _=>?_,fun _=>?_,fun _=>?_,fun _=>?_,fun _=>?_,fun _=>?_,fun _=>?_,fun _=>?_⟩
  all_goals (simp only[WW] at *;omega)
structure GW (fs:List (List zS)) (G:Gt):Prop where
 n:1≤G.n∧G.n≤16
 len:G.z.length=G.n*11
 fr:∀i,i<G.n→(0≤G.z.getD (i*11) 0∧G.z.getD (i*11) 0<(fs.length:Int))∧(0≤G.z.getD (i*11+1) 0∧G.z.getD (i*11+1) 0≤((fs.getD (G.z.getD (i*11) 0).toNat []).length:Int))∧0≤G.z.getD (i*11+10) 0∧G.z.getD (i*11+10) 0<8
structure PW (fs:List (List zS)) (ks:List Zc) (nc nl:Nat):Prop where
 f:1≤fs.length∧fs.length≤1000
 fl:∀l∈fs,l.length≤900
 ins:∀l∈fs,∀x∈l,0≤x.1∧goodB fs.length nc ks.length (nl:Int) l.length x=some true
 kl:ks.length≤800
 ck:VT nc ks
 nc:nc≤1000
 nl:nl≤1000
def XZ (W:Wd)(w:Wt):Prop:=(0≤w.1∧w.1<(W.gs.length:Int))∧(W.g w.1.toNat).st=2∧∃x,W.xQ (W.g w.1.toNat).fn ((W.g w.1.toNat).pc-1)=some x∧(x.1=13∨x.1=14∨x.1=16)∧0≤w.2.1∧w.2.1<((W.yA x).length:Int)
def MG (W:Wd)(i:Nat)(g:Int):Prop:=(W.g g.toNat).st=2∧∃x,W.xQ (W.g g.toNat).fn ((W.g g.toNat).pc-1)=some x∧x.1=18∧x.2.1=(i:Int)
def GF (W:Wd)(x:It):Prop:=(0≤x.id∧x.id<(W.gs.length:Int))∧(W.g x.id.toNat).st=3∧(0≤x.at_∧x.at_≤1099511627776)∧0≤x.seq∧x.seq<(W.nx:Int)
def Xf (B:Nat)(W:Wd)(C:Ch):Prop:=C.buf.length≤16∧C.S.length≤B∧C.R.length≤B∧(∀w∈C.S,XZ W w)∧∀w∈C.R,XZ W w
def KU (B:Nat)(W:Wd)(i:Nat)(L:List Int):Prop:=L.length≤B∧(∀g∈L,0≤g∧g<(W.gs.length:Int))∧L.tail.Nodup∧∀g∈L.tail,MG W i g
structure WF (B:Nat) (W:Wd):Prop where
 p:PW W.fs W.ks W.Cs.length W.Ls.length
 ns:W.Ns.length=W.Cs.length∧∀N∈W.Ns,N≤16
 g1:1≤W.gs.length∧W.gs.length≤100
 gw:∀G∈W.gs,GW W.fs G
 cs:∀C∈W.Cs,Xf B W C
 ls:∀i L,W.Ls[i]?=some L→KU B W i L
 hp:W.hp.length≤B∧(W.hp.map (·.id)).Nodup∧(∀x∈W.hp,GF W x)∧XK W.hp
 nx:W.nx≤B
 clock:W.clock≤B
 out:W.out.length≤1000
theorem Xf.mono {B C:Nat}{W:Wd}{c:Ch}(h:Xf B W c)(hb:B≤C):Xf C W c:=⟨h.1,Nat.le_trans h.2.1 hb,Nat.le_trans h.2.2.1 hb,h.2.2.2⟩
theorem WF.mono {B C:Nat}{W:Wd}(h:WF B W)(hb:B≤C):WF C W :=
 ⟨h.p,h.ns,h.g1,h.gw,fun c hc=>(h.cs c hc).mono hb,fun i L hL=>⟨Nat.le_trans (h.ls i L hL).1 hb,(h.ls i L hL).2⟩,⟨Nat.le_trans h.hp.1 hb,h.hp.2⟩,Nat.le_trans h.nx hb,Nat.le_trans h.clock hb,h.out⟩
theorem WF.at {B:Nat}{W:Wd}(h:WF B W){j:Nat}(hj:j<W.gs.length):GW W.fs (W.g j):=h.gw _ (List.mem_of_getElem? (Wd.WS hj))
def Kept (W:Wd)(gs':List Gt):Prop:=W.gs.length≤gs'.length∧∀j,j<W.gs.length→((W.g j).st=2∨(W.g j).st=3)→(gs'.getD j g0).st=(W.g j).st∧(gs'.getD j g0).fn=(W.g j).fn∧(gs'.getD j g0).pc=(W.g j).pc
theorem XZ.kept {W:Wd}{gs':List Gt}{w:Wt}(h:XZ W w)(k:Kept W gs'):XZ { W with gs:=gs' } w:=by
 obtain⟨h1,h2,x,h3,h4⟩:=h;obtain⟨e1,e2,e3⟩:=k.2 w.1.toNat (by omega) (.inl h2)
 refine⟨⟨h1.1,by have:=k.1;show w.1<(gs'.length:Int);omega⟩,by show(gs'.getD w.1.toNat g0).st=2;rw[e1];exact h2,x,?_,h4⟩
 show W.xQ (gs'.getD w.1.toNat g0).fn ((gs'.getD w.1.toNat g0).pc-1)=some x
 rw[e2,e3];exact h3
theorem MG.kept {W:Wd}{gs':List Gt}{i:Nat}{g:Int}(h:MG W i g)(hg:0≤g∧g<(W.gs.length:Int))(k:Kept W gs'):MG { W with gs:=gs' } i g:=by
 obtain⟨h2,x,h3,h4⟩:=h;obtain⟨e1,e2,e3⟩:=k.2 g.toNat (by omega) (.inl h2)
 refine⟨by show(gs'.getD g.toNat g0).st=2;rw[e1];exact h2,x,?_,h4⟩
 show W.xQ (gs'.getD g.toNat g0).fn ((gs'.getD g.toNat g0).pc-1)=some x
 rw[e2,e3];exact h3
theorem GF.kept {W:Wd}{gs':List Gt}{x:It}(h:GF W x)(k:Kept W gs'):GF { W with gs:=gs' } x:=by
 obtain⟨h1,h2,h3⟩:=h;obtain⟨e1,-,-⟩:=k.2 x.id.toNat (by omega) (.inr h2)
 exact⟨⟨h1.1,by have:=k.1;show x.id<(gs'.length:Int);omega⟩,by show(gs'.getD x.id.toNat g0).st=3;rw[e1];exact h2,h3⟩
theorem WF.CZ {B:Nat}{W:Wd}(h:WF B W)(gs':List Gt)(k:Kept W gs')(h2:gs'.length≤100)(h3:∀G∈gs',GW W.fs G):WF B { W with gs:=gs' } :=
 ⟨h.p,h.ns,⟨Nat.le_trans h.g1.1 k.1,h2⟩,h3,
  fun C hC=>⟨(h.cs C hC).1,(h.cs C hC).2.1,(h.cs C hC).2.2.1,fun w hw=>((h.cs C hC).2.2.2.1 w hw).kept k,fun w hw=>((h.cs C hC).2.2.2.2 w hw).kept k⟩,
  fun i L hL=>⟨(h.ls i L hL).1,fun g hg=>⟨((h.ls i L hL).2.1 g hg).1,by have h1:=k.1;have h2:=((h.ls i L hL).2.1 g hg).2;show g<(gs'.length:Int);omega⟩,(h.ls i L hL).2.2.1,fun g hg=>((h.ls i L hL).2.2.2 g hg).kept ((h.ls i L hL).2.1 g (List.mem_of_mem_tail hg)) k⟩,
  ⟨h.hp.1,h.hp.2.1,fun x hx=>(h.hp.2.2.1 x hx).kept k,h.hp.2.2.2⟩,h.nx,h.clock,h.out⟩
theorem mem_set {α:Type}{l:List α}{i:Nat}{x y:α}(h:y∈l.set i x):y∈l∨y=x:=List.mem_or_eq_of_mem_set h
theorem WF.ye {B:Nat}{W:Wd}(h:WF B W){g:Nat}(hs:(W.g g).st≠2∧(W.g g).st≠3){G:Gt}(hG:GW W.fs G):WF B (W.ye g G):=by
 refine h.CZ _ ⟨by simp,fun j hj hst=>?_⟩ (by simpa using h.g1.2) (fun G' hG'=>?_)
 ·have hne:g≠j:=fun e=>by subst e;rcases hst with h1|h1<;>simp_all
  rw[List.getD_eq_getElem?_getD,List.getElem?_set_ne hne,←List.getD_eq_getElem?_getD]
  exact⟨rfl,rfl,rfl⟩
 ·rcases mem_set hG' with h1|h1
  ·exact h.gw _ h1
  ·rw[h1];exact hG
theorem WF.GD {B:Nat}{W:Wd}(h:WF B W){g:Nat}{G:Gt}(hG:GW W.fs G)(e:G.st=(W.g g).st∧G.fn=(W.g g).fn∧G.pc=(W.g g).pc):WF B (W.ye g G):=by
 refine h.CZ _ ⟨by simp,fun j hj hst=>?_⟩ (by simpa using h.g1.2) (fun G' hG'=>?_)
 ·by_cases hne:g=j
  ·subst hne
   rw[List.getD_eq_getElem?_getD,List.getElem?_set_self hj]
   exact e
  ·rw[List.getD_eq_getElem?_getD,List.getElem?_set_ne hne,←List.getD_eq_getElem?_getD]
   exact⟨rfl,rfl,rfl⟩
 ·rcases mem_set hG' with h1|h1
  ·exact h.gw _ h1
  ·rw[h1];exact hG
theorem getD_set_ne {l:List Int}{i j:Nat}{v:Int}(h:i≠j):(l.set i v).getD j 0=l.getD j 0:=by
 rw[List.getD_eq_getElem?_getD,List.getElem?_set_ne h,←List.getD_eq_getElem?_getD]
theorem Vp {l:List Int}{i:Nat}{v:Int}(h:i<l.length):(l.set i v).getD i 0=v:=by
 rw[List.getD_eq_getElem?_getD,List.getElem?_set_self h];rfl
theorem GW.CQ {fs:List (List zS)}{G:Gt}(h:GW fs G)(i k:Nat)(hk:k<8)(v:Int):GW fs { G with z:=G.z.set (i*11+2+k) v }:=by
 refine⟨h.n,by simpa using h.len,fun j hj=>?_⟩
 show(0≤(G.z.set (i*11+2+k) v).getD (j*11) 0∧_)∧_
 simp only
 rw[getD_set_ne (by omega),getD_set_ne (by omega),getD_set_ne (by omega)]
 exact h.fr j hj
theorem Gt.Jo (G:Gt)(k v:Int)(hk:0≤k∧k<8):(G.put k v).fn=G.fn∧(G.put k v).pc=G.pc∧(G.put k v).st=G.st∧(G.put k v).n=G.n:=by
 refine⟨?_,?_,rfl,rfl⟩
 ·show(G.z.set (G.o+2+k.toNat) v).getD G.o 0=G.z.getD G.o 0
  rw[getD_set_ne (by omega)]
 ·show(G.z.set (G.o+2+k.toNat) v).getD (G.o+1) 0=G.z.getD (G.o+1) 0
  rw[getD_set_ne (by omega)]
theorem GW.put {fs:List (List zS)}{G:Gt}(h:GW fs G)(k v:Int)(hk:0≤k∧k<8):GW fs (G.put k v):=h.CQ (G.n-1) k.toNat (by omega) v
theorem WM {W:Wd}{g:Nat}{G:Gt}(h:¬g<W.gs.length):W.ye g G=W:=by
 unfold Wd.ye;rw[List.set_eq_of_length_le (by omega)]
theorem WF.put {B:Nat}{W:Wd}(h:WF B W)(g:Nat)(k v:Int)(hk:0≤k∧k<8):WF B (W.put g k v):=by
 by_cases hg:g<W.gs.length
 ·have e:=Gt.Jo (W.g g) k v hk
  exact h.GD ((h.at hg).put k v hk) ⟨e.2.2.1,e.1,e.2.1⟩
 ·unfold Wd.put;rw[WM hg];exact h
theorem WF.KK {B:Nat}{W:Wd}(h:WF B W)(Cs':List Ch)(hl:Cs'.length=W.Cs.length)(hc:∀C∈Cs',Xf B W C):WF B { W with Cs:=Cs' }:=by
 refine⟨?_,⟨by rw[hl];exact h.ns.1,h.ns.2⟩,h.g1,h.gw,hc,h.ls,h.hp,h.nx,h.clock,h.out⟩
 show PW W.fs W.ks Cs'.length W.Ls.length
 rw[hl];exact h.p
theorem WF.zM {B:Nat}{W:Wd}(h:WF B W)(i:Int){C:Ch}(hC:Xf B W C):WF B (W.zM i C) :=
 h.KK _ (by simp) (fun D hD=>by rcases mem_set hD with h1|h1;exact h.cs _ h1;rw[h1];exact hC)
theorem Xz {g:Int}{l:List Wt}{w:Wt}(h:w∈yL g l):w∈l∧w.1≠g:=by
 unfold yL at h;rw[List.mem_filter] at h;refine⟨h.1,fun e=>?_⟩
 have:=h.2
 rw[e] at this;simp at this
theorem Xf.leave {B:Nat}{W:Wd}{C:Ch}(h:Xf B W C)(g:Int):Xf B W (Pk g C) :=
 ⟨h.1,Nat.le_trans (Tz _ _) h.2.1,Nat.le_trans (Tz _ _) h.2.2.1,fun w hw=>h.2.2.2.1 w (Xz hw).1,fun w hw=>h.2.2.2.2 w (Xz hw).1⟩
theorem WF.leave {B:Nat}{W:Wd}(h:WF B W)(g:Int):WF B (W.leave g) :=
 h.KK _ (by simp) (fun C hC=>by obtain⟨D,hD,rfl⟩:=List.mem_map.1 hC;exact(h.cs D hD).leave g)
theorem WF.TU {B:Nat}{W:Wd}(h:WF B W)(g:Nat)(G:Gt)(hG:GW W.fs G)(hc:∀C∈W.Cs,(∀w∈C.S,w.1≠(g:Int))∧∀w∈C.R,w.1≠(g:Int))(hl:∀(i:Nat) (L:List Int),W.Ls[i]?=some L→(g:Int)∉L.tail)(hh:∀x∈W.hp,x.id≠(g:Int)):WF B (W.ye g G):=by
 have key:∀j:Int,0≤j→j≠(g:Int)→(W.ye g G).g j.toNat=W.g j.toNat:=fun j h0 hj=>by
  show((W.gs.set g G).getD j.toNat g0)=W.gs.getD j.toNat g0
  rw[List.getD_eq_getElem?_getD,List.getElem?_set_ne (by omega),←List.getD_eq_getElem?_getD]
 have hlen:(W.ye g G).gs.length=W.gs.length:=by show(W.gs.set g G).length=_;simp
 have hw:∀w,w.1≠(g:Int)→XZ W w→XZ (W.ye g G) w:=fun w hne hw=>by
  obtain⟨h1,h2,x,h3,h4⟩:=hw;refine⟨by rw[hlen];exact h1,by rw[key _ h1.1 hne];exact h2,x,?_,h4⟩
  show W.xQ ((W.ye g G).g w.1.toNat).fn (((W.ye g G).g w.1.toNat).pc-1)=some x
  rw[key _ h1.1 hne];exact h3
 refine⟨h.p,h.ns,by rw[hlen];exact h.g1,fun G' hG'=>?_,fun C hC=>?_,fun i L hL=>?_,?_,h.nx,h.clock,h.out⟩
 ·rcases mem_set hG' with h1|h1
  ·exact h.gw _ h1
  ·rw[h1];exact hG
 ·obtain⟨a,b,c,d,e⟩:=h.cs C hC
  obtain⟨f1,f2⟩:=hc C hC;exact⟨a,b,c,fun w hw'=>hw w (f1 w hw') (d w hw'),fun w hw'=>hw w (f2 w hw') (e w hw')⟩
 ·obtain⟨a,b,c,d⟩:=h.ls i L hL
  refine⟨a,fun g' hg'=>by rw[hlen];exact b g' hg',c,fun g' hg'=>?_⟩
  have hne:g'≠(g:Int):=fun e=>hl i L hL (by rw[←e];exact hg')
  have h0:=(b g' (List.mem_of_mem_tail hg')).1
  obtain⟨h2,x,h3,h4⟩:=d g' hg';refine⟨by rw[key _ h0 hne];exact h2,x,?_,h4⟩
  show W.xQ ((W.ye g G).g g'.toNat).fn (((W.ye g G).g g'.toNat).pc-1)=some x
  rw[key _ h0 hne];exact h3
 ·refine⟨h.hp.1,h.hp.2.1,fun x hx=>?_,h.hp.2.2.2⟩
  obtain⟨h1,h2,h3⟩:=h.hp.2.2.1 x hx;exact⟨by rw[hlen];exact h1,by rw[key _ h1.1 (hh x hx)];exact h2,h3⟩
theorem WF.Uq {B:Nat}{W:Wd}(h:WF B W){fn pc:Int}{x:zS}(hx:W.xQ fn pc=some x):Y0 W.fs.length W.Cs.length W.ks.length W.Ls.length (W.fs.getD fn.toNat []).length x∧0≤pc∧pc<((W.fs.getD fn.toNat []).length:Int):=by
 unfold Wd.xQ at hx;split at hx
 ·cases hx
 ·rename_i h0
  have hl:=(List.getElem?_eq_some_iff.1 hx).1
  have hm:=List.mem_of_getElem? hx
  have hf:W.fs.getD fn.toNat []∈W.fs:=by
   rw[List.getD_eq_getElem?_getD] at hm ⊢
   cases e:W.fs[fn.toNat]? with
   | none=>rw[e] at hm;simp at hm
   | some l=>exact List.mem_of_getElem? e
  obtain⟨h1,h2⟩:=h.p.ins _ hf x hm;exact⟨KL h1 h2,by omega,by omega⟩
theorem Y0.MP {W:Wd}{n:Nat}{x:zS}(h:Y0 W.fs.length W.Cs.length W.ks.length W.Ls.length n x)(hx:x.1=13∨x.1=14∨x.1=16):R9 W x:=by
 rcases hx with e|e|e
 ·exact .inl e
 ·exact .inr (.inl e)
 ·exact .inr (.inr ⟨e,(h.o16 e).1⟩)
theorem Y0.VK {W:Wd}{n:Nat}{x:zS}(h:Y0 W.fs.length W.Cs.length W.ks.length W.Ls.length n x)(hx:x.1=13∨x.1=14∨x.1=16)(hk:VT W.Cs.length W.ks):VT W.Cs.length (W.yA x):=by
 unfold Wd.yA;rcases hx with e|e|e
 ·rw[if_pos e]
  obtain⟨a,b⟩:=h.o13 e;intro k hk;simp only[List.mem_cons,List.not_mem_nil,or_false] at hk;subst hk
  exact⟨.inr (.inl rfl),a.1,fun _=>a.2,b.1,b.2⟩
 ·rw[if_neg (by omega),if_pos e]
  obtain⟨a,b,-⟩:=h.o14 e;intro k hk;simp only[List.mem_cons,List.not_mem_nil,or_false] at hk;subst hk
  exact⟨.inl rfl,a.1,fun _=>a.2,b.1,b.2⟩
 ·rw[if_neg (by omega),if_neg (by omega)]
  exact fun k hk'=>hk k (List.mem_of_mem_drop (List.mem_of_mem_take hk'))
theorem Y0.JN {W:Wd}{n:Nat}{x:zS}(h:Y0 W.fs.length W.Cs.length W.ks.length W.Ls.length n x)(hx:x.1=13∨x.1=14∨x.1=16):1≤(W.yA x).length∧(W.yA x).length≤W.ks.length+1:=by
 unfold Wd.yA;rcases hx with e|e|e
 ·rw[if_pos e];simp
 ·rw[if_neg (by omega),if_pos e];simp
 ·rw[if_neg (by omega),if_neg (by omega),List.length_take,List.length_drop]
  have:=(h.o16 e).1
  omega
def XF (W:Wd)(w:Wt):Prop:=(0≤w.1∧w.1<(W.gs.length:Int))∧((W.g w.1.toNat).st=2→∃x,W.xQ (W.g w.1.toNat).fn ((W.g w.1.toNat).pc-1)=some x∧(x.1=13∨x.1=14∨x.1=16)∧0≤w.2.1∧w.2.1<((W.yA x).length:Int))
theorem XZ.KW {W:Wd}{w:Wt}(h:XZ W w):XF W w:=⟨h.1,fun _=>h.2.2⟩
theorem WF.lim {B:Nat}{W:Wd}(h:WF B W)(hB:B≤90000):RI 100000 W.Cs:=fun C hC=>⟨by have:=(h.cs C hC).1;omega,by have:=(h.cs C hC).2.1;omega,by have:=(h.cs C hC).2.2.1;omega⟩
theorem WF.M4 {B:Nat}{W:Wd}(h:WF B W){n:Nat}{x:zS}(hx:Y0 W.fs.length W.Cs.length W.ks.length W.Ls.length n x)(ho:x.1=13∨x.1=14∨x.1=16)(w:Wt)(hg:0≤w.1∧w.1<(W.gs.length:Int))(hj:0≤w.2.1∧w.2.1<((W.yA x).length:Int)):Wn W x w:=by
 have hG:=h.at (j:=w.1.toNat) (by omega)
 refine⟨hx.MP ho,by have:=h.p.kl;omega,hg,by have:=h.g1.2;omega,hG.n,hj,fun c hc e=>?_,fun e=>?_⟩
 ·have:=hx.VK ho h.p.ck c hc
  exact⟨this.2.2.2.1,this.2.2.2.2⟩
 ·rcases e with e|e
  ·exact(hx.o14 e).2.2
  ·exact(hx.o16 e).2
theorem WF.IA {B:Nat}{W:Wd}(h:WF B W)(hB:B≤90000){w:Wt}(hw:XF W w):La W w:=by
 refine⟨hw.1,by have:=h.g1.2;omega,fun hs=>?_,h.lim hB,by have:=h.p.nc;omega⟩
 obtain⟨x,h1,h2,h3⟩:=hw.2 hs;obtain⟨h4,h5,h6⟩:=h.Uq h1;have hG:=h.at (j:=w.1.toNat) (by have:=hw.1;omega)
 have hf:=hG.fr ((W.g w.1.toNat).n-1) (by have:=hG.n;omega)
 refine⟨x,h1,h.M4 h4 h2 w hw.1 h3,hf.1.1,?_⟩
 have h7:=hf.2.1.2;have hm:(W.fs.getD (W.g w.1.toNat).fn.toNat []).length≤900:=by
  rw[List.getD_eq_getElem?_getD]
  cases e:W.fs[(W.g w.1.toNat).fn.toNat]? with
  | none=>simp
  | some l=>exact h.p.fl l (List.mem_of_getElem? e)
 have h8:(W.g w.1.toNat).pc≤((W.fs.getD (W.g w.1.toNat).fn.toNat []).length:Int):=h7
 omega
theorem WF.fin {B:Nat}{W:Wd}(h:WF B W){x:zS}{w:Wt}(ok:Wn W x w)(s:Bool):WF B (W.fin x w s):=by
 unfold Wd.fin;have hc:=ok.c ((W.yA x).getD w.2.1.toNat (1,0,0)) (by
  have hj:=ok.j;rw[List.getD_eq_getElem?_getD,List.getElem?_eq_getElem (by omega)]
  exact List.getElem_mem _)
 have h1:WF B (if((W.yA x).getD w.2.1.toNat (1,0,0)).1=0 then W.put w.1.toNat ((W.yA x).getD w.2.1.toNat (1,0,0)).2.2 w.2.2 else W):=by
  split
  ·rename_i e;exact h.put _ _ _ (hc e)
  ·exact h
 simp only
 split
 ·rename_i e;exact h1.put _ _ _ (ok.r (.inr e))
 ·split
  ·rename_i e;exact h1.put _ _ _ (ok.r (.inl e))
  ·exact h1
theorem Qk (W:Wd)(g j:Nat)(k v:Int)(hk:0≤k∧k<8):((W.put g k v).g j).st=(W.g j).st∧((W.put g k v).g j).fn=(W.g j).fn∧((W.put g k v).g j).pc=(W.g j).pc∧((W.put g k v).g j).n=(W.g j).n:=by
 by_cases hg:g<W.gs.length
 ·unfold Wd.put
  rw[Wd.Yt _ _ _ _ hg];split
  ·rename_i e;subst e
   have e:=Gt.Jo (W.g g) k v hk
   exact⟨e.2.2.1,e.1,e.2.1,e.2.2.2⟩
  ·exact⟨rfl,rfl,rfl,rfl⟩
 ·unfold Wd.put;rw[WM hg];exact⟨rfl,rfl,rfl,rfl⟩
theorem FW {W:Wd}{x:zS}{w:Wt}(ok:Wn W x w)(s:Bool)(j:Nat):((W.fin x w s).g j).st=(W.g j).st∧((W.fin x w s).g j).fn=(W.g j).fn∧((W.fin x w s).g j).pc=(W.g j).pc∧((W.fin x w s).g j).n=(W.g j).n:=by
 unfold Wd.fin;have hc:=ok.c ((W.yA x).getD w.2.1.toNat (1,0,0)) (by
  have hj:=ok.j;rw[List.getD_eq_getElem?_getD,List.getElem?_eq_getElem (by omega)]
  exact List.getElem_mem _)
 have tr:∀{A C D:Gt},(A.st=C.st∧A.fn=C.fn∧A.pc=C.pc∧A.n=C.n)→(C.st=D.st∧C.fn=D.fn∧C.pc=D.pc∧C.n=D.n)→(A.st=D.st∧A.fn=D.fn∧A.pc=D.pc∧A.n=D.n):=fun⟨a,b,c,d⟩ ⟨e,f,g,h⟩=>⟨a.trans e,b.trans f,c.trans g,d.trans h⟩
 have h1:∀j,((if((W.yA x).getD w.2.1.toNat (1,0,0)).1=0 then W.put w.1.toNat ((W.yA x).getD w.2.1.toNat (1,0,0)).2.2 w.2.2 else W).g j).st=(W.g j).st∧((if((W.yA x).getD w.2.1.toNat (1,0,0)).1=0 then W.put w.1.toNat ((W.yA x).getD w.2.1.toNat (1,0,0)).2.2 w.2.2 else W).g j).fn=(W.g j).fn∧((if((W.yA x).getD w.2.1.toNat (1,0,0)).1=0 then W.put w.1.toNat ((W.yA x).getD w.2.1.toNat (1,0,0)).2.2 w.2.2 else W).g j).pc=(W.g j).pc∧((if((W.yA x).getD w.2.1.toNat (1,0,0)).1=0 then W.put w.1.toNat ((W.yA x).getD w.2.1.toNat (1,0,0)).2.2 w.2.2 else W).g j).n=(W.g j).n:=fun j=>by
  split
  ·rename_i e;exact Qk _ _ _ _ _ (hc e)
  ·exact⟨rfl,rfl,rfl,rfl⟩
 simp only
 split
 ·rename_i e;exact tr (Qk _ _ _ _ _ (ok.r (.inr e))) (h1 j)
 ·split
  ·rename_i e;exact tr (Qk _ _ _ _ _ (ok.r (.inl e))) (h1 j)
  ·exact h1 j
theorem V6 (W:Wd)(x:zS)(w:Wt)(s:Bool):(W.fin x w s).fs=W.fs∧(W.fin x w s).ks=W.ks∧(W.fin x w s).Cs=W.Cs∧(W.fin x w s).Ls=W.Ls∧(W.fin x w s).hp=W.hp∧(W.fin x w s).gs.length=W.gs.length∧(W.fin x w s).Ns=W.Ns:=by
 unfold Wd.fin Wd.put Wd.ye;simp only
 split<;>split<;>(try split)<;>simp
theorem WF.Vy {B:Nat}{W:Wd}(h:WF B W)(hB:B≤90000)(rd:List Int){w:Wt}(hw:XF W w)(s:Bool) :
  WF B (goOnM W rd w s).1∧(goOnM W rd w s).1.gs.length=W.gs.length∧(goOnM W rd w s).1.fs=W.fs∧(goOnM W rd w s).1.ks=W.ks∧(goOnM W rd w s).1.Cs.length=W.Cs.length∧(goOnM W rd w s).1.Ls.length=W.Ls.length ∧
  (∀j:Nat,(j:Int)≠w.1→((goOnM W rd w s).1.g j).st=(W.g j).st∧((goOnM W rd w s).1.g j).fn=(W.g j).fn∧((goOnM W rd w s).1.g j).pc=(W.g j).pc)∧(((goOnM W rd w s).1.g w.1.toNat).st≠2):=by
 unfold goOnM;simp only
 by_cases hs:(W.g w.1.toNat).st=2
 ·rw[if_pos hs]
  have gk:=h.IA hB hw;obtain⟨x,h1,h2,h3⟩:=hw.2 hs;rw[h1];simp only
  obtain⟨x',h1',ok,-⟩:=gk.ins hs;rw[h1] at h1';cases h1'
  have hf:=h.fin ok s;obtain⟨e1,e2,e3,e4,e5,e6,e7⟩:=V6 W x w s;have hst:=FW ok s;have hl:=hf.leave w.1;have hg:w.1.toNat<W.gs.length:=by have:=hw.1;omega
  have hwn:((w.1.toNat:Nat):Int)=w.1:=by have:=hw.1;omega
  generalize hX:(W.fin x w s).leave w.1=X at *
  have eX:X.gs=(W.fin x w s).gs∧X.fs=W.fs∧X.ks=W.ks∧X.Ls=W.Ls∧X.hp=W.hp∧X.Cs=W.Cs.map (Pk w.1):=by rw[←hX];exact⟨rfl,e1,e2,e4,e5,by show List.map _ _=_;rw[e3]⟩
  have hXg:∀j,X.g j=(W.fin x w s).g j:=fun j=>by unfold Wd.g;rw[eX.1]
  have hXl:X.gs.length=W.gs.length:=by rw[eX.1,e6]
  have hgX:=hl.at (j:=w.1.toNat) (by rw[hXl];exact hg)
  refine⟨?_,by unfold Wd.zQ Wd.ye;simp[hXl],eX.2.1,eX.2.2.1,by show X.Cs.length=_;rw[eX.2.2.2.2.2];simp,by show X.Ls.length=_;rw[eX.2.2.2.1],fun j hj=>?_,?_⟩
  ·refine hl.TU w.1.toNat _ ⟨hgX.n,hgX.len,hgX.fr⟩ (fun C hC=>?_) (fun i L hL hm=>?_) (fun y hy e=>?_)
   ·rw[eX.2.2.2.2.2] at hC
    obtain⟨D,-,rfl⟩:=List.mem_map.1 hC;rw[hwn];exact⟨fun w' hw'=>(Xz hw').2,fun w' hw'=>(Xz hw').2⟩
   ·rw[hwn] at hm
    rw[eX.2.2.2.1] at hL;obtain⟨-,y,hy,hy18,-⟩:=(h.ls i L hL).2.2.2 _ hm
    rw[h1] at hy;cases hy
    omega
   ·rw[eX.2.2.2.2.1] at hy
    rw[hwn] at e;obtain⟨-,h3',-⟩:=h.hp.2.2.1 y hy;rw[e,hs] at h3'
    omega
  ·unfold Wd.zQ
   rw[Wd.Yt _ _ _ _ (by rw[hXl];exact hg),if_neg (by omega),hXg]
   exact⟨(hst j).1,(hst j).2.1,(hst j).2.2.1⟩
  ·unfold Wd.zQ
   rw[Wd.Yt _ _ _ _ (by rw[hXl];exact hg),if_pos rfl]
   simp
 ·rw[if_neg hs]
  exact⟨h,rfl,rfl,rfl,rfl,rfl,fun _ _=>⟨rfl,rfl,rfl⟩,hs⟩
structure YJ (W V:Wd):Prop where
 fs:V.fs=W.fs
 ks:V.ks=W.ks
 Ns:V.Ns=W.Ns
 cl:V.Cs.length=W.Cs.length
 ll:V.Ls.length=W.Ls.length
 gl:W.gs.length≤V.gs.length
theorem YJ.refl (W:Wd):YJ W W:=⟨rfl,rfl,rfl,rfl,rfl,Nat.le_refl _⟩
theorem YJ.trans {A B C:Wd}(h:YJ A B)(k:YJ B C):YJ A C:=⟨k.fs.trans h.fs,k.ks.trans h.ks,k.Ns.trans h.Ns,k.cl.trans h.cl,k.ll.trans h.ll,Nat.le_trans h.gl k.gl⟩
theorem UH {W V:Wd}(h:V.ks=W.ks)(x:zS):V.yA x=W.yA x:=by unfold Wd.yA;rw[h]
theorem KT {W V:Wd}(h:V.fs=W.fs)(fn pc:Int):V.xQ fn pc=W.xQ fn pc:=by unfold Wd.xQ;rw[h]
abbrev Yj (W:Wd) (n:Nat) (x:zS):Prop:=Y0 W.fs.length W.Cs.length W.ks.length W.Ls.length n x
theorem Y0.DV {W V:Wd}{n:Nat}{x:zS}(h:Yj W n x)(f:YJ W V):Yj V n x:=by
 unfold Yj;rw[f.fs,f.cl,f.ks,f.ll];exact h
theorem V8 {B:Nat}{W:Wd}(h:WF B W)(hB:B≤90000)(rd:List Int){w:Wt}(hw:XF W w)(s:Bool):YJ W (goOnM W rd w s).1:=by
 obtain⟨-,h1,h2,h3,h4,h5,-⟩:=h.Vy hB rd hw s;refine⟨h2,h3,?_,h4,h5,by omega⟩
 unfold goOnM;simp only
 split
 ·split
  ·rename_i x hx
   obtain⟨-,-,-,-,-,-,e⟩:=V6 W x w s;exact e
  ·rfl
 ·rfl
theorem Z1 (W:Wd)(i:Int)(C:Ch):YJ W (W.zM i C):=⟨rfl,rfl,rfl,by unfold Wd.zM;simp,rfl,Nat.le_refl _⟩
theorem P0 (W:Wd)(x:zS)(w:Wt)(s:Bool):YJ W (W.fin x w s):=by
 obtain⟨a,b,c,d,e,f,g⟩:=V6 W x w s;exact⟨a,b,g,by rw[c],by rw[d],by omega⟩
theorem Yg (W:Wd)(g:Nat)(G:Gt):YJ W (W.ye g G):=⟨rfl,rfl,rfl,rfl,rfl,by unfold Wd.ye;simp⟩
theorem T3 (W:Wd)(g:Nat)(k v:Int):YJ W (W.put g k v):=Yg _ _ _
theorem WR {W:Wd}{i:Int}(h:0≤i∧i<(W.Cs.length:Int)):W.ch i∈W.Cs:=by
 have e:i=((i.toNat:Nat):Int):=by omega
 rw[e];exact List.mem_of_getElem? (Wd.UY (by omega))
theorem Ry {B:Nat}{W:Wd}{C:Ch}(h:Xf B W C)(N:Nat)(hN:N≤16)(v:Int):Xf B W (mSend N C v).1∧((mSend N C v).2.2.1=true→XZ W (mSend N C v).2.1):=by
 obtain⟨h1,h2,h3,h4,h5⟩:=h;unfold mSend;split
 ·exact⟨⟨h1,h2,h3,h4,h5⟩,fun e=>by cases e⟩
 ·split
  ·rename_i x t e
   rw[e] at h3 h5;refine⟨⟨h1,h2,by simp at h3;show t.length≤B;omega,h4,fun w hw=>h5 w (by simp[hw])⟩,fun _=>h5 x (by simp)⟩
  ·rename_i e
   split
   ·exact⟨⟨by simp;omega,h2,by rw[e];simp,h4,fun w hw=>by simp only[e] at hw;cases hw⟩,fun e=>by cases e⟩
   ·exact⟨⟨h1,h2,h3,h4,h5⟩,fun e=>by cases e⟩
theorem Rs {B:Nat}{W:Wd}{C:Ch}(h:Xf B W C):Xf B W (mRecv C).1∧((mRecv C).2.1.2.2.2=true→XZ W (mRecv C).2.1.2.2.1):=by
 obtain⟨h1,h2,h3,h4,h5⟩:=h;unfold mRecv;split
 ·rename_i x t e
  rw[e] at h2 h4;have ht:t.length≤B:=by simp at h2;omega
  have ht2:∀w∈t,XZ W w:=fun w hw=>h4 w (by simp[hw])
  split
  ·rename_i y b e2
   refine⟨⟨?_,ht,h3,ht2,h5⟩,fun _=>h4 x (by simp)⟩
   have:=congrArg List.length e2
   simp at this;show b.length≤16;omega
  ·exact⟨⟨by simp,ht,h3,ht2,h5⟩,fun _=>h4 x (by simp)⟩
 ·split
  ·rename_i y b e2
   refine⟨⟨?_,by simp,h3,fun w hw=>by simp at hw,h5⟩,fun e=>by cases e⟩
   rw[e2] at h1;simp at h1;show b.length≤16;omega
  ·exact⟨⟨h1,h2,h3,h4,h5⟩,fun e=>by cases e⟩
theorem FT {B:Nat}{W:Wd}(h:WF B W)(i:Nat):W.Ns.getD i 0≤16:=by
 rw[List.getD_eq_getElem?_getD]
 cases e:W.Ns[i]? with
 | none=>simp
 | some N=>exact h.ns.2 N (List.mem_of_getElem? e)
def Y7 (B:Nat)(W:Wd)(d:Dd):Prop:=WF B d.W∧YJ W d.W
theorem WF.send {B:Nat}{W:Wd}(h:WF B W)(hB:B≤90000)(rd:List Int){g:Nat}(hg:g<W.gs.length){n:Nat}{x:zS}(hx:Yj W n x)(ho:x.1=13∨x.1=14∨x.1=16){c:Zc}(hc:c∈W.yA x)(h1:c.1=1){place:Int}(hp:0≤place∧place<((W.yA x).length:Int)) :
  Pf W rd g x c place∧∀d,x9 W rd g x c place=some d→Y7 B W d:=by
 have hk:=hx.VK ho h.p.ck c hc;have c0:0≤c.2.1∧c.2.1<(W.Cs.length:Int):=⟨hk.2.1,hk.2.2.1 (by omega)⟩
 have hC:=h.cs _ (WR c0)
 have hr:=Ry hC (W.Ns.getD c.2.1.toNat 0) (FT h _) ((W.g g).rg c.2.2)
 have hW1:=h.zM c.2.1 hr.1;have hY:∀rd',WF B (if(mSend (W.Ns.getD c.2.1.toNat 0) (W.ch c.2.1) ((W.g g).rg c.2.2)).2.2.1 then goOnM (W.zM c.2.1 (mSend (W.Ns.getD c.2.1.toNat 0) (W.ch c.2.1) ((W.g g).rg c.2.2)).1) rd' (mSend (W.Ns.getD c.2.1.toNat 0) (W.ch c.2.1) ((W.g g).rg c.2.2)).2.1 true else(W.zM c.2.1 (mSend (W.Ns.getD c.2.1.toNat 0) (W.ch c.2.1) ((W.g g).rg c.2.2)).1,rd')).1 ∧
   YJ W (if(mSend (W.Ns.getD c.2.1.toNat 0) (W.ch c.2.1) ((W.g g).rg c.2.2)).2.2.1 then goOnM (W.zM c.2.1 (mSend (W.Ns.getD c.2.1.toNat 0) (W.ch c.2.1) ((W.g g).rg c.2.2)).1) rd' (mSend (W.Ns.getD c.2.1.toNat 0) (W.ch c.2.1) ((W.g g).rg c.2.2)).2.1 true else(W.zM c.2.1 (mSend (W.Ns.getD c.2.1.toNat 0) (W.ch c.2.1) ((W.g g).rg c.2.2)).1,rd')).1:=fun rd'=>by
  split
  ·rename_i e
   have hw:XF (W.zM c.2.1 (mSend (W.Ns.getD c.2.1.toNat 0) (W.ch c.2.1) ((W.g g).rg c.2.2)).1) (mSend (W.Ns.getD c.2.1.toNat 0) (W.ch c.2.1) ((W.g g).rg c.2.2)).2.1:=(hr.2 e).KW
   exact⟨(hW1.Vy hB rd' hw true).1,(Z1 W _ _).trans (V8 hW1 hB rd' hw true)⟩
  ·exact⟨hW1,Z1 W _ _⟩
 have hF:∀rd' w,w.1=(g:Int)→w.2.1=place→Wn (if(mSend (W.Ns.getD c.2.1.toNat 0) (W.ch c.2.1) ((W.g g).rg c.2.2)).2.2.1 then goOnM (W.zM c.2.1 (mSend (W.Ns.getD c.2.1.toNat 0) (W.ch c.2.1) ((W.g g).rg c.2.2)).1) rd' (mSend (W.Ns.getD c.2.1.toNat 0) (W.ch c.2.1) ((W.g g).rg c.2.2)).2.1 true else(W.zM c.2.1 (mSend (W.Ns.getD c.2.1.toNat 0) (W.ch c.2.1) ((W.g g).rg c.2.2)).1,rd')).1 x w:=fun rd' w e1 e2=>by
  obtain⟨y1,y2⟩:=hY rd';exact y1.M4 (hx.DV y2) ho w (by rw[e1];have:=y2.gl;omega) (by rw[UH y2.ks,e2];exact hp)
 refine⟨⟨c0,by have:=h.p.nc;omega,⟨hk.2.2.2.1,hk.2.2.2.2⟩,h.lim hB,fun e=>hW1.IA hB (hr.2 e).KW,fun _=>hF rd _ rfl rfl⟩,fun d hd=>?_⟩
 unfold x9 at hd;simp only at hd
 split at hd
 ·cases hd;exact⟨h,YJ.refl _⟩
 ·split at hd
  ·cases hd
   obtain⟨y1,y2⟩:=hY rd;exact⟨y1.fin (hF rd _ rfl rfl) false,y2.trans (P0 _ _ _ _)⟩
  ·cases hd
theorem WF.recv {B:Nat}{W:Wd}(h:WF B W)(hB:B≤90000)(rd:List Int){g:Nat}(hg:g<W.gs.length){n:Nat}{x:zS}(hx:Yj W n x)(ho:x.1=13∨x.1=14∨x.1=16){c:Zc}(hc:c∈W.yA x)(h1:c.1≠2){place:Int}(hp:0≤place∧place<((W.yA x).length:Int)) :
  Qf W rd g x c place∧∀d,xU W rd g x c place=some d→Y7 B W d:=by
 have hk:=hx.VK ho h.p.ck c hc;have c0:0≤c.2.1∧c.2.1<(W.Cs.length:Int):=⟨hk.2.1,hk.2.2.1 h1⟩
 have hC:=h.cs _ (WR c0)
 have hr:=Rs hC;have hW1:=h.zM c.2.1 hr.1;have hY:∀rd',WF B (if(mRecv (W.ch c.2.1)).2.1.2.2.2 then goOnM (W.zM c.2.1 (mRecv (W.ch c.2.1)).1) rd' (mRecv (W.ch c.2.1)).2.1.2.2.1 false else(W.zM c.2.1 (mRecv (W.ch c.2.1)).1,rd')).1∧YJ W (if(mRecv (W.ch c.2.1)).2.1.2.2.2 then goOnM (W.zM c.2.1 (mRecv (W.ch c.2.1)).1) rd' (mRecv (W.ch c.2.1)).2.1.2.2.1 false else(W.zM c.2.1 (mRecv (W.ch c.2.1)).1,rd')).1:=fun rd'=>by
  split
  ·rename_i e
   have hw:XF (W.zM c.2.1 (mRecv (W.ch c.2.1)).1) (mRecv (W.ch c.2.1)).2.1.2.2.1:=(hr.2 e).KW
   exact⟨(hW1.Vy hB rd' hw false).1,(Z1 W _ _).trans (V8 hW1 hB rd' hw false)⟩
  ·exact⟨hW1,Z1 W _ _⟩
 have hF:∀rd' w,w.1=(g:Int)→w.2.1=place→Wn (if(mRecv (W.ch c.2.1)).2.1.2.2.2 then goOnM (W.zM c.2.1 (mRecv (W.ch c.2.1)).1) rd' (mRecv (W.ch c.2.1)).2.1.2.2.1 false else(W.zM c.2.1 (mRecv (W.ch c.2.1)).1,rd')).1 x w:=fun rd' w e1 e2=>by
  obtain⟨y1,y2⟩:=hY rd';exact y1.M4 (hx.DV y2) ho w (by rw[e1];have:=y2.gl;omega) (by rw[UH y2.ks,e2];exact hp)
 refine⟨⟨c0,by have:=h.p.nc;omega,h.lim hB,fun e=>hW1.IA hB (hr.2 e).KW,fun _=>hF rd _ rfl rfl⟩,fun d hd=>?_⟩
 unfold xU at hd;simp only at hd
 split at hd
 ·cases hd
  obtain⟨y1,y2⟩:=hY rd;exact⟨y1.fin (hF rd _ rfl rfl) _,y2.trans (P0 _ _ _ _)⟩
 ·cases hd
theorem Ov {W:Wd}{x:zS}{place:Int}(hp:0≤place∧place<((W.yA x).length:Int)):(W.yA x).getD place.toNat (1,0,0)∈W.yA x:=by
 rw[List.getD_eq_getElem?_getD,List.getElem?_eq_getElem (by omega)]
 exact List.getElem_mem _
theorem WF.Dx {B:Nat}{W:Wd}(h:WF B W)(hB:B≤90000)(rd:List Int){g:Nat}(hg:g<W.gs.length){n:Nat}{x:zS}(hx:Yj W n x)(ho:x.1=13∨x.1=14∨x.1=16){place:Int}(hp:0≤place∧place<((W.yA x).length:Int))(h2:((W.yA x).getD place.toNat (1,0,0)).1≠2) :
  Tm W rd g x place∧∀d,Zw W rd g x place=some d→Y7 B W d:=by
 have hc:=Ov hp;refine⟨⟨hx.MP ho,by have:=h.p.kl;omega,hp,fun e=>(h.send hB rd hg hx ho hc e hp).1,fun e=>(h.recv hB rd hg hx ho hc h2 hp).1⟩,fun d hd=>?_⟩
 unfold Zw at hd;simp only at hd
 split at hd
 ·rename_i e;exact(h.send hB rd hg hx ho hc e hp).2 d hd
 ·exact(h.recv hB rd hg hx ho hc h2 hp).2 d hd
theorem EK {B:Nat}{W:Wd}{g:Int}(yU:List Int)(i:Nat)(k:Zc)(Cs:List Ch)(h:∀C∈Cs,Xf B W C)(hw:∀v,XZ W (g,(i:Int),v)):∀C∈waF g yU i k Cs,Xf (B+1) W C:=by
 unfold waF;split
 ·rename_i C hC
  obtain⟨h1,h2,h3,h4,h5⟩:=h C (List.mem_of_getElem? hC)
  split
  ·intro D hD
   rcases mem_set hD with e|e
   ·exact(h D e).mono (by omega)
   ·rw[e]
    refine⟨h1,Nat.le_trans h2 (by omega),by simp;omega,h4,fun w hw'=>?_⟩
    simp only[List.mem_append,List.mem_cons,List.not_mem_nil,or_false] at hw'
    rcases hw' with e1|e1
    ·exact h5 w e1
    ·rw[e1];exact hw _
  ·split
   ·intro D hD
    rcases mem_set hD with e|e
    ·exact(h D e).mono (by omega)
    ·rw[e]
     refine⟨h1,by simp;omega,Nat.le_trans h3 (by omega),fun w hw'=>?_,h5⟩
     simp only[List.mem_append,List.mem_cons,List.not_mem_nil,or_false] at hw'
     rcases hw' with e1|e1
     ·exact h4 w e1
     ·rw[e1];exact hw _
   ·exact fun D hD=>(h D hD).mono (by omega)
 ·exact fun D hD=>(h D hD).mono (by omega)
theorem OA {W:Wd}{g:Int}(yU:List Int):∀(ks:List Zc) (i B:Nat) (Cs:List Ch),(∀C∈Cs,Xf B W C)→(∀j v,i≤j→j<i+ks.length→XZ W (g,(j:Int),v))→∀C∈wasF g yU i ks Cs,Xf (B+ks.length) W C
 | [],i,B,Cs,h,_=>by unfold wasF;exact h
 | k::t,i,B,Cs,h,hw=>by
  unfold wasF;have h1:=EK yU i k Cs h (fun v=>hw i v (Nat.le_refl _) (by simp))
  have h2:=OA yU t (i+1) (B+1) _ h1 (fun j v a b=>hw j v (by omega) (by simp;omega))
  rw[List.length_cons,show B+(t.length+1)=B+1+t.length by omega]
  exact h2
structure At (W:Wd) (g:Nat) (x:zS):Prop where
 lt:g<W.gs.length
 st:(W.g g).st=1
 ins:W.xQ (W.g g).fn ((W.g g).pc-1)=some x
theorem WF.zQ {B:Nat}{W:Wd}(h:WF B W){g:Nat}(hg:g<W.gs.length)(hs:(W.g g).st=1)(s:Int):WF B (W.zQ g s) :=
 h.ye (by rw[hs];decide) ⟨(h.at hg).n,(h.at hg).len,(h.at hg).fr⟩
theorem WF.wait {B:Nat}{W:Wd}(h:WF B W){g:Nat}{n:Nat}{x:zS}(ha:At W g x)(hx:Yj W n x)(ho:x.1=13∨x.1=14∨x.1=16):WF (B+W.ks.length+1) (Ww W g x)∧YJ W (Ww W g x):=by
 have h1:=h.zQ ha.lt ha.st 2;have hg2:(W.zQ g 2).g g={ W.g g with st:=2 }:=by unfold Wd.zQ;rw[Wd.Yt _ _ _ _ ha.lt,if_pos rfl]
 have hl:(W.zQ g 2).gs.length=W.gs.length:=by unfold Wd.zQ Wd.ye;simp
 have hcl:=hx.JN ho;have hw:∀j v,0≤j→j<0+(W.yA x).length→XZ (W.zQ g 2) ((g:Int),(j:Int),v):=fun j v _ hj=>by
  refine⟨⟨by simp,by rw[hl];have:=ha.lt;simp;omega⟩,by simp only[Int.toNat_natCast];rw[hg2],x,?_,ho,by simp,by show(j:Int)<((W.yA x).length:Int);omega⟩
  simp only[Int.toNat_natCast];rw[hg2];exact ha.ins
 have h2:=OA (W:=W.zQ g 2) (g:=(g:Int)) (W.g g).yU (W.yA x) 0 B W.Cs h1.cs hw
 have h3:=(h1.mono (C:=B+(W.yA x).length) (by omega)).KK (wasF (g:Int) (W.g g).yU 0 (W.yA x) W.Cs) (Xa _ _ _ _ _) h2
 exact⟨h3.mono (by omega),⟨rfl,rfl,rfl,Xa _ _ _ _ _,rfl,by show W.gs.length≤(W.gs.set g _).length;simp⟩⟩
theorem WF.LI {B:Nat}{W:Wd}(h:WF B W)(hB:B≤80000){n:Nat}{x:zS}(hx:Yj W n x)(ho:x.1=13∨x.1=14∨x.1=16):Vb W x :=
 ⟨hx.MP ho,by have:=h.p.kl;omega,hx.VK ho h.p.ck,⟨B+16,fun C hC=>⟨by have:=(h.cs C hC).1;omega,by have:=(h.cs C hC).2.1;omega,by have:=(h.cs C hC).2.2.1;omega⟩,by omega⟩,by have:=h.p.nc;omega⟩
theorem WF.chan {B:Nat}{W:Wd}(h:WF B W)(hB:B≤80000)(rd:List Int){g:Nat}{n:Nat}{x:zS}(ha:At W g x)(hx:Yj W n x)(ho:x.1=13∨x.1=14):(Tm W rd g x 0∧Vb W x)∧Y7 (B+W.ks.length+1) W (xW W rd g x):=by
 have ho':x.1=13∨x.1=14∨x.1=16:=by omega
 have hcl:=hx.JN ho';have h2:((W.yA x).getD (0:Int).toNat (1,0,0)).1≠2:=by
  unfold Wd.yA;rcases ho with e|e
  ·rw[if_pos e];show(1:Int)≠2;decide
  ·rw[if_neg (by omega),if_pos e];show(0:Int)≠2;decide
 have ht:=h.Dx (by omega) rd ha.lt hx ho' (place:=0) (by omega) h2
 refine⟨⟨ht.1,h.LI hB hx ho'⟩,?_⟩
 unfold xW;cases e:Zw W rd g x 0 with
 | none=>exact h.wait ha hx ho'
 | some d=>exact⟨(ht.2 d e).1.mono (by omega),(ht.2 d e).2⟩
theorem T4 (f:Zc→Bool):∀(l:List Zc) (i:Nat) (v:Int),v∈enF f i l→∃j,∃h:j<l.length,v=((i+j:Nat):Int)∧f l[j]=true
 | [],i,v,h=>by simp[enF] at h
 | k::t,i,v,h=>by
  unfold enF at h;split at h
  ·rename_i e
   simp only[List.mem_cons] at h;rcases h with rfl|h
   ·exact⟨0,by simp,by simp,by simpa using e⟩
   ·obtain⟨j,hj,e1,e2⟩:=T4 f t (i+1) v h
    exact⟨j+1,by simpa using hj,by rw[e1];omega,by simpa using e2⟩
  ·obtain⟨j,hj,e1,e2⟩:=T4 f t (i+1) v h
   exact⟨j+1,by simpa using hj,by rw[e1];omega,by simpa using e2⟩
theorem Q4 {Ns:List Nat}{Cs:List Ch}{k:Zc}(h:goesN Ns Cs k=true):k.1≠2:=by
 unfold goesN at h;split at h
 ·split at h
  ·omega
  ·split at h
   ·omega
   ·cases h
 ·cases h
theorem Uv {W:Wd}{x:zS}{d:Int}(hx:x.1=16)(h:(xE W x d).2=true):(0≤(xE W x d).1∧(xE W x d).1<((W.yA x).length:Int))∧((W.yA x).getD (xE W x d).1.toNat (1,0,0)).1≠2:=by
 unfold xE at h ⊢
 rw[if_neg (by omega),if_pos hx] at h ⊢
 split at h
 ·cases h
 ·rename_i h0
  rw[if_neg h0];simp only
  obtain⟨b,hb⟩:∃b,b=ZL ((enF (goesN W.Ns W.Cs) 0 (W.yA x)).length:Int) d:=⟨_,rfl⟩
  have hb2:0≤b∧b<((enF (goesN W.Ns W.Cs) 0 (W.yA x)).length:Int):=by
   rw[hb];unfold ZL;split<;>split<;>omega
  rw[←hb];have hm:(enF (goesN W.Ns W.Cs) 0 (W.yA x)).getD b.toNat 0∈enF (goesN W.Ns W.Cs) 0 (W.yA x):=by
   rw[List.getD_eq_getElem?_getD,List.getElem?_eq_getElem (by omega)]
   exact List.getElem_mem _
  obtain⟨j,hj,e1,e2⟩:=T4 _ _ _ _ hm;rw[e1];refine⟨by omega,?_⟩
  rw[Nat.zero_add,Int.toNat_natCast,List.getD_eq_getElem?_getD,List.getElem?_eq_getElem hj]
  exact Q4 e2
theorem WF.choose {B:Nat}{W:Wd}(h:WF B W)(hB:B≤80000){g:Nat}{n:Nat}{x:zS}(ha:At W g x)(hx:Yj W n x)(ho:x.1=16){dr:Int}{go:Bool}(hd:go=true→(0≤dr∧dr<((W.yA x).length:Int))∧((W.yA x).getD dr.toNat (1,0,0)).1≠2) :
  Ug W g x dr go∧Y7 (B+W.ks.length+1) W (Zv W [] g x dr go):=by
 have ho':x.1=13∨x.1=14∨x.1=16:=by omega
 refine⟨⟨hx.MP ho',by have:=h.p.kl;omega,fun e=>(h.Dx (by omega) [] ha.lt hx ho' (hd e).1 (hd e).2).1,fun _=>h.LI hB hx ho',(hx.o16 ho).2⟩,?_⟩
 unfold Zv;split
 ·rename_i e
  have ht:=h.Dx (by omega) [] ha.lt hx ho' (hd e).1 (hd e).2
  cases e2:Zw W [] g x dr with
  | none=>exact⟨h.mono (by omega),YJ.refl _⟩
  | some d=>exact⟨(ht.2 d e2).1.mono (by omega),(ht.2 d e2).2⟩
 ·split
  ·exact h.wait ha hx ho'
  ·exact⟨(h.put g x.2.2.2 (UO 0 (W.yA x)) (hx.o16 ho).2).mono (by omega),T3 _ _ _ _⟩
theorem XF.Vy {B:Nat}{W:Wd}(h:WF B W)(hB:B≤90000)(rd:List Int){w:Wt}(hw:XF W w)(s:Bool){v:Wt}(hv:XF W v):XF (goOnM W rd w s).1 v:=by
 obtain⟨h1,h2,h3,h4,h5,h6,h7,h8⟩:=h.Vy hB rd hw s;refine⟨by rw[h2];exact hv.1,fun hs=>?_⟩
 by_cases e:v.1=w.1
 ·rw[e] at hs;exact absurd hs h8
 ·obtain⟨a,b,c⟩:=h7 v.1.toNat (by have:=hv.1;omega)
  rw[a] at hs;obtain⟨x,k1,k2,k3⟩:=hv.2 hs;exact⟨x,by rw[b,c,KT h3];exact k1,k2,by rw[UH h4];exact k3⟩
theorem WF.UW {B:Nat}:∀(l:List Wt) (W:Wd),WF B W→B≤90000→∀(rd:List Int),(∀w∈l,XF W w)→WF B (goOnsM W rd l).1∧YJ W (goOnsM W rd l).1∧∀v,XF W v→XF (goOnsM W rd l).1 v
 | [],W,h,_,rd,_=>⟨h,YJ.refl _,fun _ hv=>hv⟩
 | r::t,W,h,hB,rd,hw=>by
  have hr:=hw r (by simp)
  have h1:=(h.Vy hB rd hr false).1
  have hf:=V8 h hB rd hr false;obtain⟨a,b,c⟩:=WF.UW t (goOnM W rd r false).1 h1 hB (goOnM W rd r false).2 (fun v hv=>XF.Vy h hB rd hr false (hw v (by simp[hv])))
  exact⟨a,hf.trans b,fun v hv=>c v (XF.Vy h hB rd hr false hv)⟩
theorem WF.close {B:Nat}{W:Wd}(h:WF B W)(hB:B≤90000){n:Nat}{x:zS}(hx:Yj W n x)(ho:x.1=15)(rd:List Int):T6 W x∧Y7 B W (xN W rd x):=by
 have c0:=hx.o15 ho;have hC:=h.cs _ (WR c0)
 have hW1:=h.zM x.2.1 (C:=⟨(W.ch x.2.1).buf,[],[],true⟩) ⟨hC.1,by simp,by simp,fun w hw=>by simp at hw,fun w hw=>by simp at hw⟩
 have hR:∀w∈(W.ch x.2.1).R,XF (W.zM x.2.1 ⟨(W.ch x.2.1).buf,[],[],true⟩) w:=fun w hw=>(hC.2.2.2.2 w hw).KW
 refine⟨⟨c0,by have:=h.p.nc;omega,by have:=hC.2.2.1;omega,fun _ _ i hi=>?_⟩,?_⟩
 ·obtain⟨a,b,c⟩:=WF.UW ((W.ch x.2.1).R.take i) _ hW1 hB [] (fun w hw=>hR w (List.mem_of_mem_take hw))
  exact a.IA hB (c _ (hR _ (List.getElem_mem _)))
 ·unfold xN
  simp only
  split
  ·exact⟨h,YJ.refl _⟩
  ·split
   ·obtain⟨a,b,c⟩:=WF.UW (W.ch x.2.1).R _ hW1 hB rd hR
    exact⟨a,(Z1 W _ _).trans b⟩
   ·exact⟨hW1,Z1 W _ _⟩
theorem W7 {l m:List Int}{i:Nat}(h:i<l.length):(l++m).getD i 0=l.getD i 0:=by
 rw[List.getD_eq_getElem?_getD,List.getElem?_append_left h,←List.getD_eq_getElem?_getD]
theorem Ve {l m:List Int}{i:Nat}(h:l.length≤i):(l++m).getD i 0=m.getD (i-l.length) 0:=by
 rw[List.getD_eq_getElem?_getD,List.getElem?_append_right h,←List.getD_eq_getElem?_getD]
theorem WZ {l:List Int}{n i:Nat}(h:i<n):(l.take n).getD i 0=l.getD i 0:=by
 rw[List.getD_eq_getElem?_getD,List.getElem?_take,if_pos h,←List.getD_eq_getElem?_getD]
theorem GW.new {fs:List (List zS)}{f a c:Int}(st:Int)(hf:0≤f∧f<(fs.length:Int))(hc:0≤c∧c<8):GW fs ⟨st,1,ZM f a c⟩:=by
 refine⟨⟨Nat.le_refl _,by show 1≤16;omega⟩,rfl,fun i hi=>?_⟩
 obtain rfl:i=0:=by simp at hi;exact hi
 exact⟨hf,⟨by show(0:Int)≤0;omega,by show(0:Int)≤_;omega⟩,hc⟩
theorem GW.call {fs:List (List zS)}{G:Gt}(h:GW fs G)(hn:G.n<16){f a c:Int}(hf:0≤f∧f<(fs.length:Int))(hc:0≤c∧c<8):GW fs { G with n:=G.n+1,z:=G.z++ZM f a c }:=by
 refine⟨⟨by simp,by simp;omega⟩,by simp[h.len,ZM];omega,fun i hi=>?_⟩
 simp only at hi ⊢
 have hl:=h.len;by_cases e:i<G.n
 ·rw[W7 (by omega),W7 (by omega),W7 (by omega)]
  exact h.fr i e
 ·obtain rfl:i=G.n:=by omega
  rw[Ve (by omega),Ve (by omega),Ve (by omega),hl,Nat.sub_self,Nat.add_sub_cancel_left,Nat.add_sub_cancel_left]
  exact⟨hf,⟨by show(0:Int)≤0;omega,by show(0:Int)≤_;omega⟩,hc⟩
theorem GW.ret {fs:List (List zS)}{G:Gt}(h:GW fs G)(hn:1<G.n)(v:Int):GW fs { G with n:=G.n-1,z:=(G.z.take ((G.n-1)*11)).set ((G.n-2)*11+2+(G.z.getD (G.o+10) 0).toNat) v }:=by
 have hl:=h.len;have h16:=h.n;have ht:GW fs { G with n:=G.n-1,z:=G.z.take ((G.n-1)*11) }:=by
  refine⟨⟨by simp only;omega,by simp only;omega⟩,by simp only[List.length_take];omega,fun i hi=>?_⟩
  simp only at hi ⊢
  rw[WZ (by omega),WZ (by omega),WZ (by omega)]
  exact h.fr i (by omega)
 have hf:=(h.fr (G.n-1) (by omega)).2.2
 exact ht.CQ (G.n-2) (G.z.getD (G.o+10) 0).toNat (by show(G.z.getD ((G.n-1)*11+10) 0).toNat<8;omega) v
theorem GW.place {fs:List (List zS)}{G:Gt}(h:GW fs G)(v:Int)(hv:0≤v∧v≤((fs.getD G.fn.toNat []).length:Int)):GW fs { G with z:=G.z.set (G.o+1) v }:=by
 refine⟨h.n,by simpa using h.len,fun i hi=>?_⟩
 simp only at hi ⊢
 have hl:=h.len;unfold Gt.fn Gt.o at *;rw[getD_set_ne (i:=(G.n-1)*11+1) (j:=i*11) (by omega),getD_set_ne (i:=(G.n-1)*11+1) (j:=i*11+10) (by omega)]
 obtain⟨a,b,c⟩:=h.fr i hi;refine⟨a,?_,c⟩
 by_cases e:i=G.n-1
 ·subst e
  rw[Vp (by omega)]
  exact hv
 ·rw[getD_set_ne (by omega)]
  exact b
theorem WF.zN {B:Nat}{W:Wd}(h:WF B W)(Ls':List (List Int))(hl:Ls'.length=W.Ls.length)(hc:∀(i:Nat) (L:List Int),Ls'[i]?=some L→KU B W i L):WF B { W with Ls:=Ls' }:=by
 refine⟨?_,h.ns,h.g1,h.gw,h.cs,hc,h.hp,h.nx,h.clock,h.out⟩
 show PW W.fs W.ks W.Cs.length Ls'.length
 rw[hl];exact h.p
theorem KU.mono {B C:Nat}{W:Wd}{i:Nat}{L:List Int}(h:KU B W i L)(hb:B≤C):KU C W i L:=⟨Nat.le_trans h.1 hb,h.2⟩
theorem xq {W:Wd}{g:Nat}(hg:g<W.gs.length)(s:Int)(j:Nat):(W.zQ g s).g j=if g=j then{ W.g g with st:=s } else W.g j:=by unfold Wd.zQ;exact Wd.Yt _ _ _ _ hg
theorem xD (W:Wd)(g:Nat)(s:Int):(W.zQ g s).gs.length=W.gs.length:=by unfold Wd.zQ Wd.ye;simp
theorem TZ {W:Wd}{i:Int}(h:0≤i∧i<(W.Ls.length:Int)):W.Ls[i.toNat]?=some (W.lk i):=by
 have e:i=((i.toNat:Nat):Int):=by omega
 have:=Wd.SF (W:=W) (i:=i.toNat) (by omega)
 rw[←e] at this;exact this
theorem WF.lock {B:Nat}{W:Wd}(h:WF B W)(rd:List Int){g:Nat}{n:Nat}{x:zS}(ha:At W g x)(hx:Yj W n x)(ho:x.1=18):Y7 (B+1) W (ZR W rd g x):=by
 have hi:=hx.o18 (.inl ho)
 have hL:=h.ls _ _ (TZ hi)
 have hset:∀(V:Wd),V.Ls=W.Ls→∀(i:Nat) (L:List Int),(W.Ls.set x.2.1.toNat (W.lk x.2.1++[(g:Int)]))[i]?=some L→(i=x.2.1.toNat∧L=W.lk x.2.1++[(g:Int)])∨W.Ls[i]?=some L:=fun V _ i L hh=>by
  by_cases e:i=x.2.1.toNat
  ·subst e
   rw[List.getElem?_set_self (by omega)] at hh
   exact .inl ⟨rfl,by simpa using hh.symm⟩
  ·rw[List.getElem?_set_ne (by omega)] at hh;exact .inr hh
 unfold ZR;simp only
 by_cases e0:W.lk x.2.1=[]
 ·rw[if_pos e0]
  refine⟨(h.mono (C:=B+1) (by omega)).zN _ (by simp) (fun i L hh=>?_),⟨rfl,rfl,rfl,rfl,by simp,Nat.le_refl _⟩⟩
  rcases hset W rfl i L hh with⟨rfl,rfl⟩|hh
  ·rw[e0]
   refine⟨by simp,fun j hj=>?_,by simp,fun j hj=>by simp at hj⟩
   simp at hj;subst hj;exact⟨by omega,by have:=ha.lt;omega⟩
  ·exact(h.ls i L hh).mono (by omega)
 ·rw[if_neg e0]
  have h1:=h.zQ ha.lt ha.st 2;have hne:∀j:Int,(W.g j.toNat).st=2→j.toNat≠g:=fun j hj e=>by rw[e,ha.st] at hj;omega
  have hk:∀(i:Nat) (j:Int),MG W i j→MG (W.zQ g 2) i j:=fun i j ⟨a,y,b,c⟩=>by
   have e:=xq ha.lt 2 j.toNat;rw[if_neg (fun e=>hne j a e.symm)] at e
   refine⟨by rw[e];exact a,y,?_,c⟩
   show W.xQ ((W.zQ g 2).g j.toNat).fn (((W.zQ g 2).g j.toNat).pc-1)=some y
   rw[e];exact b
  refine⟨(h1.mono (C:=B+1) (by omega)).zN _ (by simp[Wd.zQ,Wd.ye]) (fun i L hh=>?_),⟨rfl,rfl,rfl,rfl,by show(List.set _ _ _).length=_;simp,by show W.gs.length≤(List.set _ _ _).length;simp⟩⟩
  rcases hset W rfl i L hh with⟨rfl,rfl⟩|hh
  ·obtain⟨a,b,c,d⟩:=hL
   have et:(W.lk x.2.1++[(g:Int)]).tail=(W.lk x.2.1).tail++[(g:Int)]:=by
    cases e:W.lk x.2.1 with
    | nil=>exact absurd e e0
    | cons a t=>rfl
   refine⟨by simp;omega,fun j hj=>?_,?_,fun j hj=>?_⟩
   ·rw[xD]
    simp only[List.mem_append,List.mem_cons,List.not_mem_nil,or_false] at hj;rcases hj with hj|rfl
    ·exact b j hj
    ·exact⟨by omega,by have:=ha.lt;omega⟩
   ·rw[et,List.nodup_append]
    refine⟨c,by simp,fun j hj k hk'=>?_⟩
    simp at hk';subst hk'
    intro e;have:=(d j hj).1
    rw[e] at this;simp only[Int.toNat_natCast] at this;rw[ha.st] at this;omega
   ·rw[et] at hj
    simp only[List.mem_append,List.mem_cons,List.not_mem_nil,or_false] at hj;rcases hj with hj|rfl
    ·exact hk _ _ (d j hj)
    ·have e:=xq ha.lt 2 g
     rw[if_pos rfl] at e;refine⟨by simp only[Int.toNat_natCast];rw[e],x,?_,ho,by omega⟩
     simp only[Int.toNat_natCast];rw[e];exact ha.ins
  ·obtain⟨a,b,c,d⟩:=h.ls i L hh
   exact⟨by omega,by rw[xD];exact b,c,fun j hj=>hk _ _ (d j hj)⟩
theorem WF.unlock {B:Nat}{W:Wd}(h:WF B W)(rd:List Int){g:Nat}{n:Nat}{x:zS}(hx:Yj W n x)(ho:x.1=19):Y7 B W (xA W rd g x):=by
 have hi:=hx.o18 (.inr ho)
 obtain⟨a,b,c,d⟩:=h.ls _ _ (TZ hi)
 have hget:=TZ hi;unfold xA;simp only
 generalize W.lk x.2.1=L at *;cases L with
 | nil=>simp only[xm];rw[if_neg (by decide)];exact⟨h,YJ.refl _⟩
 | cons y t =>
  by_cases e:y=(g:Int)
  ·simp only[xm,gaveL,if_pos e]
   have hset:∀(i:Nat) (L:List Int),(W.Ls.set x.2.1.toNat t)[i]?=some L→(i=x.2.1.toNat∧L=t)∨(i≠x.2.1.toNat∧W.Ls[i]?=some L):=fun i L hh=>by
    by_cases e:i=x.2.1.toNat
    ·subst e
     rw[List.getElem?_set_self (by omega)] at hh
     exact .inl ⟨rfl,by simpa using hh.symm⟩
    ·rw[List.getElem?_set_ne (by omega)] at hh;exact .inr ⟨e,hh⟩
   have h1:WF B { W with Ls:=W.Ls.set x.2.1.toNat t }:=h.zN _ (by simp) (fun i L hh=>by
    rcases hset i L hh with⟨rfl,rfl⟩|⟨-,hh⟩
    ·refine⟨by simp at a;omega,fun j hj=>b j (by simp[hj]),?_,fun j hj=>d j (List.mem_of_mem_tail hj)⟩
     exact(show L.Nodup from by simpa using c).sublist (List.tail_sublist L)
    ·exact h.ls i L hh)
   have hf:YJ W { W with Ls:=W.Ls.set x.2.1.toNat t }:=⟨rfl,rfl,rfl,rfl,by simp,Nat.le_refl _⟩
   rw[if_pos trivial];split
   ·exact⟨h1,hf⟩
   ·rename_i e1
    cases t with
    | nil=>exact absurd rfl e1
    | cons z s =>
     simp only[List.headD_cons] at e1 ⊢
     obtain⟨z0,z1⟩:=b z (by simp)
     obtain⟨d1,y',d2,d3,d4⟩:=d z (by simp)
     have hzn:((z.toNat:Nat):Int)=z:=by omega
     have hgz:=h.at (j:=z.toNat) (by omega)
     refine⟨h1.TU z.toNat _ ⟨hgz.n,hgz.len,hgz.fr⟩ (fun C hC=>?_) (fun i L hh hm=>?_) (fun it hit e2=>?_),hf.trans (Yg _ _ _)⟩
     ·rw[hzn]
      obtain⟨-,-,-,k1,k2⟩:=h.cs C hC;refine⟨fun w hw e2=>?_,fun w hw e2=>?_⟩
      ·obtain⟨-,-,x2,k3,k4,-⟩:=k1 w hw
       rw[e2,d2] at k3;cases k3;omega
      ·obtain⟨-,-,x2,k3,k4,-⟩:=k2 w hw
       rw[e2,d2] at k3;cases k3;omega
     ·rw[hzn] at hm
      rcases hset i L hh with⟨rfl,rfl⟩|⟨e3,hh⟩
      ·simp only[List.tail_cons] at hm c
       exact(List.nodup_cons.1 c).1 hm
      ·obtain⟨-,x2,k3,-,k4⟩:=(h.ls i L hh).2.2.2 _ hm
       rw[d2] at k3;cases k3;omega
     ·rw[hzn] at e2
      obtain⟨-,k,-⟩:=h.hp.2.2.1 it hit;rw[e2,d1] at k;omega
  ·simp only[xm,if_neg e]
   rw[if_neg (by decide)];exact⟨h,YJ.refl _⟩
theorem WF.sleep {B:Nat}{W:Wd}(h:WF B W)(hB:B≤80000)(rd:List Int){g:Nat}{x:zS}(ha:At W g x):Y7 (B+1) W (Yh W rd g x):=by
 unfold Yh;simp only
 obtain⟨r,hr⟩:∃r,r=if 1048576<(W.g g).rg x.2.1 then 1048576 else(W.g g).rg x.2.1:=⟨_,rfl⟩
 rw[←hr];have hr2:r≤1048576:=by rw[hr];split<;>omega
 clear hr;by_cases h0:r≤0
 ·rw[if_pos h0];exact⟨h.mono (by omega),YJ.refl _⟩
 ·rw[if_neg h0]
  have h1:=h.zQ ha.lt ha.st 3;have hno:∀y∈W.hp,y.id≠(g:Int):=fun y hy e=>by
   obtain⟨-,k,-⟩:=h.hp.2.2.1 y hy;rw[e] at k;simp only[Int.toNat_natCast] at k;rw[ha.st] at k;omega
  have hperm:=Tq W.hp ⟨(W.clock:Int)+r,(W.nx:Int),(g:Int)⟩
  refine⟨?_,⟨rfl,rfl,rfl,rfl,rfl,by show W.gs.length≤_;rw[show(W.zQ g 3).gs.length=W.gs.length from xD W g 3];exact Nat.le_refl _⟩⟩
  refine⟨h1.p,h1.ns,h1.g1,h1.gw,fun C hC=>(h1.cs C hC).mono (by omega),fun i L hL=>(h1.ls i L hL).mono (by omega),⟨?_,?_,fun y hy=>?_,Nw h.hp.2.2.2⟩,by show W.nx+1≤B+1;have:=h.nx;omega,Nat.le_trans h.clock (by omega),h.out⟩
  ·show(ZX W.hp _).length≤_;rw[Mv];have:=h.hp.1;omega
  ·show((ZX W.hp _).map (·.id)).Nodup
   rw[(hperm.map (·.id)).nodup_iff,List.map_cons,List.nodup_cons]
   refine⟨fun hm=>?_,h.hp.2.1⟩
   obtain⟨y,hy,e⟩:=List.mem_map.1 hm;exact hno y hy e
  ·have hy':=hperm.mem_iff.1 hy
   simp only[List.mem_cons] at hy'
   rcases hy' with rfl|hy'
   ·refine⟨⟨by simp,by rw[show({ W.zQ g 3 with hp:=_,nx:=_ }:Wd).gs.length=W.gs.length from xD W g 3];have:=ha.lt;simp;omega⟩,?_,⟨by simp only;omega,by simp only;have:=h.clock;omega⟩,by simp,by show(W.nx:Int)<((W.nx+1:Nat):Int);omega⟩
    have e:=xq ha.lt 3 g;rw[if_pos rfl] at e;show((W.zQ g 3).g (Int.toNat (g:Int))).st=3
    rw[Int.toNat_natCast,e]
   ·obtain⟨a,b,c,d⟩:=h1.hp.2.2.1 y hy'
    exact⟨a,b,c,d.1,by have:=d.2;show y.seq<((W.nx+1:Nat):Int);have e:(W.zQ g 3).nx=W.nx:=rfl;rw[e] at this;omega⟩
theorem WF.outs {B:Nat}{W:Wd}(h:WF B W)(o:List Int)(ho:o.length≤1000):WF B { W with out:=o }:=⟨h.p,h.ns,h.g1,h.gw,h.cs,h.ls,h.hp,h.nx,h.clock,ho⟩
theorem WF.ends {B:Nat}{W:Wd}(h:WF B W)(e y:Int):WF B { W with en:=e,why:=y }:=⟨h.p,h.ns,h.g1,h.gw,h.cs,h.ls,h.hp,h.nx,h.clock,h.out⟩
theorem WF.end_ {B:Nat}{d:Dd}(h:WF B d.W):WF B d.end_:=by
 unfold Dd.end_;split
 ·exact h
 ·exact h.ends _ _
theorem Gg {W:Wd}{d:Dd}(h:YJ W d.W):YJ W d.end_:=by
 unfold Dd.end_;split
 ·exact h
 ·exact⟨h.fs,h.ks,h.Ns,h.cl,h.ll,h.gl⟩
theorem WF.call {B:Nat}{W:Wd}(h:WF B W)(rd:List Int){g:Nat}{n:Nat}{x:zS}(ha:At W g x)(hx:Yj W n x)(ho:x.1=9):Y7 B W (ZD W rd g x):=by
 obtain⟨a,b,c⟩:=hx.o9 (.inl ho)
 unfold ZD;simp only
 split
 ·exact⟨h,YJ.refl _⟩
 ·exact⟨h.ye (by rw[ha.st];decide) ((h.at ha.lt).call (by omega) a c),Yg _ _ _⟩
theorem WF.ret {B:Nat}{W:Wd}(h:WF B W)(rd:List Int){g:Nat}{x:zS}(ha:At W g x):Y7 B W (Y6 W rd g x):=by
 unfold Y6;simp only
 split
 ·have h1:=h.zQ ha.lt ha.st 4
  exact⟨⟨h1.p,h1.ns,h1.g1,h1.gw,h1.cs,h1.ls,h1.hp,h1.nx,h1.clock,h1.out⟩,⟨rfl,rfl,rfl,rfl,rfl,by show W.gs.length≤_;rw[show({ W.zQ g 4 with en:=_ }:Wd).gs.length=W.gs.length from xD W g 4];exact Nat.le_refl _⟩⟩
 ·exact⟨h.ye (by rw[ha.st];decide) ((h.at ha.lt).ret (by omega) _),Yg _ _ _⟩
theorem WF.spawn {B:Nat}{W:Wd}(h:WF B W)(rd:List Int){g:Nat}{n:Nat}{x:zS}(ha:At W g x)(hx:Yj W n x)(ho:x.1=11):Y7 B W (ZK W rd g x):=by
 obtain⟨a,b,c⟩:=hx.o9 (.inr ho)
 unfold ZK;split
 ·exact⟨h,YJ.refl _⟩
 ·have h1:WF B { W with gs:=W.gs++[⟨1,1,ZM x.2.1 ((W.g g).rg x.2.2.1) 0⟩] }:=h.CZ _ ⟨by simp,fun j hj _=>by
   rw[List.getD_eq_getElem?_getD,List.getElem?_append_left hj,←List.getD_eq_getElem?_getD];exact⟨rfl,rfl,rfl⟩⟩ (by simp;omega) (fun G hG=>by
   simp only[List.mem_append,List.mem_cons,List.not_mem_nil,or_false] at hG;rcases hG with hG|rfl
   ·exact h.gw G hG
   ·exact GW.new 1 a (by omega))
  refine⟨h1.put g x.2.2.2 _ c,?_⟩
  have:=T3 ({ W with gs:=W.gs++[⟨1,1,ZM x.2.1 ((W.g g).rg x.2.2.1) 0⟩] }:Wd) g x.2.2.2 (W.gs.length:Int)
  exact⟨this.fs,this.ks,this.Ns,this.cl,this.ll,Nat.le_trans (by simp) this.gl⟩
theorem WF.emit {B:Nat}{W:Wd}(h:WF B W)(rd:List Int)(g:Nat)(x:zS):Y7 B W (ZE W rd g x):=by
 unfold ZE;split
 ·exact⟨h,YJ.refl _⟩
 ·exact⟨h.outs _ (by simp;omega),⟨rfl,rfl,rfl,rfl,rfl,Nat.le_refl _⟩⟩
theorem Y7.more {B C:Nat}{W:Wd}{d:Dd}(h:Y7 B W d)(hb:B≤C):Y7 C W d:=⟨h.1.mono hb,h.2⟩
theorem WF.EF {B:Nat}{W:Wd}(h:WF B W)(hB:B≤80000){g:Nat}{n:Nat}{x:zS}(ha:At W g x)(hx:Yj W n x)(h9:9≤x.1){dr:Int}{go:Bool}(hd:x.1=16→go=true→(0≤dr∧dr<((W.yA x).length:Int))∧((W.yA x).getD dr.toNat (1,0,0)).1≠2) :
  xV W g x dr go∧Y7 (B+W.ks.length+1) W (zT W g x dr go):=by
 have hG:=h.at ha.lt;have hfr:=(hG.fr ((W.g g).n-1) (by have:=hG.n;omega)).2.2
 refine⟨⟨⟨h9,hx.op.2⟩,fun e=>(hx.o9 (.inl e)).2.1,fun e=>⟨hx.o10 (.inl e),fun _=>hfr⟩,fun e=>⟨(hx.o9 (.inr e)).2.1,(hx.o9 (.inr e)).2.2,h.g1.2⟩,fun e=>(h.chan hB [] ha hx e).1,fun e=>(h.close (by omega) hx e []).1,fun e=>(h.choose hB ha hx e (hd e)).1,
  fun e=>⟨hx.o10 (.inr (.inl e)),by have:=h.hp.1;omega,by have:=h.nx;omega,by have:=h.clock;omega⟩,
  fun e=>⟨hx.o18 (.inl e),fun L hL=>?_,h.p.nl⟩,fun e=>⟨hx.o18 (.inr e),fun L hL=>?_,h.p.nl,by have:=h.g1.2;omega⟩,fun e=>⟨hx.o10 (.inr (.inr e)),h.out⟩,fun e=>(hx.o21 e).1⟩,?_⟩
 ·obtain⟨i,hi⟩:=List.mem_iff_getElem?.1 hL
  have:=(h.ls i L hi).1;omega
 ·obtain⟨i,hi⟩:=List.mem_iff_getElem?.1 hL
  exact(h.ls i L hi).2.1
 ·have hop:x.1=9∨x.1=10∨x.1=11∨x.1=12∨x.1=13∨x.1=14∨x.1=15∨x.1=16∨x.1=17∨x.1=18∨x.1=19∨x.1=20∨x.1=21∨x.1=22:=by have:=hx.op;omega
  rcases hop with e|e|e|e|e|e|e|e|e|e|e|e|e|e
  ·rw[show zT W g x dr go=ZD W [] g x by unfold zT;rw[e];rfl];exact(h.call [] ha hx e).more (by omega)
  ·rw[show zT W g x dr go=Y6 W [] g x by unfold zT;rw[e];rfl];exact(h.ret [] ha).more (by omega)
  ·rw[show zT W g x dr go=ZK W [] g x by unfold zT;rw[e];rfl];exact(h.spawn [] ha hx e).more (by omega)
  ·rw[show zT W g x dr go=⟨W,[],none⟩ by unfold zT;rw[e];rfl];exact⟨h.mono (by omega),YJ.refl _⟩
  ·rw[show zT W g x dr go=xW W [] g x by unfold zT;rw[e];rfl];exact(h.chan hB [] ha hx (.inl e)).2
  ·rw[show zT W g x dr go=xW W [] g x by unfold zT;rw[e];rfl];exact(h.chan hB [] ha hx (.inr e)).2
  ·rw[show zT W g x dr go=xN W [] x by unfold zT;rw[e];rfl];exact(h.close (by omega) hx e []).2.more (by omega)
  ·rw[show zT W g x dr go=Zv W [] g x dr go by unfold zT;rw[e];rfl];exact(h.choose hB ha hx e (hd e)).2
  ·rw[show zT W g x dr go=Yh W [] g x by unfold zT;rw[e];rfl];exact(h.sleep hB [] ha).more (by omega)
  ·rw[show zT W g x dr go=ZR W [] g x by unfold zT;rw[e];rfl];exact(h.lock [] ha hx e).more (by omega)
  ·rw[show zT W g x dr go=xA W [] g x by unfold zT;rw[e];rfl];exact(h.unlock [] hx e).more (by omega)
  ·rw[show zT W g x dr go=ZE W [] g x by unfold zT;rw[e];rfl];exact(h.emit [] g x).more (by omega)
  ·rw[show zT W g x dr go=⟨W.put g x.2.1 dr,[],none⟩ by unfold zT;rw[e];rfl];exact⟨(h.put g x.2.1 dr (hx.o21 e).1).mono (by omega),T3 _ _ _ _⟩
  ·rw[show zT W g x dr go=⟨W,[],some x.2.1⟩ by unfold zT;rw[e];rfl];exact⟨h.mono (by omega),YJ.refl _⟩
theorem Ur {x:zS}{o:Nat}{z:List Int}(h:Zp x o z=none)(h0:0≤x.1):9≤x.1:=by
 rcases Int.lt_or_le x.1 9 with e|e
 ·exfalso
  have:x.1=0∨x.1=1∨x.1=2∨x.1=3∨x.1=4∨x.1=5∨x.1=6∨x.1=7∨x.1=8:=by omega
  unfold Zp at h;rcases this with e|e|e|e|e|e|e|e|e<;>simp[e] at h
 ·exact e
theorem VN {x:zS}{o:Nat}{z z':List Int}(h:Zp x o z=some z')(h0:0≤x.1):x.1≤8:=by
 rcases Int.lt_or_le 8 x.1 with e|e
 ·exfalso
  unfold Zp at h;simp only at h
  rw[if_neg (by omega),if_neg (by omega),if_neg (by omega),if_neg (by omega),if_neg (by omega),if_neg (by omega),if_neg (by omega),if_neg (by omega),if_neg (by omega)] at h
  cases h
 ·exact e
theorem GW.pure {fs:List (List zS)}{G:Gt}(h:GW fs G){nc nk nl:Nat}{x:zS}(hx:Y0 fs.length nc nk nl (fs.getD G.fn.toNat []).length x)(hpc:0≤G.pc∧G.pc<((fs.getD G.fn.toNat []).length:Int)){z':List Int}(hz:Zp x G.o G.z=some z'):GW fs { G with z:=z' }:=by
 have h8:=VN hz hx.op.1;have hp:=hx.pure h8;have h1:=h.place (G.pc+1) (by omega)
 have hr:∀(v:Int),0≤x.2.1→x.2.1<8→GW fs { G with z:=(G.z.set (G.o+1) (G.pc+1)).set (G.o+2+x.2.1.toNat) v }:=fun v a b=>h1.CQ (G.n-1) x.2.1.toNat (by omega) v
 have hset:∀v,0≤v∧v≤((fs.getD G.fn.toNat []).length:Int)→GW fs { G with z:=(G.z.set (G.o+1) (G.pc+1)).set (G.o+1) v }:=fun v hv=>by rw[List.set_set];exact h.place v hv
 unfold Zp at hz;simp only at hz
 unfold WW at hp;split at hz
 ·cases hz;exact h1
 split at hz
 ·cases hz;exact hr _ (by omega) (by omega)
 split at hz
 ·cases hz;exact hr _ (by omega) (by omega)
 split at hz
 ·cases hz;exact hr _ (by omega) (by omega)
 split at hz
 ·cases hz;exact hr _ (by omega) (by omega)
 split at hz
 ·cases hz;exact hr _ (by omega) (by omega)
 split at hz
 ·cases hz;exact hr _ (by omega) (by omega)
 split at hz
 ·rename_i e;cases hz;have:=hx.j7 e;exact hset _ (by omega)
 split at hz
 ·rename_i e
  have:=hx.j8 e
  split at hz
  ·cases hz;exact h1
  ·cases hz;exact hset _ (by omega)
 ·cases hz
theorem Gt.Fe (G:Gt)(hl:G.z.length=G.n*11)(hn:1≤G.n)(v:Int):({ G with z:=G.z.set (G.o+1) v }:Gt).fn=G.fn∧({ G with z:=G.z.set (G.o+1) v }:Gt).pc=v:=by
 refine⟨?_,?_⟩
 ·show(G.z.set (G.o+1) v).getD G.o 0=G.z.getD G.o 0
  rw[getD_set_ne (by omega)]
 ·show(G.z.set (G.o+1) v).getD (G.o+1) 0=v
  rw[Vp (by unfold Gt.o;omega)]
theorem WF.step {B:Nat}{W:Wd}(h:WF B W){g:Nat}(hg:g<W.gs.length)(hs:(W.g g).st=1){x:zS}(hx:W.ins g=some x):WF B (W.step g)∧At (W.step g) g x∧YJ W (W.step g):=by
 have hG:=h.at hg;obtain⟨k1,k2,k3⟩:=h.Uq hx;have e:=(W.g g).Fe hG.len hG.n.1 ((W.g g).pc+1)
 have eg:(W.step g).g g={ W.g g with z:=(W.g g).z.set ((W.g g).o+1) ((W.g g).pc+1) }:=by unfold Wd.step;rw[Wd.Yt _ _ _ _ hg,if_pos rfl]
 refine⟨h.ye (by rw[hs];decide) (hG.place _ (by omega)),⟨by unfold Wd.step Wd.ye;simpa using hg,by rw[eg];exact hs,?_⟩,Yg _ _ _⟩
 rw[eg,e.1,e.2];show W.xQ (W.g g).fn ((W.g g).pc+1-1)=some x
 rw[Int.add_sub_cancel];exact hx
theorem WF.CU {B:Nat}{W:Wd}(h:WF B W)(hB:B≤80000){g:Nat}(hl:W.lets (g:Int))(v:Int) :
  Ds W g (xE W ((W.ins g).getD (0,0,0,0)) v).1 (xE W ((W.ins g).getD (0,0,0,0)) v).2 ∧
  Y7 (B+W.ks.length+1) W (doM W g (W.ins g) (xE W ((W.ins g).getD (0,0,0,0)) v).1 (xE W ((W.ins g).getD (0,0,0,0)) v).2):=by
 obtain⟨l1,l2,l3,l4⟩:=hl;simp only[Int.toNat_natCast] at l4;have hg:g<W.gs.length:=by omega
 have hG:=h.at hg;have hf:=hG.fr ((W.g g).n-1) (by have:=hG.n;omega)
 have hm:(W.fs.getD (W.g g).fn.toNat []).length≤900:=by
  rw[List.getD_eq_getElem?_getD]
  cases e:W.fs[(W.g g).fn.toNat]? with
  | none=>simp
  | some l=>exact h.p.fl l (List.mem_of_getElem? e)
 have hpc:0≤(W.g g).pc∧(W.g g).pc≤((W.fs.getD (W.g g).fn.toNat []).length:Int):=hf.2.1
 cases hx:W.ins g with
 | none =>
  refine⟨⟨hg,hG.n,by omega,fun x hx' _=>(by rw[hx] at hx';cases hx'),fun x hx' _=>(by rw[hx] at hx';cases hx')⟩,?_⟩
  exact⟨h.mono (by omega),YJ.refl _⟩
 | some x =>
  obtain⟨k1,k2,k3⟩:=h.Uq hx;obtain⟨s1,s2,s3⟩:=h.step hg l4 hx;simp only[Option.getD_some];have hask:x.1=16→(xE W x v).2=true→(0≤(xE W x v).1∧(xE W x v).1<(((W.step g).yA x).length:Int))∧(((W.step g).yA x).getD (xE W x v).1.toNat (1,0,0)).1≠2:=fun e1 e2=>by
   rw[UH s3.ks];exact Uv e1 e2
  refine⟨⟨hg,hG.n,by omega,fun y hy hp=>?_,fun y hy hp=>?_⟩,?_⟩
  ·rw[hx] at hy;cases hy
   cases e:Zp x (W.g g).o (W.g g).z with
   | none=>exact absurd e hp
   | some z=>exact k1.pure (VN e k1.op.1)
  ·rw[hx] at hy;cases hy
   exact(s1.EF hB s2 (k1.DV s3) (Ur hp k1.op.1) hask).1
  ·unfold doM
   simp only
   split
   ·rename_i z e
    exact⟨(h.ye (by rw[l4];decide) (hG.pure k1 ⟨hpc.1,k3⟩ e)).mono (by omega),Yg _ _ _⟩
   ·rename_i e
    have:=(s1.EF hB s2 (k1.DV s3) (Ur e k1.op.1) hask).2
    rw[s3.ks] at this;exact⟨this.1,s3.trans this.2⟩
theorem WF.exec {B:Nat}{W:Wd}(h:WF B W)(hB:B≤80000)(g v:Int):WF (B+W.ks.length+1) (zG W g v).1∧YJ W (zG W g v).1:=by
 unfold zG;split
 ·rename_i hl
  have e:g=((g.toNat:Nat):Int):=by have:=hl.2.1;omega
  have hl':W.lets ((g.toNat:Nat):Int):=by rw[←e];exact hl
  obtain⟨a,b⟩:=(h.CU hB hl' v).2
  exact⟨a.end_,Gg b⟩
 ·exact⟨h.mono (by omega),YJ.refl _⟩
theorem WF.Eb {B:Nat}{W:Wd}(h:WF B W)(hB:B≤80000){g:Nat}(hl:W.lets (g:Int)):Jf W g:=by
 have hl':=hl;obtain⟨l1,l2,l3,l4⟩:=hl;have hg:g<W.gs.length:=by omega
 have hG:=h.at hg;have hf:=hG.fr ((W.g g).n-1) (by have:=hG.n;omega)
 have hm:(W.fs.getD (W.g g).fn.toNat []).length≤900:=by
  rw[List.getD_eq_getElem?_getD]
  cases e:W.fs[(W.g g).fn.toNat]? with
  | none=>simp
  | some l=>exact h.p.fl l (List.mem_of_getElem? e)
 have hpc:0≤(W.g g).pc∧(W.g g).pc≤((W.fs.getD (W.g g).fn.toNat []).length:Int):=hf.2.1
 have hfn:0≤(W.g g).fn∧(W.g g).fn<(W.fs.length:Int):=hf.1
 refine⟨hl',⟨hg,by have:=h.g1.2;omega,hG.n,hfn,by omega⟩,?_,fun v=>(h.CU hB hl' v).1,fun v=>?_⟩
 ·cases hx:W.ins g with
  | none=>exact⟨fun e=>absurd e (by decide),fun e=>absurd e (by decide)⟩
  | some x =>
   obtain⟨k1,-,-⟩:=h.Uq hx;exact⟨fun e=>⟨k1.MP (.inr (.inr e)),by have:=h.p.kl;omega,k1.VK (.inr (.inr e)) h.p.ck⟩,fun e=>by have:=k1.o21 e;simp only[Option.getD_some] at *;omega⟩
 ·obtain⟨a,b⟩:=h.exec hB (g:Int) v
  have hg':g<(zG W (g:Int) v).1.gs.length:=by have:=b.gl;omega
  exact⟨hg',(a.at hg').n⟩
theorem YS:∀(k:Nat) (l:List It) (now:Int),l.length≤k→((yW l now).1++(yW l now).2).Perm l∧(XK l→XK (yW l now).2)
 | 0,l,now,h=>by
  obtain rfl:l=[]:=List.eq_nil_of_length_eq_zero (by omega)
  rw[YO (by simp)];exact⟨List.Perm.refl _,id⟩
 | k+1,l,now,h=>by
  by_cases c:0<l.length∧(gI l 0).at_≤now
  ·rw[S8 c.1 c.2]
   obtain⟨a,b⟩:=YS k (YI l 0) now (by rw[UD c.1];omega)
   exact⟨(List.Perm.cons _ a).trans (SZ c.1).symm,fun hh=>b (L6 c.1 hh)⟩
  ·rw[YO c];exact⟨List.Perm.refl _,id⟩
theorem SG {B:Nat}:∀(l:List It) (W:Wd),WF B W→(∀x∈l,(0≤x.id∧x.id<(W.gs.length:Int))∧(W.g x.id.toNat).st=3)→(l.map (·.id)).Nodup→(∀x∈l,∀y∈W.hp,y.id≠x.id) →
  WF B (wokeM W l)∧YJ W (wokeM W l)∧(wokeM W l).hp=W.hp∧(wokeM W l).clock=W.clock
 | [],W,h,_,_,_=>⟨h,YJ.refl _,rfl,rfl⟩
 | x::t,W,h,h1,h2,h3=>by
  obtain⟨hx1,hx2⟩:=h1 x (by simp)
  have hg:x.id.toNat<W.gs.length:=by omega
  have hxn:((x.id.toNat:Nat):Int)=x.id:=by omega
  have hG:=h.at hg;have hw:WF B (W.zQ x.id.toNat 1):=h.TU x.id.toNat _ ⟨hG.n,hG.len,hG.fr⟩ (fun C hC=>by
    rw[hxn];obtain⟨-,-,-,k1,k2⟩:=h.cs C hC;exact⟨fun w hw e=>by have:=(k1 w hw).2.1;rw[e,hx2] at this;omega,fun w hw e=>by have:=(k2 w hw).2.1;rw[e,hx2] at this;omega⟩) (fun i L hL hm=>by
    rw[hxn] at hm;have:=((h.ls i L hL).2.2.2 _ hm).1;rw[hx2] at this;omega) (fun y hy=>by rw[hxn];exact h3 x (by simp) y hy)
  rw[List.map_cons,List.nodup_cons] at h2;obtain⟨a,b,c,d⟩:=SG t (W.zQ x.id.toNat 1) hw (fun y hy=>by
    obtain⟨k1,k2⟩:=h1 y (by simp[hy])
    refine⟨by rw[xD];exact k1,?_⟩
    rw[xq hg,if_neg (fun e=>h2.1 (by
     have:y.id=x.id:=by omega
     rw[←this];exact List.mem_map_of_mem (f:=(·.id)) hy))]
    exact k2) h2.2 (fun y hy z hz=>h3 y (by simp[hy]) z hz)
  exact⟨a,(Yg _ _ _).trans b,c,d⟩
theorem WF.tick {B:Nat}{W:Wd}(h:WF B W):WF (B+1) (yO W).1∧YJ W (yO W).1:=by
 unfold yO;split
 ·simp only
  obtain⟨a,b⟩:=YS _ W.hp ((W.clock:Int)+1) (Nat.le_refl _)
  have hall:∀x,x∈(yW W.hp ((W.clock:Int)+1)).1∨x∈(yW W.hp ((W.clock:Int)+1)).2→x∈W.hp:=fun x hx=>a.mem_iff.1 (List.mem_append.2 hx)
  have hnd:=(a.map (·.id)).nodup_iff.2 h.hp.2.1
  rw[List.map_append,List.nodup_append] at hnd;obtain⟨n1,n2,n3⟩:=hnd;have hlen:=a.length_eq;rw[List.length_append] at hlen;have h1:WF (B+1) { W with clock:=W.clock+1,hp:=(yW W.hp ((W.clock:Int)+1)).2 } :=
   ⟨h.p,h.ns,h.g1,h.gw,fun C hC=>(h.cs C hC).mono (by omega),fun i L hL=>(h.ls i L hL).mono (by omega),⟨by show(yW W.hp _).2.length≤_;have:=h.hp.1;omega,n2,fun x hx=>h.hp.2.2.1 x (hall x (.inr hx)),b h.hp.2.2.2⟩,Nat.le_trans h.nx (by omega),by show W.clock+1≤B+1;have:=h.clock;omega,h.out⟩
  obtain⟨c,d,-,-⟩:=SG (yW W.hp ((W.clock:Int)+1)).1 _ h1 (fun x hx=>by
   obtain⟨k1,k2,-⟩:=h.hp.2.2.1 x (hall x (.inl hx));exact⟨k1,k2⟩) n1 (fun x hx y hy e=>n3 x.id (List.mem_map_of_mem (f:=(·.id)) hx) y.id (List.mem_map_of_mem (f:=(·.id)) hy) e.symm)
  exact⟨c,d.fs,d.ks,d.Ns,d.cl,d.ll,d.gl⟩
 ·exact⟨h.mono (by omega),YJ.refl _⟩
theorem TM {fs:List (List zS)}{ks:List Zc}{rooms:List Int}{zN:Nat}(h:PW fs ks rooms.length zN):WF 0 (xu fs ks rooms zN):=by
 refine⟨by unfold xu;simpa using h,⟨by unfold xu;simp,fun N hN=>?_⟩,by unfold xu;simp,fun G hG=>?_,fun C hC=>?_,fun i L hL=>?_,⟨by unfold xu;simp,by unfold xu;simp,fun x hx=>by unfold xu at hx;simp at hx,fun i _ hi=>by unfold xu at hi;simp at hi⟩,by unfold xu;simp,by unfold xu;simp,by unfold xu;simp⟩
 ·obtain⟨z,-,rfl⟩:=List.mem_map.1 hN
  exact Li z
 ·simp only[xu,List.mem_cons,List.not_mem_nil,or_false] at hG
  subst hG;exact GW.new 1 ⟨by omega,by have:=h.f;show(0:Int)<(fs.length:Int);omega⟩ ⟨by omega,by omega⟩
 ·obtain⟨z,-,rfl⟩:=List.mem_map.1 hC
  exact⟨by simp,by simp,by simp,fun w hw=>by simp at hw,fun w hw=>by simp at hw⟩
 ·have hm:L∈List.replicate zN ([]:List Int):=List.mem_of_getElem? hL
  rw[List.mem_replicate] at hm;rw[hm.2];exact⟨by simp,fun g hg=>by simp at hg,by simp,fun g hg=>by simp at hg⟩
section
variable {w0 w:World} {p:Nat} {W:Wd} {D:Wa} {T:List Value} {Y:List zy}
theorem JP (h:Own w0 w (zh p W D T++Y)) :
  Calls Tryz.prog 25 #[.pointer (some ⟨p,0,none⟩)] w fun r w'=>r=.returned (.tuple #[.int .i64 W.en,.int .i64 W.why])∧∃k,w'=w.drewN k:=by
 have p9:=(h.zo 0 rfl 9 _ rfl).1
 have p10:=(h.zo 0 rfl 10 _ rfl).1
 generalize W.en=n at *;generalize W.why=m at *;clear h;go_enter Tryz.func25,Tryz.ntmps25
 go_upto_region 1 with fail
 go_quiet (fail)
 go_wp2;go_ret2
 exact⟨rfl,⟨_,rfl⟩⟩
theorem Lf (h:Own w0 w (zh p W D T++Y))(hl:W.out.length≤1000000) :
  Calls Tryz.prog 21 #[.pointer (some ⟨p,0,none⟩)] w fun r w'=>∃a' c',r=.returned (.slice a' W.out.length c')∧zU 1 w' a' c' W.out.length (zr W.out)∧(∀x∈yf a',w.heap.size≤x)∧Below w.heap.size w w':=by
 have p8:=(h.zo 0 rfl 8 _ rfl).1
 have HC:=Qq (Qo w D.oa W.out.length D.oc (zr W.out) (h.yZ 9 rfl) (by intro u hu;obtain⟨v,-,rfl⟩:=List.mem_map.1 hu;rfl) hl)
 generalize W.out.length=n at *;clear h hl;go_enter Tryz.func21,Tryz.ntmps21
 go_wp2_with fail;refine HC.out.mono ?_
 rintro r w2 ⟨a',c',rfl,h2⟩;have H2:=Qq h2;clear h2;go_wp2;go_ret;exact⟨_,_,rfl,H2.out⟩
end
end Go.Proofs.YtlkjheheofgdgaaGreat
open Go Go.RowKit
namespace Go.Proofs.YtlkjheheofgdgaaGreat
theorem OY:(Tryz.prog.info? 129).map (fun i=>(i.zero,i.size,i.bytes))=some (some (.agg #[.int .i64 0,.int .i64 0,.int .i64 0]),3,24):=by kernel_rfl
theorem Js:(Tryz.prog.info? 86).map (fun i=>(i.zero,i.size,i.bytes))=some (some (.agg #[.int .i64 0,.int .i64 0,.int .i64 0,.int .i64 0]),4,32):=by kernel_rfl
theorem Pa (w:World)(a:Option Addr)(n c:Nat)(cs:List Value)(h:zt w a cs)(hlen:cs.length=n*3)(hnil:a=none→c=0)(hone:∀u∈cs,u.oneCell'=true)(hl:n≤1000000) :
  Calls Tryz.prog 62 #[.slice a n c] w fun r w'=>∃a' c',r=.returned (.slice a' n c')∧zU 3 w' a' c' n cs∧(∀x∈yf a',w.heap.size≤x)∧Below w.heap.size w w':=by
 cases a with
 | none =>
  have hcs:cs=[]:=by
   cases cs with
   | nil=>rfl
   | cons u t=>obtain⟨b,off,hx,-⟩:=h 0 u rfl;cases hx
  subst hcs;obtain rfl:c=0:=hnil rfl
  obtain rfl:n=0:=by simp at hlen;omega
  clear h hone hlen hnil;have he:∀w:World,(binOp .eql 63 (.slice none 0 0) (.slice none 0 0)).run Tryz.prog w=.ok (.bool true) w:=fun _=>rfl
  go_enter Tryz.func62,Tryz.ntmps62
  go_wp2;go_ret;exact⟨none,0,rfl,zU.nil _ _,fun x hx=>by simp[yf] at hx,Below.refl _ _⟩
 | some ad =>
  obtain⟨i0,hi0,hz0,hz1,hz2⟩:=info_parts OY;have Hi:=Qq hi0;clear hi0
  have Hz0:=Qq hz0;clear hz0
  have Hz1:=Qq hz1;clear hz1
  have Hz2:=Qq hz2;clear hz2
  have H:=Qq h;have HN:=Qq hlen;have HO:=Qq hone;clear h hone hlen hnil;have he:∀w:World,(binOp .eql 63 (.slice (some ad) n c) (.slice none 0 0)).run Tryz.prog w=.ok (.bool false) w:=fun _=>rfl
  go_enter Tryz.func62,Tryz.ntmps62
  go_wp2_with (at_builtin;refine yr (m:=n) (n:=0) (cs:=[]) (ds:=cs) rfl _ _ 63 rfl 129 i0 _ Tryz.underlying63 Hi.out Hz0.out Hz1.out Hz2.out rfl (by omega) (by omega) rfl rfl (zU.zero (by simp)) (H.out.below (below_alloc1 _ _)) HN.out HO.out (by omega) ?_)
  intro a1 c1 w1 k1 ch1 f1;have hf:zU 3 w1 a1 c1 n cs∧(∀x∈yf a1,w.heap.size≤x)∧Below w.heap.size w w1:=by
   refine⟨by simpa using k1,fun x hx=>?_,zI.below (below_alloc1 _ _) ch1 (fun x hx=>by simp[yf] at hx;omega)⟩
   rcases f1 x hx with h|h
   ·simp[yf] at h;omega
   ·first|omega|(simp at h;omega)
  have HF:=Qq hf;clear hf k1 ch1 f1;go_wp2;go_ret;exact⟨a1,c1,by simp,HF.out⟩
theorem Px (w:World)(a:Option Addr)(n c:Nat)(cs:List Value)(h:zt w a cs)(hlen:cs.length=n*4)(hnil:a=none→c=0)(hone:∀u∈cs,u.oneCell'=true)(hl:n≤1000000) :
  Calls Tryz.prog 64 #[.slice a n c] w fun r w'=>∃a' c',r=.returned (.slice a' n c')∧zU 4 w' a' c' n cs∧(∀x∈yf a',w.heap.size≤x)∧Below w.heap.size w w':=by
 cases a with
 | none =>
  have hcs:cs=[]:=by
   cases cs with
   | nil=>rfl
   | cons u t=>obtain⟨b,off,hx,-⟩:=h 0 u rfl;cases hx
  subst hcs;obtain rfl:c=0:=hnil rfl
  obtain rfl:n=0:=by simp at hlen;omega
  clear h hone hlen hnil;have he:∀w:World,(binOp .eql 87 (.slice none 0 0) (.slice none 0 0)).run Tryz.prog w=.ok (.bool true) w:=fun _=>rfl
  go_enter Tryz.func64,Tryz.ntmps64
  go_wp2;go_ret;exact⟨none,0,rfl,zU.nil _ _,fun x hx=>by simp[yf] at hx,Below.refl _ _⟩
 | some ad =>
  obtain⟨i0,hi0,hz0,hz1,hz2⟩:=info_parts Js;have Hi:=Qq hi0;clear hi0
  have Hz0:=Qq hz0;clear hz0
  have Hz1:=Qq hz1;clear hz1
  have Hz2:=Qq hz2;clear hz2
  have H:=Qq h;have HN:=Qq hlen;have HO:=Qq hone;clear h hone hlen hnil;have he:∀w:World,(binOp .eql 87 (.slice (some ad) n c) (.slice none 0 0)).run Tryz.prog w=.ok (.bool false) w:=fun _=>rfl
  go_enter Tryz.func64,Tryz.ntmps64
  go_wp2_with (at_builtin;refine yr (m:=n) (n:=0) (cs:=[]) (ds:=cs) rfl _ _ 87 rfl 86 i0 _ Tryz.underlying87 Hi.out Hz0.out Hz1.out Hz2.out rfl (by omega) (by omega) rfl rfl (zU.zero (by simp)) (H.out.below (below_alloc1 _ _)) HN.out HO.out (by omega) ?_)
  intro a1 c1 w1 k1 ch1 f1;have hf:zU 4 w1 a1 c1 n cs∧(∀x∈yf a1,w.heap.size≤x)∧Below w.heap.size w w1:=by
   refine⟨by simpa using k1,fun x hx=>?_,zI.below (below_alloc1 _ _) ch1 (fun x hx=>by simp[yf] at hx;omega)⟩
   rcases f1 x hx with h|h
   ·simp[yf] at h;omega
   ·first|omega|(simp at h;omega)
  have HF:=Qq hf;clear hf k1 ch1 f1;go_wp2;go_ret;exact⟨a1,c1,by simp,HF.out⟩
theorem Nb:(Tryz.prog.info? 87).map (fun i=>(i.zero,i.size,i.bytes))=some (some (.slice none 0 0),1,24):=by kernel_rfl
theorem Own.XV {w0 w:World}{As:List zy}(h:Own w0 w As)(s:Nat):Own w0 w (zd s none 0 0 []::As):=h.add (Below.refl _ _) (A:=zd s none 0 0 []) (F:=[]) ⟨rfl,zU.nil s w⟩ (fun x hx=>by simp at hx)
theorem Gu {fr:List (Option Addr×Nat)}{fs:List (List zS)}(h:fr.length=fs.length)(r:Option Addr×Nat)(l:List zS):Ot (fr++[r]) (fs++[l])=Ot fr fs++[.slice r.1 l.length r.2]:=by
 unfold Ot;rw[List.zipWith_append h];rfl
theorem Kl:(Tryz.prog.info? 165).map (fun i=>(i.zero,i.size,i.bytes))=some (some (.pointer none),1,8):=by kernel_rfl
theorem Jy:(Tryz.prog.info? 167).map (fun i=>(i.zero,i.size,i.bytes))=some (some (.pointer none),1,8):=by kernel_rfl
theorem M6 (ps:List Pl)(x:Pl):xR (ps++[x])=xR ps++[.pointer (some ⟨x.1,0,none⟩)]:=by unfold xR;rw[List.map_append];rfl
theorem GI {ps:List Pl}{Cs:List Ch}(h:ps.length=Cs.length)(x:Pl)(C:Ch):YF (ps++[x]) (Cs++[C])=YF ps Cs++[yv x.1 x.2 C]:=by unfold YF;rw[List.zipWith_append h];rfl
theorem KE (lp:List Nat)(x:Nat):W8 (lp++[x])=W8 lp++[.pointer (some ⟨x,0,none⟩)]:=by unfold W8;rw[List.map_append];rfl
theorem Io {lp:List Nat}{Ls:List (List Int)}(h:lp.length=Ls.length)(x:Nat)(L:List Int):RH (lp++[x]) (Ls++[L])=RH lp Ls++[Ye x L]:=by unfold RH;rw[List.zipWith_append h];rfl
theorem Sep.mem {w:World}:∀{l:List zy} {F:List Nat} {i:Nat} {A:zy},Sep w l F→l[i]?=some A→∃G,A.at_ w G∧∀x∈G,x∈F
 | [],_,_,_,_,hi=>by simp at hi
 | B::t,F,0,A,h,hi=>by
  obtain⟨F1,F2,rfl,h1,-,h2⟩:=h;simp at hi;subst hi
  exact⟨F1,h1,fun x hx=>by simp[hx]⟩
 | B::t,F,i+1,A,h,hi=>by
  obtain⟨F1,F2,rfl,h1,-,h2⟩:=h;obtain⟨G,g1,g2⟩:=Sep.mem h2 (by simpa using hi)
  exact⟨G,g1,fun x hx=>by simp[g2 x hx]⟩
structure YU (w:World) (fa:Option Addr) (fr:List (Option Addr×Nat)) (fs:List (List zS)) (ra:Option Addr) (rooms:List Int) (ca:Option Addr) (cc:Nat) (ks:List Zc):Prop where
 f:zt w fa (Ot fr fs)
 fl:fr.length=fs.length
 each:∀(i:Nat) (r:Option Addr×Nat) (l:List zS),fr[i]?=some r→fs[i]?=some l→zt w r.1 (Po l)∧(r.1=none→r.2=0)∧l.length≤1000000
 c:zt w ra (zr rooms)
 k:zt w ca (WN ks)
 kn:ca=none→cc=0
 kl:ks.length≤1000
 nf:fs.length≤1000
 nc:rooms.length≤1000
def RA (fr:List (Option Addr×Nat))(fs:List (List zS)):List zy:=List.zipWith (fun r l=>zd 4 r.1 r.2 l.length (Po l)) fr fs
theorem LS {fr:List (Option Addr×Nat)}{fs:List (List zS)}(h:fr.length=fs.length)(r:Option Addr×Nat)(l:List zS):RA (fr++[r]) (fs++[l])=RA fr fs++[zd 4 r.1 r.2 l.length (Po l)]:=by
 unfold RA;rw[List.zipWith_append h];rfl
theorem NJ {w0 w:World}{fA:Option Addr}{fC n m cc:Nat}{fr:List (Option Addr×Nat)}{fs:List (List zS)}{ca:Option Addr}{ks:List Zc}{R:List zy}(h:Own w0 w (zd 1 fA fC n (Ot fr fs)::yT (RA fr fs)::zd 3 ca cc m (WN ks)::R)):Own w0 w (Xl fA fr fs ca ks::R):=by
 refine Own.PM (As:=[zd 1 fA fC n (Ot fr fs),yT (RA fr fs),zd 3 ca cc m (WN ks)]) (As':=[Xl fA fr fs ca ks]) (R:=R) h (fun F hF=>?_)
 refine⟨F,xo.2 ?_,zI.refl _ _,fun x hx=>.inl hx⟩
 have hlt:=hF.lt;obtain⟨F1,Fa,rfl,⟨rfl,h1⟩,-,F2,Fb,rfl,h2,-,F3,F4,rfl,⟨rfl,h3⟩,-,rfl⟩:=hF;refine⟨hlt,⟨fun x hx=>by simp[hx],h1.cells⟩,⟨fun x hx=>by simp[hx],h3.cells⟩,fun i r l hr hl=>?_⟩
 have hi:(RA fr fs)[i]?=some (zd 4 r.1 r.2 l.length (Po l)):=by unfold RA;rw[List.getElem?_zipWith,hr,hl]
 obtain⟨G,⟨rfl,g1⟩,g2⟩:=Sep.mem h2 hi;exact⟨fun x hx=>by simp[g2 x hx],g1.cells⟩
theorem KN (l:List zS):(Po l).length=l.length*4:=by
 induction l with
 | nil=>rfl
 | cons x t ih=>simp only[Po,List.flatMap_cons,List.length_append,List.length_cons] at ih ⊢;rw[ih];simp[DE];omega
def D1 (fA:Option Addr)(i fC:Nat)(hA:Option Addr)(j hC:Nat)(lA:Option Addr)(k lC:Nat)(ca:Option Addr)(nk cc:Nat)(aa:Option Addr):List Value :=
 [.slice fA i fC,.slice ca nk cc,.slice aa 1 1,.slice hA j hC,.slice lA k lC,.slice none 0 0,.int .u64 0,.int .u64 0,.slice none 0 0,.int .i64 0,.int .i64 0]
def Vt (b:Nat)(fA:Option Addr)(fC:Nat)(fr:List (Option Addr×Nat))(fs:List (List zS))(hA:Option Addr)(hC:Nat)(ps:List Pl)(Cs:List Ch)(lA:Option Addr)(lC:Nat)(lp:List Nat)(Ls:List (List Int))(ca:Option Addr)(cc:Nat)(ks:List Zc)(aa:Option Addr)(g:Nat):List zy :=
 [zf b (D1 fA fs.length fC hA Cs.length hC lA Ls.length lC ca ks.length cc aa),zd 1 fA fC fs.length (Ot fr fs),yT (RA fr fs),zd 3 ca cc ks.length (WN ks),zd 2 aa 1 1 [.int .i64 1,.slice (some ⟨g,0,none⟩) 1 1],yT [Yp g 1 1 (ZM 0 0 0)],
  zd 1 hA hC Cs.length (xR ps),yT (YF ps Cs),zd 1 lA lC Ls.length (W8 lp),yT (RH lp Ls)]
theorem I9 (ks:List Zc):∀u∈WN ks,u.oneCell'=true:=by
 intro u hu;unfold WN at hu;obtain⟨k,-,hk⟩:=List.mem_flatMap.1 hu;simp only[CC,List.mem_cons,List.not_mem_nil,or_false] at hk;rcases hk with rfl|rfl|rfl<;>rfl
theorem IL (l:List zS):∀u∈Po l,u.oneCell'=true:=by
 intro u hu;unfold Po at hu;obtain⟨k,-,hk⟩:=List.mem_flatMap.1 hu;simp[DE] at hk
 rcases hk with rfl|rfl|rfl|rfl<;>rfl
theorem Ln (w:World)(fa:Option Addr)(fc:Nat)(fr:List (Option Addr×Nat))(fs:List (List zS))(ra:Option Addr)(rc:Nat)(rooms:List Int)(zN:Nat)(ca:Option Addr)(cc:Nat)(ks:List Zc)(hp:YU w fa fr fs ra rooms ca cc ks)(hlk:zN≤1000) :
  Calls Tryz.prog 37 #[.agg #[.slice fa fs.length fc,.slice ra rooms.length rc,.int .i64 (zN:Int),.slice ca ks.length cc]] w fun r w'=>∃b D,r=.returned (.pointer (some ⟨b,0,none⟩))∧D.fits (xu fs ks rooms zN)∧Own w w' (zh b (xu fs ks rooms zN) D []):=by
 obtain⟨hf,hfl,heach,hc,hk,hkn,hkl,hnf,hnc⟩:=hp;have b1:=below_alloc1 w (.cells #[.slice fa fs.length fc,.slice ra rooms.length rc,.int .i64 (zN:Int),.slice ca ks.length cc] 65)
 have x0:=zF.mk w [.slice fa fs.length fc,.slice ra rooms.length rc,.int .i64 (zN:Int),.slice ca ks.length cc] 65 w.heap.size rfl
 have o1:Own w (w.alloc (.cells #[.slice fa fs.length fc,.slice ra rooms.length rc,.int .i64 (zN:Int),.slice ca ks.length cc] 65)) [zf w.heap.size [.slice fa fs.length fc,.slice ra rooms.length rc,.int .i64 (zN:Int),.slice ca ks.length cc]] :=
  (Own.nil (Below.refl _ _)).alloc _ _ rfl
 have HO1:=Qq o1;have HKC:=Qq (Pa _ ca ks.length cc (WN ks) (hk.below b1) (Fl ks) hkn (I9 ks) (by omega))
 have HF:=Qq hf;have HC:=Qq hc;have HE:=Qq heach;have HFL:=Qq hfl;obtain⟨i1,-⟩:=x0 0 _ rfl;obtain⟨i2,-⟩:=x0 1 _ rfl;obtain⟨i3,-⟩:=x0 2 _ rfl;obtain⟨i4,-⟩:=x0 3 _ rfl;clear hf hfl heach hc hk hkn x0 o1 b1;go_enter Tryz.func37,Tryz.ntmps37
 go_wp2_with fail;refine HKC.out.mono ?_
 rintro r w2 ⟨ca',cc',rfl,hr2,hf2,hb2⟩;have o2:=HO1.out.add hb2 (A:=zd 3 ca' cc' ks.length (WN ks)) (F:=yf ca') ⟨rfl,hr2⟩ hf2
 have H2:=Qq o2;clear o2 hr2 hf2 hb2 HKC HO1;go_wp2_with fail;refine(UE 0 0 _).mono ?_
 rintro r w3 ⟨g,rfl,hg,hs,hb3⟩;have o3:=H2.out.add hb3 (A:=Yp g 1 1 (ZM 0 0 0)) (F:=[g]) ⟨rfl,hs⟩ (by intro x hx;simp at hx;omega)
 have H3:=Qq o3;clear o3 hg hs hb3 H2;have H4:=Qq (((((((H3.out.pick 2 rfl).MW (l:=[])).XV 1).MW (l:=[])).XV 1).pick 5 rfl).MW (l:=[Yp g 1 1 (ZM 0 0 0)]))
 clear H3;have o5:=H4.out.add (below_alloc1 w3 (.cells #[.int .i64 1,.slice (some ⟨g,0,none⟩) 1 1] 159)) (A:=zd 2 (some ⟨w3.heap.size,0,none⟩) 1 1 [.int .i64 1,.slice (some ⟨g,0,none⟩) 1 1]) (F:=[w3.heap.size]) ⟨rfl,zU.new 2 1 w3 [.int .i64 1,.slice (some ⟨g,0,none⟩) 1 1] _ rfl (by simp[maxLen]) rfl⟩ (by intro x hx;simp at hx;subst hx;exact Nat.le_refl _)
 have o6:=(((o5.pick 7 rfl).MW (l:=[])).XV 1).alloc (D1 none 0 0 none 0 0 none 0 0 ca' ks.length cc' (some ⟨w3.heap.size,0,none⟩)) 115 (b:=w3.heap.size+1) (by simp)
 have H6:Hid (Own w ((w3.alloc (.cells #[.int .i64 1,.slice (some ⟨g,0,none⟩) 1 1] 159)).alloc (.cells #[.slice none 0 0,.slice ca' ks.length cc',.slice (some ⟨w3.heap.size,0,none⟩) 1 1,.slice none 0 0,.slice none 0 0,.slice none 0 0,.int .u64 0,.int .u64 0,.slice none 0 0,.int .i64 0,.int .i64 0] 115)) (Vt (w3.heap.size+1) none 0 [] [] none 0 [] [] none 0 [] [] ca' cc' ks (some ⟨w3.heap.size,0,none⟩) g++[zf w.heap.size [.slice fa fs.length fc,.slice ra rooms.length rc,.int .i64 (zN:Int),.slice ca ks.length cc]])):=Qq o6
 clear o5 o6 H4;go_upto_region 2 with fail
 generalize ((w3.alloc (.cells #[.int .i64 1,.slice (some ⟨g,0,none⟩) 1 1] 159)).alloc (.cells #[.slice none 0 0,.slice ca' ks.length cc',.slice (some ⟨w3.heap.size,0,none⟩) 1 1,.slice none 0 0,.slice none 0 0,.slice none 0 0,.int .u64 0,.int .u64 0,.slice none 0 0,.int .i64 0,.int .i64 0] 115))=w6 at *
 generalize w3.heap.size+1=b at *
 generalize w3.heap.size=sa at *;generalize w.heap.size=pb at *;have z0:=(H6.out.zo 10 rfl 0 _ rfl).1
 clear i1 i2 i3 i4;go_wp2_with fail;go_loopw [18] (fun iv wr=>∃i:Nat,∃fA fC fr',i≤fs.length∧iv=.int .i64 i∧Hid (fr'.length=i∧Own w wr (Vt b fA fC fr' (fs.take i) none 0 [] [] none 0 [] [] ca' cc' ks (some ⟨sa,0,none⟩) g++[zf pb [.slice fa fs.length fc,.slice ra rooms.length rc,.int .i64 (zN:Int),.slice ca ks.length cc]]))) (fun iv _=>fs.length-(intOf iv).toNat)
 case atStart=>exact⟨0,none,0,[],by omega,rfl,Qq ⟨rfl,H6.out⟩⟩
 case round =>
  obtain⟨i,fA,fC,fr',hi,rfl,hr⟩:=hrel;by_cases hlt:i<fs.length
  ·have hifr:i<fr.length:=by rw[HFL.out];exact hlt
   obtain⟨l,hl⟩:∃l,l=fs[i]:=⟨_,rfl⟩
   have hle:fs[i]?=some l:=by rw[hl];exact List.getElem?_eq_getElem hlt
   obtain⟨r0,hr0⟩:∃r,r=fr[i]:=⟨_,rfl⟩
   have hre:fr[i]?=some r0:=by rw[hr0];exact List.getElem?_eq_getElem hifr
   obtain⟨hrl,ho⟩:=hr.out;obtain⟨e1,e2,e3⟩:=HE.out i r0 l hre hle;obtain⟨r1,rcap⟩:=r0;simp only at e1 e2 e3
   obtain⟨bf,off,rfl,hcf⟩:=HF.out i (.slice r1 l.length rcap) (by unfold Ot;rw[List.getElem?_zipWith,hre,hle])
   have hcf2:=zj hcf ho.bel;have htl:(fs.take i).length=i:=by rw[List.length_take];omega
   have SB:∀(wx:World) (L:List zy),Own w wx L→∀k:Nat,L[k]?=some (zf b (D1 fA (fs.take i).length fC none 0 0 none 0 0 ca' ks.length cc' (some ⟨sa,0,none⟩)))→wx.cell? ⟨b,0,none⟩=some (.slice fA i fC):=fun wx L ho k hk=>by
    have:=(ho.zo k hk 0 _ rfl).1
    rw[htl] at this;exact this
   have HSB:=Qq SB;have o1:=ho.step (zg wr)
   have HCl:=Qq (Px wr.drew r1 l.length rcap (Po l) (e1.below o1.bel) (KN l) e2 (IL l) e3)
   have HT:Hid (fs.take (i+1)=fs.take i++[l]):=Qq (by rw[hl];exact List.take_succ_eq_append_getElem hlt)
   have HTL:=Qq htl;have HRL:=Qq hrl;obtain⟨i0,hi0,hz0,hz1,hz2⟩:=info_parts Nb;have Hi:=Qq hi0;clear hi0
   have Hz0:=Qq hz0;clear hz0
   have Hz1:=Qq hz1;clear hz1
   have Hz2:=Qq hz2;clear hz2
   have hli:(i:Int)<(fs.length:Int):=by omega
   have hl0:(0:Int)≤(i:Int):=by omega
   generalize hln:l.length=ln at *
   have HLN:=Qq hln;clear hln;clear hl hr0 hre hle e1 e2 e3 hcf SB htl hrl hr hifr;go_upto_region 5 with fail
   refine xg (fun wx=>wx.cell? ⟨b,0,none⟩=some (.slice fA i fC)) 11 12 (Array.replicate 12 false) (by kernel_rfl) (by kernel_rfl) ?_
   refine yw 0 6 _ (Qj 12 63) 6 (by kernel_rfl) za (HSB.out _ _ o1 0 rfl) (by kernel_rfl) ?_
   simp only[QX,QV,QJ];(repeat((first|refine Qx (h:=?_)|refine Qv (h:=?_));simp only[Act.put,QW,QY,QZ]));refine zb ?_;refine yk 6 _ (Qj 12 127) 5 (by kernel_rfl) (fun K hK=>?_)
   have HKK:=Qq hK;clear hK;simp only[QQ,QJ];refine zc (by rfl) ?_;go_simp;refine HCl.out.mono ?_
   rintro r w2 ⟨r1',c1',rfl,hrow,hfr,hb⟩;have o2:=o1.add hb (A:=zd 4 r1' c1' ln (Po l)) (F:=yf r1') ⟨rfl,hrow⟩ hfr
   refine HKK.out _ _ (HSB.out _ _ o2 1 rfl) ?_
   clear HKK K;refine yk 7 _ (Qj 12 255) 4 (by kernel_rfl) (fun K hK=>?_)
   have HKK:=Qq hK;clear hK;simp only[QQ,QJ];refine zc (by rfl) ?_;go_simp;have o3:=o2.step (below_alloc1 _ (.cells #[.slice r1' ln c1'] 87))
   refine HKK.out _ _ (HSB.out _ _ o3 1 rfl) ?_
   clear HKK K;refine yk 8 _ (Qj 12 511) 3 (by kernel_rfl) (fun K hK=>?_)
   have HKK:=Qq hK;clear hK;simp only[QQ,QJ];refine zc (by rfl) ?_;have hrow3:=o3.yZ 2 rfl;rw[HTL.out] at hrow3;refine yP (n:=i) (m:=1) (cs:=Ot fr' (fs.take i)) (ds:=[.slice r1' ln c1']) _ _ 62 (by rfl) 87 i0 _ Tryz.underlying62 Hi.out Hz0.out Hz1.out Hz2.out rfl (by omega) (by omega) (by rfl) (by rfl) hrow3 (zt.new _ [.slice r1' ln c1'] _ rfl) rfl (by simp[Value.oneCell']) (by omega) ?_
   intro a9 c9 w9 k9 ch9 f9;have o4:=(Own.xj (o3.pick 2 rfl) k9 ch9 f9)
   refine HKK.out _ _ (HSB.out _ _ o4 2 rfl) ?_
   clear HKK K;refine xF 9 1 _ (Qj 12 1023) 2 (by kernel_rfl) za (by kernel_rfl) ?_
   simp only[QX,QV,QQ,QJ];(repeat((first|refine Qx (h:=?_)|refine Qv (h:=?_));simp only[Act.put,QW,QY,QZ]));refine zb ?_;refine yw 10 1 _ (Qj 12 2047) 1 (by kernel_rfl) za (HSB.out _ _ o4 2 rfl) (by kernel_rfl) ?_
   simp only[QX,QV,QQ,QJ];(repeat((first|refine Qx (h:=?_)|refine Qv (h:=?_));simp only[Act.put,QW,QY,QZ]));refine zb ?_;obtain⟨z8,f8⟩:=o4.zo 2 rfl 0 _ rfl;have o5:=((((((o4.setAt 2 rfl 0 (.slice a9 (i+1) c9)).pick 1 rfl).pick 3 rfl).pick 1 rfl).UF).pick 1 rfl).pick 2 rfl
   have H5:=Qq o5;clear o1 o2 o3 o4 o5 k9 ch9 f9 hrow3 hrow hfr hb HSB HCl ho;refine xH 11 _ (Qj 12 4095) 0 (by kernel_rfl) (fun K hK=>?_)
   have HKK:=Qq hK;clear hK;simp only[QQ,QJ];refine zc (by rfl) ?_;go_simp;refine HKK.out _ _ ?_
   clear HKK K;refine xG (by kernel_rfl) (NoPanic.normal ?_) _
   have HFIN:Hid ((fr'++[(r1',c1')]).length=i+1∧Own w (w9.setCell ⟨b,0,none⟩ (.slice a9 (i+1) c9)) (Vt b a9 c9 (fr'++[(r1',c1')]) (fs.take (i+1)) none 0 [] [] none 0 [] [] ca' cc' ks (some ⟨sa,0,none⟩) g++[zf pb [.slice (some ⟨bf,off,none⟩) fs.length fc,.slice ra rooms.length rc,.int .i64 (zN:Int),.slice ca ks.length cc]])):=Qq ⟨by simp[HRL.out],by
    have e:(fs.take i++[l]).length=i+1:=by rw[List.length_append,HTL.out];rfl
    rw[HT.out];unfold Vt;rw[Gu (by rw[HRL.out,HTL.out]),LS (by rw[HRL.out,HTL.out]),e,HLN.out]
    exact H5.out⟩
   clear H5 HT HTL HRL HLN;go_wp2;exact⟨⟨i+1,a9,c9,_,by omega,by go_num,HFIN⟩,by simp[intOf];omega⟩
  ·have hge:¬(i:Int)<(fs.length:Int):=by omega
   obtain rfl:i=fs.length:=by omega
   have HR1:Hid (fr'.length=fs.length∧Own w wr (Vt b fA fC fr' fs none 0 [] [] none 0 [] [] ca' cc' ks (some ⟨sa,0,none⟩) g++[zf pb [.slice fa fs.length fc,.slice ra rooms.length rc,.int .i64 (zN:Int),.slice ca ks.length cc]])):=Qq (by
    have:=hr.out
    rw[List.take_length] at this;exact this)
   obtain⟨z1,-⟩:=HR1.out.2.zo 10 rfl 1 _ rfl;clear hr;go_wp2_with fail;go_loopw [37] (fun iv wr=>∃i:Nat,∃hA hC pa,i≤rooms.length∧iv=.int .i64 i∧Hid (pa.length=i∧Own w wr (Vt b fA fC fr' fs hA hC (List.zip pa ((rooms.take i).map ZF)) ((rooms.take i).map fun _=>⟨[],[],[],false⟩) none 0 [] [] ca' cc' ks (some ⟨sa,0,none⟩) g++[zf pb [.slice fa fs.length fc,.slice ra rooms.length rc,.int .i64 (zN:Int),.slice ca ks.length cc]]))) (fun iv _=>rooms.length-(intOf iv).toNat)
   case atStart=>exact⟨0,none,0,[],by omega,rfl,Qq ⟨rfl,HR1.out.2⟩⟩
   case round =>
    obtain⟨i,hA,hC,pa,hi,rfl,hr⟩:=hrel;by_cases hlt:i<rooms.length
    ·obtain⟨z,hz⟩:∃z,z=rooms[i]:=⟨_,rfl⟩
     have hze:rooms[i]?=some z:=by rw[hz];exact List.getElem?_eq_getElem hlt
     obtain⟨hrl,ho⟩:=hr.out;obtain⟨bf,off,rfl,hcf⟩:=HC.out i (.int .i64 z) (by rw[xJ,hze];rfl)
     have hcf2:=zj hcf ho.bel;have htl:((rooms.take i).map fun _=>(⟨[],[],[],false⟩:Ch)).length=i:=by rw[List.length_map,List.length_take];omega
     have hzl:(List.zip pa ((rooms.take i).map ZF)).length=i:=by rw[List.length_zip,List.length_map,List.length_take];omega
     have SB:∀(wx:World) (L:List zy),Own w wx L→∀k:Nat,L[k]?=some (zf b (D1 fA fs.length fC hA ((rooms.take i).map fun _=>(⟨[],[],[],false⟩:Ch)).length hC none 0 0 ca' ks.length cc' (some ⟨sa,0,none⟩)))→wx.cell? ⟨b,3,none⟩=some (.slice hA i hC):=fun wx L ho k hk=>by
      have:=(ho.zo k hk 3 _ rfl).1
      rw[htl] at this;exact this
     have HSB:=Qq SB;have o1:=ho.step (zg wr)
     have HCl:=Qq (Lm o1 z)
     have HT:Hid (rooms.take (i+1)=rooms.take i++[z]):=Qq (by rw[hz];exact List.take_succ_eq_append_getElem hlt)
     have HTL:=Qq htl;have HRL:=Qq hrl;have HZL:=Qq hzl;obtain⟨i0,hi0,hz0,hz1,hz2⟩:=info_parts Kl;have Hi:=Qq hi0;clear hi0
     have Hz0:=Qq hz0;clear hz0
     have Hz1:=Qq hz1;clear hz1
     have Hz2:=Qq hz2;clear hz2
     have hli:(i:Int)<(rooms.length:Int):=by omega
     have hl0:(0:Int)≤(i:Int):=by omega
     clear hz hze hcf SB htl hrl hr hzl;go_upto_region 10 with fail
     refine xg (fun wx=>wx.cell? ⟨b,3,none⟩=some (.slice hA i hC)) 11 12 (Array.replicate 12 false) (by kernel_rfl) (by kernel_rfl) ?_
     refine yw 0 6 _ (Qj 12 63) 6 (by kernel_rfl) za (HSB.out _ _ o1 0 rfl) (by kernel_rfl) ?_
     simp only[QX,QV,QJ];(repeat((first|refine Qx (h:=?_)|refine Qv (h:=?_));simp only[Act.put,QW,QY,QZ]));refine zb ?_;refine yk 6 _ (Qj 12 127) 5 (by kernel_rfl) (fun K hK=>?_)
     have HKK:=Qq hK;clear hK;simp only[QQ,QJ];refine zc (by rfl) ?_;go_simp;refine HCl.out.mono ?_
     rintro r w2 ⟨pt,rfl,o2,hb⟩;refine HKK.out _ _ (HSB.out _ _ o2 1 rfl) ?_
     clear HKK K;refine yk 7 _ (Qj 12 255) 4 (by kernel_rfl) (fun K hK=>?_)
     have HKK:=Qq hK;clear hK;simp only[QQ,QJ];refine zc (by rfl) ?_;go_simp;have o3:=o2.step (below_alloc1 _ (.cells #[.pointer (some ⟨pt,0,none⟩)] 165))
     refine HKK.out _ _ (HSB.out _ _ o3 1 rfl) ?_
     clear HKK K;refine yk 8 _ (Qj 12 511) 3 (by kernel_rfl) (fun K hK=>?_)
     have HKK:=Qq hK;clear hK;simp only[QQ,QJ];refine zc (by rfl) ?_;have hrow3:=o3.yZ 7 rfl;rw[HTL.out] at hrow3;refine yP (n:=i) (m:=1) (cs:=xR (List.zip pa ((rooms.take i).map ZF))) (ds:=[.pointer (some ⟨pt,0,none⟩)]) _ _ 109 (by rfl) 165 i0 _ Tryz.underlying109 Hi.out Hz0.out Hz1.out Hz2.out rfl (by omega) (by omega) (by rfl) (by rfl) hrow3 (zt.new _ [.pointer (some ⟨pt,0,none⟩)] _ rfl) rfl (by simp[Value.oneCell']) (by omega) ?_
     intro a9 c9 w9 k9 ch9 f9;have o4:=(Own.xj (o3.pick 7 rfl) k9 ch9 f9)
     refine HKK.out _ _ (HSB.out _ _ o4 2 rfl) ?_
     clear HKK K;refine xF 9 1 _ (Qj 12 1023) 2 (by kernel_rfl) za (by kernel_rfl) ?_
     simp only[QX,QV,QQ,QJ];(repeat((first|refine Qx (h:=?_)|refine Qv (h:=?_));simp only[Act.put,QW,QY,QZ]));refine zb ?_;refine yw 10 1 _ (Qj 12 2047) 1 (by kernel_rfl) za (HSB.out _ _ o4 2 rfl) (by kernel_rfl) ?_
     simp only[QX,QV,QQ,QJ];(repeat((first|refine Qx (h:=?_)|refine Qv (h:=?_));simp only[Act.put,QW,QY,QZ]));refine zb ?_;obtain⟨z8,f8⟩:=o4.zo 2 rfl 3 _ rfl;have o5:=((((((((((((o4.setAt 2 rfl 3 (.slice a9 (i+1) c9)).pick 1 rfl).pick 8 rfl).pick 1 rfl).UF).pick 1 rfl).pick 7 rfl).pick 7 rfl).pick 7 rfl).pick 7 rfl).pick 7 rfl).pick 7 rfl)
     have H5:=Qq o5;clear o1 o2 o3 o4 o5 k9 ch9 f9 hrow3 hb HSB HCl ho;refine xH 11 _ (Qj 12 4095) 0 (by kernel_rfl) (fun K hK=>?_)
     have HKK:=Qq hK;clear hK;simp only[QQ,QJ];refine zc (by rfl) ?_;go_simp;refine HKK.out _ _ ?_
     clear HKK K;refine xG (by kernel_rfl) (NoPanic.normal ?_) _
     have HFIN:Hid ((pa++[pt]).length=i+1∧Own w (w9.setCell ⟨b,3,none⟩ (.slice a9 (i+1) c9)) (Vt b fA fC fr' fs a9 c9 (List.zip (pa++[pt]) ((rooms.take (i+1)).map ZF)) ((rooms.take (i+1)).map fun _=>(⟨[],[],[],false⟩:Ch)) none 0 [] [] ca' cc' ks (some ⟨sa,0,none⟩) g++[zf pb [.slice fa fs.length fc,.slice (some ⟨bf,off,none⟩) rooms.length rc,.int .i64 (zN:Int),.slice ca ks.length cc]])):=Qq ⟨by simp[HRL.out],by
      have e:(((rooms.take i).map fun _=>(⟨[],[],[],false⟩:Ch))++[(⟨[],[],[],false⟩:Ch)]).length=i+1:=by rw[List.length_append,HTL.out];rfl
      have e2:List.zip (pa++[pt]) ((rooms.take i).map ZF++[ZF z])=(List.zip pa ((rooms.take i).map ZF))++[(pt,ZF z)]:=List.zip_append (by rw[HRL.out,List.length_map,List.length_take];have:=hi;omega)
      rw[HT.out,List.map_append,List.map_append];unfold Vt;rw[show List.map ZF [z]=[ZF z] from rfl,show List.map (fun _=>(⟨[],[],[],false⟩:Ch)) [z]=[(⟨[],[],[],false⟩:Ch)] from rfl,e2,M6,GI (by rw[HZL.out,HTL.out]),e]
      exact H5.out⟩
     clear H5 HT HTL HRL HZL;go_wp2;exact⟨⟨i+1,a9,c9,_,by omega,by go_num,HFIN⟩,by simp[intOf];omega⟩
    ·have hge:¬(i:Int)<(rooms.length:Int):=by omega
     obtain rfl:i=rooms.length:=by omega
     have HR2:Hid (pa.length=rooms.length∧Own w wr (Vt b fA fC fr' fs hA hC (List.zip pa (rooms.map ZF)) (rooms.map fun _=>(⟨[],[],[],false⟩:Ch)) none 0 [] [] ca' cc' ks (some ⟨sa,0,none⟩) g++[zf pb [.slice fa fs.length fc,.slice ra rooms.length rc,.int .i64 (zN:Int),.slice ca ks.length cc]])):=Qq (by
      have:=hr.out
      rw[List.take_length] at this;exact this)
     obtain⟨z1,-⟩:=HR2.out.2.zo 10 rfl 2 _ rfl;have HCL:Hid ((rooms.map fun _=>(⟨[],[],[],false⟩:Ch)).length=rooms.length):=Qq (by simp)
     have HFR:Hid (fr'.length=fs.length):=Qq HR1.out.1
     clear hr HR1;generalize hZP:(List.zip pa (rooms.map ZF))=zp at *
     generalize hCP:(rooms.map fun _=>(⟨[],[],[],false⟩:Ch))=cp at *
     have HZP:=Qq hZP;have HCP:=Qq hCP;clear hZP hCP;go_wp2_with fail;go_loopw [55] (fun iv wr=>∃i:Nat,∃lA lC lp,i≤zN∧iv=.int .i64 i∧Hid (lp.length=i∧Own w wr (Vt b fA fC fr' fs hA hC zp cp lA lC lp (List.replicate i []) ca' cc' ks (some ⟨sa,0,none⟩) g++[zf pb [.slice fa fs.length fc,.slice ra rooms.length rc,.int .i64 (zN:Int),.slice ca ks.length cc]]))) (fun iv _=>zN-(intOf iv).toNat)
     case atStart=>exact⟨0,none,0,[],by omega,rfl,Qq ⟨rfl,HR2.out.2⟩⟩
     case round =>
      obtain⟨i,lA,lC,lp,hi,rfl,hr⟩:=hrel;by_cases hlt:i<zN
      ·obtain⟨hrl,ho⟩:=hr.out
       have htl:(List.replicate i ([]:List Int)).length=i:=List.length_replicate
       have SB:∀(wx:World) (L:List zy),Own w wx L→∀k:Nat,L[k]?=some (zf b (D1 fA fs.length fC hA cp.length hC lA (List.replicate i ([]:List Int)).length lC ca' ks.length cc' (some ⟨sa,0,none⟩)))→wx.cell? ⟨b,4,none⟩=some (.slice lA i lC):=fun wx L ho k hk=>by
        have:=(ho.zo k hk 4 _ rfl).1
        rw[htl] at this;exact this
       have HSB:=Qq SB;have o1:=ho.step (zg wr)
       have HTL:=Qq htl;have HRL:=Qq hrl;obtain⟨i0,hi0,hz0,hz1,hz2⟩:=info_parts Jy;have Hi:=Qq hi0;clear hi0
       have Hz0:=Qq hz0;clear hz0
       have Hz1:=Qq hz1;clear hz1
       have Hz2:=Qq hz2;clear hz2
       have hli:(i:Int)<(zN:Int):=by omega
       have hl0:(0:Int)≤(i:Int):=by omega
       clear SB htl hrl hr;go_upto_region 14 with fail
       refine xg (fun wx=>wx.cell? ⟨b,4,none⟩=some (.slice lA i lC)) 10 11 (Array.replicate 11 false) (by kernel_rfl) (by kernel_rfl) ?_
       refine yw 0 5 _ (Qj 11 31) 6 (by kernel_rfl) za (HSB.out _ _ o1 0 rfl) (by kernel_rfl) ?_
       simp only[QX,QV,QJ];(repeat((first|refine Qx (h:=?_)|refine Qv (h:=?_));simp only[Act.put,QW,QY,QZ]));refine zb ?_;refine yk 5 _ (Qj 11 63) 5 (by kernel_rfl) (fun K hK=>?_)
       have HKK:=Qq hK;clear hK;simp only[QQ,QJ];refine zc (by rfl) ?_;go_simp;refine(LU _).mono ?_
       rintro r w2 ⟨pt,rfl,hk1,hk2,hb⟩;have o2:=o1.add hb (A:=Ye pt []) (F:=[pt]) hk1 (by intro x hx;simp at hx;omega)
       refine HKK.out _ _ (HSB.out _ _ o2 1 rfl) ?_
       clear HKK K;refine yk 6 _ (Qj 11 127) 4 (by kernel_rfl) (fun K hK=>?_)
       have HKK:=Qq hK;clear hK;simp only[QQ,QJ];refine zc (by rfl) ?_;go_simp;have o3:=o2.step (below_alloc1 _ (.cells #[.pointer (some ⟨pt,0,none⟩)] 167))
       refine HKK.out _ _ (HSB.out _ _ o3 1 rfl) ?_
       clear HKK K;refine yk 7 _ (Qj 11 255) 3 (by kernel_rfl) (fun K hK=>?_)
       have HKK:=Qq hK;clear hK;simp only[QQ,QJ];refine zc (by rfl) ?_;have hrow3:=o3.yZ 9 rfl;rw[HTL.out] at hrow3;refine yP (n:=i) (m:=1) (cs:=W8 lp) (ds:=[.pointer (some ⟨pt,0,none⟩)]) _ _ 110 (by rfl) 167 i0 _ Tryz.underlying110 Hi.out Hz0.out Hz1.out Hz2.out rfl (by omega) (by omega) (by rfl) (by rfl) hrow3 (zt.new _ [.pointer (some ⟨pt,0,none⟩)] _ rfl) rfl (by simp[Value.oneCell']) (by omega) ?_
       intro a9 c9 w9 k9 ch9 f9;have o4:=(Own.xj (o3.pick 9 rfl) k9 ch9 f9)
       refine HKK.out _ _ (HSB.out _ _ o4 2 rfl) ?_
       clear HKK K;refine xF 8 1 _ (Qj 11 511) 2 (by kernel_rfl) za (by kernel_rfl) ?_
       simp only[QX,QV,QQ,QJ];(repeat((first|refine Qx (h:=?_)|refine Qv (h:=?_));simp only[Act.put,QW,QY,QZ]));refine zb ?_;refine yw 9 1 _ (Qj 11 1023) 1 (by kernel_rfl) za (HSB.out _ _ o4 2 rfl) (by kernel_rfl) ?_
       simp only[QX,QV,QQ,QJ];(repeat((first|refine Qx (h:=?_)|refine Qv (h:=?_));simp only[Act.put,QW,QY,QZ]));refine zb ?_;obtain⟨z8,f8⟩:=o4.zo 2 rfl 4 _ rfl;have o5:=((((((((((((((o4.setAt 2 rfl 4 (.slice a9 (i+1) c9)).pick 1 rfl).pick 10 rfl).pick 1 rfl).UF).pick 1 rfl).pick 9 rfl).pick 9 rfl).pick 9 rfl).pick 9 rfl).pick 9 rfl).pick 9 rfl).pick 9 rfl).pick 9 rfl)
       have H5:=Qq o5;clear o1 o2 o3 o4 o5 k9 ch9 f9 hrow3 hb hk1 hk2 HSB ho;refine xH 10 _ (Qj 11 2047) 0 (by kernel_rfl) (fun K hK=>?_)
       have HKK:=Qq hK;clear hK;simp only[QQ,QJ];refine zc (by rfl) ?_;go_simp;refine HKK.out _ _ ?_
       clear HKK K;refine xG (by kernel_rfl) (NoPanic.normal ?_) _
       have HFIN:Hid ((lp++[pt]).length=i+1∧Own w (w9.setCell ⟨b,4,none⟩ (.slice a9 (i+1) c9)) (Vt b fA fC fr' fs hA hC zp cp a9 c9 (lp++[pt]) (List.replicate (i+1) []) ca' cc' ks (some ⟨sa,0,none⟩) g++[zf pb [.slice fa fs.length fc,.slice ra rooms.length rc,.int .i64 (zN:Int),.slice ca ks.length cc]])):=Qq ⟨by simp[HRL.out],by
        rw[List.replicate_succ']
        have e:(List.replicate i ([]:List Int)++[[]]).length=i+1:=by rw[List.length_append,HTL.out];rfl
        unfold Vt;rw[KE,Io (by rw[HRL.out,HTL.out]),e]
        exact H5.out⟩
       clear H5 HTL HRL;go_wp2;exact⟨⟨i+1,a9,c9,_,by omega,by go_num,HFIN⟩,by simp[intOf];omega⟩
      ·have hge:¬(i:Int)<(zN:Int):=by omega
       obtain rfl:i=zN:=by omega
       have h0:=hr.out.2;have hk:=(h0.yZ 3 rfl).2.1
       have h1:=NJ (((((h0.pick 10 rfl).drop).pick 3 rfl).pick 3 rfl).pick 3 rfl)
       have h2:=((h1.pick 1 rfl).XV 1).add (Below.refl _ _) (A:=xx (.slice none 0 0) []) (F:=[]) ⟨rfl,World.ownsRow_nil _ _ _ _⟩ (fun x hx=>by simp at hx)
       have h3:=(((((((h2.pick 9 rfl).pick 9 rfl).pick 9 rfl).pick 9 rfl).pick 9 rfl).pick 9 rfl).pick 9 rfl).pick 9 rfl
       have hrl:=hr.out.1;have hpl:=HR2.out.1;have hfl:=HFR.out;have e1:=HZP.out;have e2:=HCP.out;subst e1 e2;have HE3:Hid ((⟨fA,fC,fr',ca',cc',some ⟨sa,0,none⟩,1,[(g,1)],hA,hC,pa,lA,lC,lp,.slice none 0 0,none,0⟩:Wa).fits (xu fs ks rooms i)∧Own w wr (zh b (xu fs ks rooms i) ⟨fA,fC,fr',ca',cc',some ⟨sa,0,none⟩,1,[(g,1)],hA,hC,pa,lA,lC,lp,.slice none 0 0,none,0⟩ [])) :=
        Qq ⟨⟨hfl,rfl,by simp[xu,hpl],by simp[xu],by simp[xu,hrl],hk⟩,h3⟩
       clear h0 h1 h2 h3 hk hr HR2;go_wp2;go_ret;exact⟨_,rfl,_,HE3.out⟩
def Xk (p:Nat)(W:Wd)(T:List Value):zy where
 at_ w F:=∃D:Wa,D.fits W∧Sep w (zh p W D T) F
 lt:=by rintro w F ⟨D,-,h⟩;exact h.lt
 yC:=by rintro w w' F G ⟨D,h1,h⟩ c hd;exact⟨D,h1,h.yC c hd⟩
theorem Own.FO {w0 w:World}{p:Nat}{W:Wd}{T:List Value}{R:List zy}(h:Own w0 w (Xk p W T::R)):∃D:Wa,D.fits W∧Own w0 w (zh p W D T++R):=by
 obtain⟨As,⟨D,hf,rfl⟩,h1⟩:=Own.unfold h (P:=fun As=>∃D:Wa,D.fits W∧As=zh p W D T) (fun F ⟨D,hf,hF⟩=>⟨_,⟨D,hf,rfl⟩,hF⟩)
 exact⟨D,hf,h1⟩
theorem Own.U3 {w0 w:World}{p:Nat}{W:Wd}{T:List Value}{R:List zy}{D:Wa}(hf:D.fits W)(h:Own w0 w (zh p W D T++R)):Own w0 w (Xk p W T::R):=Own.fold h (fun F hF=>⟨D,hf,hF⟩)
theorem Own.VJ {w0 w:World}{R:List zy}(s:Nat)(h:Own w0 w R):Own w0 w (zd s none 0 0 []::R):=h.add (Below.refl _ _) (F:=[]) ⟨rfl,zU.nil s w⟩ (by intro x hx;simp at hx)
theorem Own.Oi {w0 w:World}{p:Nat}{W:Wd}{T:List Value}{R:List zy}{A:zy}{D:Wa}(hf:D.fits W)(h:Own w0 w (A::(zh p W D T++R))):Own w0 w (A::Xk p W T::R):=by
 have h1:Own w0 w (zh p W D T++(A::R)):=h.perm (by
  have:=(List.perm_middle (a:=A) (l₁:=zh p W D T) (l₂:=R)).symm
  exact this)
 have h2:=Own.U3 hf h1;exact h2.perm (List.Perm.swap _ _ _)
theorem R6 {B:Nat}{W:Wd}(wf:WF B W){g:Int}(h:W.lets g→xI W ((W.ins g.toNat).getD (0,0,0,0))=0)(u v:Int):zG W g u=zG W g v:=by
 unfold zG;by_cases hl:W.lets g
 ·rw[if_pos hl,if_pos hl]
  have hk:Rp W ((W.ins g.toNat).getD (0,0,0,0)):=by
   cases hx:W.ins g.toNat with
   | none=>exact⟨fun e=>absurd e (by decide),fun e=>absurd e (by decide)⟩
   | some x =>
    obtain⟨k1,-,-⟩:=wf.Uq hx;exact⟨fun e=>⟨k1.MP (.inr (.inr e)),by have:=wf.p.kl;omega,k1.VK (.inr (.inr e)) wf.p.ck⟩,fun e=>by have:=k1.o21 e;simp only[Option.getD_some] at *;omega⟩
  simp only[Tw hk (h hl)]
 ·rw[if_neg hl,if_neg hl]
def FK (w0:World)(p:Nat)(T:List Value)(W:Wd)(g:Int)(R:List zy)(Qd:Int→List zy→Prop)(Qp:Ending→List zy→Prop)(r:Ending)(w':World):Prop :=
 (∃v R' ra rc,((¬W.lets g∨xI W ((W.ins g.toNat).getD (0,0,0,0))=0)∧R'=R∨(W.lets g∧1≤xI W ((W.ins g.toNat).getD (0,0,0,0)))∧Qd v R') ∧
  r=.returned (.agg #[.bool (zG W g v).2.1,.slice ra (zG W g v).2.2.length rc])∧Own w0 w' (zd 1 ra rc (zG W g v).2.2.length (zr (zG W g v).2.2)::Xk p (zG W g v).1 T::R')) ∨
 (∃chain R',r=.panicked chain∧(W.lets g∧1≤xI W ((W.ins g.toNat).getD (0,0,0,0)))∧Qp r R'∧Own w0 w' (Xk p W T::R'))
theorem F9 {w0 w:World}{p:Nat}{T:List Value}{W:Wd}{R:List zy}{F:Nat}{fst cap:Array Value}{Qd:Int→List zy→Prop}{Qp:Ending→List zy→Prop}{B:Nat}(h:Own w0 w (Xk p W T::R))(wf:WF B W)(hB:B≤80000)(g:Int)
  (en:∀(args:Array Value) (w:World),(callFunc F args).run Tryz.prog w=.ok (.enter F args) w) (hd:W.lets g→1≤xI W ((W.ins g.toNat).getD (0,0,0,0))→Xq w0 p T W F fst cap (WO ((W.ins g.toNat).getD (0,0,0,0))) (xI W ((W.ins g.toNat).getD (0,0,0,0)):Int) R Qd Qp) :
  Calls Tryz.prog 85 #[.pointer (some ⟨p,0,none⟩),.int .i64 g,.func (.func F) fst cap] w fun r w'=>FK w0 p T W g R Qd Qp r w':=by
 obtain⟨D,hf,ho⟩:=h.FO;by_cases hl:W.lets g
 ·obtain⟨k,rfl⟩:∃k:Nat,g=(k:Int):=⟨g.toNat,by have:=hl.2.1;omega⟩
  have hl2:=hl;refine(LN (Qd:=Qd) (Qp:=Qp) ho hf k (wf.Eb hB hl) en (hd hl)).mono (fun r w' hh=>?_)
  rcases hh with⟨v,R',D',ra,rc,hq,h1,h2,h3⟩|⟨D',ch,R',h1,h2,h3,h4,h5⟩
  ·refine .inl ⟨v,R',ra,rc,?_,h1,Own.Oi h2 h3⟩
   rcases hq with⟨a,b⟩|⟨a,b⟩
   ·exact .inl ⟨.inr a,b⟩
   ·exact .inr ⟨⟨hl2,a⟩,b⟩
  ·exact .inr ⟨ch,R',h1,⟨hl2,h2⟩,h3,Own.U3 h4 h5⟩
 ·refine(Ig ho hf g hl (.func (.func F) fst cap)).mono (fun r w' hh=>?_)
  have e:zG W g 0=(W,false,[]):=by unfold zG;rw[if_neg hl]
  refine .inl ⟨0,R,none,0,.inl ⟨.inl hl,rfl⟩,?_,?_⟩
  ·rw[e];exact hh.1
  ·rw[e];exact Own.VJ 1 (Own.U3 hf hh.2)
section
variable {w0 w:World} {p:Nat} {W:Wd} {T:List Value} {R:List zy}
theorem Fz (h:Own w0 w (Xk p W T::R)):Calls Tryz.prog 25 #[.pointer (some ⟨p,0,none⟩)] w fun r w'=>r=.returned (.tuple #[.int .i64 W.en,.int .i64 W.why])∧∃k,w'=w.drewN k:=by
 obtain⟨D,hf,ho⟩:=h.FO;exact JP ho
theorem KY (h:Own w0 w (Xk p W T::R))(g:Int):Calls Tryz.prog 35 #[.pointer (some ⟨p,0,none⟩),.int .i64 g] w fun r w'=>r=.returned (.int .i64 (xp W g))∧w'=w:=by
 obtain⟨D,hf,ho⟩:=h.FO;exact XS ho hf g
theorem Cc (h:Own w0 w (Xk p W T::R)){B:Nat}(wf:WF B W):Calls Tryz.prog 21 #[.pointer (some ⟨p,0,none⟩)] w fun r w'=>∃a' c',r=.returned (.slice a' W.out.length c')∧zU 1 w' a' c' W.out.length (zr W.out)∧(∀x∈yf a',w.heap.size≤x)∧Below w.heap.size w w':=by
 obtain⟨D,hf,ho⟩:=h.FO;exact Lf ho (by have:=wf.out;omega)
end
theorem D7 (w:World)(fa:Option Addr)(fc:Nat)(fr:List (Option Addr×Nat))(fs:List (List zS))(ra:Option Addr)(rc:Nat)(rooms:List Int)(zN:Nat)(ca:Option Addr)(cc:Nat)(ks:List Zc)(hp:YU w fa fr fs ra rooms ca cc ks)(hlk:zN≤1000) :
  Calls Tryz.prog 37 #[.agg #[.slice fa fs.length fc,.slice ra rooms.length rc,.int .i64 (zN:Int),.slice ca ks.length cc]] w fun r w'=>∃b,r=.returned (.pointer (some ⟨b,0,none⟩))∧Own w w' [Xk b (xu fs ks rooms zN) []]:=by
 refine(Ln w fa fc fr fs ra rc rooms zN ca cc ks hp hlk).mono (fun r w' hh=>?_)
 obtain⟨b,D,h1,hf,ho⟩:=hh;exact⟨b,h1,Own.U3 (R:=[]) hf (by rw[List.append_nil];exact ho)⟩
end Go.Proofs.YtlkjheheofgdgaaGreat
open Go Go.RowKit
namespace Go.Proofs.YtlkjheheofgdgaaGreat
structure Sa where
 D:Wa
 pa:Option Addr
 pc:Nat
 ld:List (Nat×Nat)
 ma:Option Addr
 mc:Nat
 ga:Option Addr
 gc:Nat
def JJ (l:Nat×Nat)(P:Pm):Qd:=⟨l.1,l.2,P.N,P.q,none,0⟩
def WY (ld:List (Nat×Nat))(ps:List Pm):List Qd:=List.zipWith JJ ld ps
def FX (x:(Nat×Nat)×Pm):List Value:=[.pointer (some ⟨x.1.1,0,none⟩),.int .i64 (x.2.tu:Int),.int .i64 x.2.by_]
def YK (ld:List (Nat×Nat))(ps:List Pm):List Value:=(List.zip ld ps).flatMap FX
def EM (M:Mm):List Value:=[.int .i64 M.P,.int .i64 M.G,.int .i64 M.L]
def We (ms:List Mm):List Value:=ms.flatMap EM
def UI (sp:Nat)(X:Sd)(S:Sa):List Value:=[.pointer (some ⟨sp,0,none⟩),.slice S.pa X.ps.length S.pc,.slice S.ma X.ms.length S.mc,.slice S.ga X.gl.length S.gc,.int .i64 X.sl,.int .i64 (X.st:Int)]
def JT (W:Wd)(D:Wa):List zy:=(zh 0 W D []).tail
theorem Te (p:Nat)(W:Wd)(D:Wa)(T:List Value):zh p W D T=zf p (yD W D++T)::JT W D:=rfl
def yV (b sp:Nat)(X:Sd)(S:Sa):List zy :=
 [zf b (yD X.W S.D++UI sp X S),zd 3 S.pa S.pc X.ps.length (YK S.ld X.ps),yT (Y3 (WY S.ld X.ps)),zd 3 S.ma S.mc X.ms.length (We X.ms),zd 1 S.ga S.gc X.gl.length (zr X.gl),yT (JT X.W S.D)]
structure Sa.fits (S:Sa) (X:Sd):Prop where
 w:S.D.fits X.W
 l:S.ld.length=X.ps.length
def yx (b sp:Nat)(X:Sd):zy where
 at_ w F:=∃S:Sa,S.fits X∧Sep w (yV b sp X S) F
 lt:=by rintro w F ⟨S,-,h⟩;exact h.lt
 yC:=by rintro w w' F G ⟨S,h1,h⟩ c hd;exact⟨S,h1,h.yC c hd⟩
section
variable {w0 w:World} {b sp:Nat} {X:Sd} {R:List zy}
theorem Own.Bd (h:Own w0 w (yx b sp X::R)):∃S:Sa,S.fits X∧Own w0 w (yV b sp X S++R):=by
 obtain⟨As,⟨S,hf,rfl⟩,h1⟩:=Own.unfold h (P:=fun As=>∃S:Sa,S.fits X∧As=yV b sp X S) (fun F ⟨S,hf,hF⟩=>⟨_,⟨S,hf,rfl⟩,hF⟩)
 exact⟨S,hf,h1⟩
theorem Own.D3 {S:Sa}(hf:S.fits X)(h:Own w0 w (yV b sp X S++R)):Own w0 w (yx b sp X::R):=Own.fold h (fun F hF=>⟨S,hf,hF⟩)
def WT (X:Sd)(S:Sa):List zy:=[zd 3 S.pa S.pc X.ps.length (YK S.ld X.ps),yT (Y3 (WY S.ld X.ps)),zd 3 S.ma S.mc X.ms.length (We X.ms),zd 1 S.ga S.gc X.gl.length (zr X.gl)]
theorem Own.Bb {S:Sa}(hf:S.fits X)(h:Own w0 w (yV b sp X S++R)):Own w0 w (Xk b X.W (UI sp X S)::(WT X S++R)):=by
 have h1:Own w0 w (yT (JT X.W S.D)::zf b (yD X.W S.D++UI sp X S)::(WT X S++R)):=h.pick 5 rfl
 have h2:=h1.DF;refine Own.U3 hf.w (T:=UI sp X S) (h2.perm ?_)
 rw[Te];exact List.perm_middle
theorem Own.C9 {S:Sa}{W':Wd}(hl:S.ld.length=X.ps.length)(h:Own w0 w (Xk b W' (UI sp X S)::(WT X S++R))):∃D',(Sa.fits { S with D:=D' } { X with W:=W' })∧Own w0 w (yV b sp { X with W:=W' } { S with D:=D' }++R):=by
 obtain⟨D',hD,h1⟩:=h.FO;rw[Te] at h1;refine⟨D',⟨hD,hl⟩,?_⟩
 have h2:Own w0 w (JT W' D'++(zf b (yD W' D'++UI sp X S)::(WT X S++R))):=h1.perm List.perm_middle.symm
 have h3:Own w0 w (yT (JT W' D')::zf b (yD W' D'++UI sp X S)::(WT X S++R)):=Own.MW h2
 exact h3.back (As:=zf b (yD W' D'++UI sp X S)::zd 3 S.pa S.pc X.ps.length (YK S.ld X.ps)::yT (Y3 (WY S.ld X.ps))::zd 3 S.ma S.mc X.ms.length (We X.ms)::zd 1 S.ga S.gc X.gl.length (zr X.gl)::yT (JT W' D')::R) (i:=5) (by simp)
def V2 (b sp:Nat)(X:Sd)(S:Sa):Gp :=
 {b:=b,c0:=.slice S.D.fa X.W.fs.length S.D.fc,c1:=.slice S.D.ca X.W.ks.length S.D.cc,c2:=.slice S.D.aa X.W.gs.length S.D.ac,c3:=.slice S.D.ha X.W.Cs.length S.D.hc,c4:=.slice S.D.la X.W.Ls.length S.D.lc,c5:=S.D.sv,
  c6:=.int .u64 (X.W.nx:Int),c7:=.int .u64 (X.W.clock:Int),c8:=.slice S.D.oa X.W.out.length S.D.oc,c9:=.int .i64 X.W.en,c10:=.int .i64 X.W.why,ZW:=.pointer (some ⟨sp,0,none⟩),ZB:=.slice S.pa X.ps.length S.pc,x6:=.slice S.ma X.ms.length S.mc,T:=[.int .i64 X.sl,.int .i64 (X.st:Int)] }
theorem Own.CA {g:Gp}{a:Option Addr}{c:Nat}{gl:List Int}(h:Own w0 w (zf g.b (g.cs (.slice a gl.length c))::zd 1 a c gl.length (zr gl)::R)):Own w0 w (Ya g gl::R):=by
 refine Own.fold (As:=[zf g.b (g.cs (.slice a gl.length c)),zd 1 a c gl.length (zr gl)]) h ?_
 rintro F ⟨F1,F2,rfl,⟨rfl,hb,hB⟩,hd,F3,F4,rfl,⟨rfl,hr⟩,-,rfl⟩
 refine⟨a,c,by simp,?_,hB,(zU.LV hr).1⟩
 have:=hd g.b (by simp)
 simpa using this
theorem Own.Ca {g:Gp}{gl:List Int}(h:Own w0 w (Ya g gl::R)):∃a c,Own w0 w (zf g.b (g.cs (.slice a gl.length c))::zd 1 a c gl.length (zr gl)::R):=by
 obtain⟨As,⟨a,c,rfl⟩,h1⟩:=Own.unfold h (P:=fun As=>∃a c,As=[zf g.b (g.cs (.slice a gl.length c)),zd 1 a c gl.length (zr gl)]) (fun F hF=>by
  obtain⟨a,c,rfl,h2,h3,h4⟩:=hF;exact⟨_,⟨a,c,rfl⟩,[g.b],yf a,by simp,⟨rfl,h3.lt (by simp[Gp.cs]),h3⟩,fun x hx hc=>by simp at hx;subst hx;exact h2 hc,yf a,[],by simp,⟨rfl,zU.Lp h4⟩,fun x hx=>by simp,rfl⟩)
 exact⟨a,c,h1⟩
theorem KM (b sp:Nat)(X:Sd)(S:Sa):(V2 b sp X S).cs (.slice S.ga X.gl.length S.gc)=yD X.W S.D++UI sp X S:=rfl
def OW (X:Sd)(S:Sa):List zy:=[zd 3 S.pa S.pc X.ps.length (YK S.ld X.ps),zd 3 S.ma S.mc X.ms.length (We X.ms),yT (JT X.W S.D)]
theorem Own.CE {S:Sa}(h:Own w0 w (yV b sp X S++R)):Own w0 w (Ya (V2 b sp X S) X.gl::yT (Y3 (WY S.ld X.ps))::(OW X S++R)):=by
 have h1:Own w0 w (zf b ((V2 b sp X S).cs (.slice S.ga X.gl.length S.gc))::zd 1 S.ga S.gc X.gl.length (zr X.gl)::yT (Y3 (WY S.ld X.ps))::(OW X S++R)):=by
  rw[KM];refine h.perm ?_
  show List.Perm (zf b _::zd 3 _ _ _ _::yT _::zd 3 _ _ _ _::zd 1 _ _ _ _::yT _::R) (zf b _::zd 1 _ _ _ _::yT _::zd 3 _ _ _ _::zd 3 _ _ _ _::yT _::R)
  refine List.Perm.cons _ ?_
  exact(Zb _ 3 _ rfl).trans (List.Perm.cons _ (Zb _ 1 _ rfl))
 exact Own.CA (g:=V2 b sp X S) h1
theorem Own.C7 {S:Sa}{gl:List Int}{ps:List Pm}(hp:ps.length=X.ps.length)(h:Own w0 w (Ya (V2 b sp X S) gl::yT (Y3 (WY S.ld ps))::(OW X S++R)))(hpc:YK S.ld ps=YK S.ld X.ps):∃a c,Own w0 w (yV b sp { X with gl:=gl,ps:=ps } { S with ga:=a,gc:=c }++R):=by
 obtain⟨a,c,h1⟩:=h.Ca;refine⟨a,c,?_⟩
 have h2:Own w0 w (zf b (yD X.W S.D++UI sp { X with gl:=gl,ps:=ps } { S with ga:=a,gc:=c })::zd 1 a c gl.length (zr gl)::yT (Y3 (WY S.ld ps))::zd 3 S.pa S.pc ps.length (YK S.ld ps)::zd 3 S.ma S.mc X.ms.length (We X.ms)::yT (JT X.W S.D)::R):=by
  rw[hpc];have e:yD X.W S.D++UI sp { X with gl:=gl,ps:=ps } { S with ga:=a,gc:=c }=(V2 b sp X S).cs (.slice a gl.length c):=by
   unfold UI;simp only[hp];rfl
  rw[e,hp];exact h1
 refine h2.perm ?_
 show List.Perm _ (zf b _::zd 3 _ _ _ _::yT _::zd 3 _ _ _ _::zd 1 _ _ _ _::yT _::R)
 refine List.Perm.cons _ ?_
 exact((Zb [zd 3 S.pa S.pc ps.length (YK S.ld ps),yT (Y3 (WY S.ld ps)),zd 3 S.ma S.mc X.ms.length (We X.ms),zd 1 a c gl.length (zr gl),yT (JT X.W S.D)] 3 _ rfl).trans (List.Perm.cons _ (Zb _ 1 _ rfl))).symm.append_right R
end
theorem VB (ld:List (Nat×Nat))(ps:List Pm)(h:ld.length=ps.length):(YK ld ps).length=ps.length*3:=by
 unfold YK;rw[ZP FX 3 (fun _=>rfl),List.length_zip,h,Nat.min_self]
theorem zU.part {s:Nat}{w:World}{b off cap n:Nat}{cs:List Value}(h:zU s w (some ⟨b,off,none⟩) cap n cs)(j:Nat)(v:Value)(hj:cs[j]?=some v):w.cell? ⟨b,off+j,none⟩=some v∧w.frozen? ⟨b,off+j,none⟩=false:=by
 obtain⟨b',off',e,hc⟩:=h.cells j v hj;cases e
 have hl:=(List.getElem?_eq_some_iff.1 hj).1
 have h1:=h;obtain⟨h2,h3,h4,h5⟩:=h1;obtain⟨u,-,hz⟩:=h.spot j (by
  have:n*s≤cap*s:=Nat.mul_le_mul_right s (by first|exact h3|exact h2)
  omega)
 exact⟨hc,hz⟩
theorem zU.some {s:Nat}{w:World}{a:Option Addr}{cap n:Nat}{cs:List Value}(h:zU s w a cap n cs){j:Nat}(hj:j<cs.length):∃b off,a=some ⟨b,off,none⟩:=by
 obtain⟨b,off,e,-⟩:=h.cells j _ (List.getElem?_eq_getElem hj)
 exact⟨b,off,e⟩
section
variable {w0 w:World} {R:List zy} {ld:List (Nat×Nat)} {ps:List Pm} {a:Option Addr} {cap:Nat}
theorem Ok {i:Nat}{l:Nat×Nat}{P:Pm}(hl:ld[i]?=some l)(hP:ps[i]?=some P):(List.zip ld ps)[i]?=some (l,P):=by rw[List.getElem?_zip_eq_some];exact⟨hl,hP⟩
theorem Yv {i:Nat}{l:Nat×Nat}{P:Pm}(hl:ld[i]?=some l)(hP:ps[i]?=some P)(k:Nat)(hk:k<3):(YK ld ps)[i*3+k]?=(FX (l,P))[k]?:=by
 have hz:=Ok hl hP;obtain⟨h1,h2⟩:=List.getElem?_eq_some_iff.1 hz
 unfold YK;rw[Zx FX 3 (fun _=>rfl) _ i k h1 hk,h2]
theorem Se {i:Nat}{l:Nat×Nat}{P P':Pm}(hl:ld[i]?=some l)(hP:ps[i]?=some P):YK ld (ps.set i P')=setL (YK ld ps) (i*3) (FX (l,P')):=by
 have hz:=Ok hl hP;obtain⟨h1,h2⟩:=List.getElem?_eq_some_iff.1 hz
 unfold YK;rw[UG FX 3 (fun _=>rfl) _ i _ h1,V0,yt ld i l hl]
theorem YY {ms:List Mm}{i:Nat}{M:Mm}(hM:ms[i]?=some M)(k:Nat)(hk:k<3):(We ms)[i*3+k]?=(EM M)[k]?:=by
 obtain⟨h1,h2⟩:=List.getElem?_eq_some_iff.1 hM
 unfold We;rw[Zx EM 3 (fun _=>rfl) _ i k h1 hk,h2]
theorem TX {ms:List Mm}{i:Nat}{M:Mm}(hi:i<ms.length):We (ms.set i M)=setL (We ms) (i*3) (EM M):=by
 unfold We;rw[UG EM 3 (fun _=>rfl) _ i _ hi]
theorem Sn (ms:List Mm):(We ms).length=ms.length*3:=by unfold We;exact ZP EM 3 (fun _=>rfl) ms
theorem Tt (cs:List Value)(o:Nat)(x y z:Value):setL cs o [x,y,z]=((cs.set o x).set (o+1) y).set (o+2) z:=by
 unfold setL;rfl
theorem EJ {i:Nat}{l:Nat×Nat}{P:Pm}(hl:ld[i]?=some l)(hP:ps[i]?=some P)(t:Nat):(YK ld ps).set (i*3+1) (.int .i64 (t:Int))=YK ld (ps.set i { P with tu:=t }):=by
 rw[Se hl hP];show _=setL _ _ [_,_,_]
 rw[Tt,yt (YK ld ps) (i*3) _ ((Yv hl hP 0 (by omega)).trans rfl),yt _ (i*3+2) _ (by
  rw[List.getElem?_set_ne (by omega),Yv hl hP 2 (by omega)];rfl)]
theorem Dn {i:Nat}{l:Nat×Nat}{P:Pm}(hl:ld[i]?=some l)(hP:ps[i]?=some P)(t:Int):(YK ld ps).set (i*3+2) (.int .i64 t)=YK ld (ps.set i { P with by_:=t }):=by
 rw[Se hl hP];show _=setL _ _ [_,_,_]
 rw[Tt,yt (YK ld ps) (i*3) _ ((Yv hl hP 0 (by omega)).trans rfl),yt (YK ld ps) (i*3+1) _ (by
  rw[Yv hl hP 1 (by omega)];rfl)]
theorem PX {i:Nat}{l:Nat×Nat}{P:Pm}(hl:ld[i]?=some l)(hP:ps[i]?=some P)(q:LQ):YK ld (ps.set i { P with q:=q })=YK ld ps:=by
 rw[Se hl hP];show setL _ _ [_,_,_]=_
 rw[Tt,yt (YK ld ps) (i*3) _ ((Yv hl hP 0 (by omega)).trans rfl),yt (YK ld ps) (i*3+1) _ (by
  rw[Yv hl hP 1 (by omega)];rfl),yt (YK ld ps) (i*3+2) _ (by rw[Yv hl hP 2 (by omega)];rfl)]
theorem VV {i:Nat}{l:Nat×Nat}{P:Pm}(hl:ld[i]?=some l)(hP:ps[i]?=some P):(WY ld ps)[i]?=some (JJ l P):=by
 unfold WY;rw[List.getElem?_zipWith,hl,hP]
theorem VC (i:Nat){l:Nat×Nat}(hl:ld[i]?=some l)(P:Pm):(WY ld ps).set i (JJ l P)=WY ld (ps.set i P):=by
 apply List.ext_getElem?
 intro j;unfold WY;rw[List.getElem?_zipWith,List.getElem?_set,List.getElem?_set,List.length_zipWith,List.getElem?_zipWith]
 have hll:=(List.getElem?_eq_some_iff.1 hl).1
 by_cases e:i=j
 ·subst e
  by_cases h2:i<ps.length
  ·rw[if_pos rfl,if_pos (by omega)];simp[h2,hl]
  ·rw[if_pos rfl,if_neg (by omega)]
   simp[h2,hl]
 ·simp[e]
theorem RG {i:Nat}{P:Pm}{P':Pm}(hP:ps[i]?=some P)(hN:P'.N=P.N)(hq:P'.q=P.q):WY ld (ps.set i P')=WY ld ps:=by
 apply List.ext_getElem?
 intro j;unfold WY;rw[List.getElem?_zipWith,List.getElem?_zipWith,List.getElem?_set]
 by_cases e:i=j
 ·subst e
  rw[if_pos rfl,if_pos (List.getElem?_eq_some_iff.1 hP).1,hP]
  cases ld[i]? with
  | none=>rfl
  | some l=>simp[JJ,hN,hq]
 ·rw[if_neg e]
end
end Go.Proofs.YtlkjheheofgdgaaGreat
open Go Go.RowKit
namespace Go.Proofs.YtlkjheheofgdgaaGreat
section
variable {w0 w:World} {b sp:Nat} {X:Sd} {S:Sa} {R:List zy}
theorem PU (h:Own w0 w (yV b sp X S++R))(hf:S.fits X){i:Nat}(hi:i<X.ps.length):∃pb off p g,S.pa=some ⟨pb,off,none⟩∧S.ld[i]?=some (p,g) ∧
  (w.cell? ⟨pb,off+i*3,none⟩=some (.pointer (some ⟨p,0,none⟩))∧w.cell? ⟨pb,off+i*3+1,none⟩=some (.int .i64 ((X.p i).tu:Int))∧w.cell? ⟨pb,off+i*3+2,none⟩=some (.int .i64 (X.p i).by_)) ∧
  w.frozen? ⟨pb,off+i*3+1,none⟩=false∧w.frozen? ⟨pb,off+i*3+2,none⟩=false:=by
 have hr:=h.yZ 1 rfl;have hl:i<S.ld.length:=by rw[hf.l];exact hi
 obtain⟨l,hl2⟩:∃l,S.ld[i]?=some l:=⟨_,List.getElem?_eq_getElem hl⟩
 obtain⟨pb,off,e⟩:=hr.some (j:=i*3) (by rw[VB _ _ hf.l];omega)
 rw[e] at hr;obtain⟨a0,-⟩:=hr.part (i*3) _ (by have:=Yv hl2 (X.ZS hi) 0 (by omega);rw[Nat.add_zero] at this;exact this.trans rfl)
 obtain⟨a1,b1⟩:=hr.part (i*3+1) _ ((Yv hl2 (X.ZS hi) 1 (by omega)).trans rfl)
 obtain⟨a2,b2⟩:=hr.part (i*3+2) _ ((Yv hl2 (X.ZS hi) 2 (by omega)).trans rfl)
 rw[←Nat.add_assoc] at a1 b1 a2 b2;exact⟨pb,off,l.1,l.2,e,hl2,⟨a0,a1,a2⟩,b1,b2⟩
theorem Ol (h:Own w0 w (yV b sp X S++R)){i:Nat}(hi:i<X.ms.length):∃mb off,S.ma=some ⟨mb,off,none⟩ ∧
  (w.cell? ⟨mb,off+i*3,none⟩=some (.int .i64 (X.m i).P)∧w.cell? ⟨mb,off+i*3+1,none⟩=some (.int .i64 (X.m i).G)∧w.cell? ⟨mb,off+i*3+2,none⟩=some (.int .i64 (X.m i).L)) ∧
  w.frozen? ⟨mb,off+i*3,none⟩=false∧w.frozen? ⟨mb,off+i*3+1,none⟩=false∧w.frozen? ⟨mb,off+i*3+2,none⟩=false:=by
 have hr:=h.yZ 3 rfl;obtain⟨mb,off,e⟩:=hr.some (j:=i*3) (by rw[Sn];omega)
 rw[e] at hr;obtain⟨a0,b0⟩:=hr.part (i*3) _ (by have:=YY (X.Pr hi) 0 (by omega);rw[Nat.add_zero] at this;exact this.trans rfl)
 obtain⟨a1,b1⟩:=hr.part (i*3+1) _ ((YY (X.Pr hi) 1 (by omega)).trans rfl)
 obtain⟨a2,b2⟩:=hr.part (i*3+2) _ ((YY (X.Pr hi) 2 (by omega)).trans rfl)
 rw[←Nat.add_assoc] at a1 b1 a2 b2;exact⟨mb,off,e,⟨a0,a1,a2⟩,b0,b1,b2⟩
theorem Sa.fits.zH (hf:S.fits X)(i:Nat)(P:Pm):S.fits (X.zH i P):=⟨hf.w,by rw[hf.l];unfold Sd.zH;simp⟩
theorem Sa.fits.zL (hf:S.fits X)(i:Nat)(M:Mm):S.fits (X.zL i M):=⟨hf.w,hf.l⟩
theorem EV (h:Own w0 w (yV b sp X S++R))(hf:S.fits X){i pb off:Nat}(hi:i<X.ps.length)(hpa:S.pa=some ⟨pb,off,none⟩)(t:Int) :
  Own w0 (w.setCell ⟨pb,off+i*3+2,none⟩ (.int .i64 t)) (yV b sp (X.zH i { X.p i with by_:=t }) S++R):=by
 have hl:i<S.ld.length:=by rw[hf.l];exact hi
 obtain⟨l,hl2⟩:∃l,S.ld[i]?=some l:=⟨_,List.getElem?_eq_getElem hl⟩
 have h1:=h.pick 1 rfl;have hlen:(X.ps.set i { X.p i with by_:=t }).length=X.ps.length:=by simp
 have e2:WY S.ld (X.ps.set i { X.p i with by_:=t })=WY S.ld X.ps:=RG (X.ZS hi) rfl rfl
 have hb:=fun(w':World) (hh:Own w0 w' (zd 3 S.pa S.pc X.ps.length (YK S.ld (X.ps.set i { X.p i with by_:=t }))::(yV b sp X S++R).eraseIdx 1))=>hh.back (As:=yV b sp X S++R) (i:=1) (by simp[yV])
 have key:Own w0 (w.setCell ⟨pb,off+i*3+2,none⟩ (.int .i64 t)) (zd 3 S.pa S.pc X.ps.length (YK S.ld (X.ps.set i { X.p i with by_:=t }))::(yV b sp X S++R).eraseIdx 1):=by
  rw[←Dn hl2 (X.ZS hi)]
  have h2:=h1;rw[hpa] at h2 ⊢;have h3:=h2.ZG (i*3+2) (.int .i64 t) (by rw[VB _ _ hf.l];omega)
  rw[←Nat.add_assoc] at h3;exact h3
 have h4:=hb _ key;unfold yV UI Sd.zH;simp only
 rw[hlen,e2];exact h4
theorem Ex (h:Own w0 w (yV b sp X S++R))(hf:S.fits X){i pb off:Nat}(hi:i<X.ps.length)(hpa:S.pa=some ⟨pb,off,none⟩)(t:Nat) :
  Own w0 (w.setCell ⟨pb,off+i*3+1,none⟩ (.int .i64 (t:Int))) (yV b sp (X.zH i { X.p i with tu:=t }) S++R):=by
 have hl:i<S.ld.length:=by rw[hf.l];exact hi
 obtain⟨l,hl2⟩:∃l,S.ld[i]?=some l:=⟨_,List.getElem?_eq_getElem hl⟩
 have h1:=h.pick 1 rfl;have hlen:(X.ps.set i { X.p i with tu:=t }).length=X.ps.length:=by simp
 have e2:WY S.ld (X.ps.set i { X.p i with tu:=t })=WY S.ld X.ps:=RG (X.ZS hi) rfl rfl
 have hb:=fun(w':World) (hh:Own w0 w' (zd 3 S.pa S.pc X.ps.length (YK S.ld (X.ps.set i { X.p i with tu:=t }))::(yV b sp X S++R).eraseIdx 1))=>hh.back (As:=yV b sp X S++R) (i:=1) (by simp[yV])
 have key:Own w0 (w.setCell ⟨pb,off+i*3+1,none⟩ (.int .i64 (t:Int))) (zd 3 S.pa S.pc X.ps.length (YK S.ld (X.ps.set i { X.p i with tu:=t }))::(yV b sp X S++R).eraseIdx 1):=by
  rw[←EJ hl2 (X.ZS hi)]
  have h2:=h1;rw[hpa] at h2 ⊢;have h3:=h2.ZG (i*3+1) (.int .i64 (t:Int)) (by rw[VB _ _ hf.l];omega)
  rw[←Nat.add_assoc] at h3;exact h3
 have h4:=hb _ key;unfold yV UI Sd.zH;simp only
 rw[hlen,e2];exact h4
theorem DJ {ms:List Mm}{i:Nat}{M:Mm}(hM:ms[i]?=some M)(t:Int):(We ms).set (i*3) (.int .i64 t)=We (ms.set i { M with P:=t }):=by
 rw[TX (List.getElem?_eq_some_iff.1 hM).1]
 show _=setL _ _ [_,_,_]
 rw[Tt,yt _ (i*3+1) _ (by rw[List.getElem?_set_ne (by omega),YY hM 1 (by omega)];rfl),yt _ (i*3+2) _ (by rw[List.getElem?_set_ne (by omega),YY hM 2 (by omega)];rfl)]
theorem Cg {ms:List Mm}{i:Nat}{M:Mm}(hM:ms[i]?=some M)(t:Int):(We ms).set (i*3+1) (.int .i64 t)=We (ms.set i { M with G:=t }):=by
 rw[TX (List.getElem?_eq_some_iff.1 hM).1]
 show _=setL _ _ [_,_,_]
 rw[Tt,yt (We ms) (i*3) _ ((YY hM 0 (by omega)).trans rfl),yt _ (i*3+2) _ (by rw[List.getElem?_set_ne (by omega),YY hM 2 (by omega)];rfl)]
theorem DZ {ms:List Mm}{i:Nat}{M:Mm}(hM:ms[i]?=some M)(t:Int):(We ms).set (i*3+2) (.int .i64 t)=We (ms.set i { M with L:=t }):=by
 rw[TX (List.getElem?_eq_some_iff.1 hM).1]
 show _=setL _ _ [_,_,_]
 rw[Tt,yt (We ms) (i*3) _ ((YY hM 0 (by omega)).trans rfl),yt (We ms) (i*3+1) _ (by rw[YY hM 1 (by omega)];rfl)]
theorem PK (h:Own w0 w (yV b sp X S++R)){i mb off:Nat}(hi:i<X.ms.length)(hma:S.ma=some ⟨mb,off,none⟩)(k:Nat)(hk:k<3)(v:Value)(M:Mm)(e:(We X.ms).set (i*3+k) v=We (X.ms.set i M)) :
  Own w0 (w.setCell ⟨mb,off+(i*3+k),none⟩ v) (yV b sp (X.zL i M) S++R):=by
 have h1:=h.pick 3 rfl;have hlen:(X.ms.set i M).length=X.ms.length:=by simp
 have key:Own w0 (w.setCell ⟨mb,off+(i*3+k),none⟩ v) (zd 3 S.ma S.mc X.ms.length (We (X.ms.set i M))::(yV b sp X S++R).eraseIdx 3):=by
  rw[←e];have h2:=h1;rw[hma] at h2 ⊢;exact h2.ZG (i*3+k) v (by rw[Sn];omega)
 have h4:=key.back (As:=yV b sp X S++R) (i:=3) (by simp[yV])
 unfold yV UI Sd.zL;simp only
 rw[hlen];exact h4
theorem FZ (h:Own w0 w (yV b sp X S++R)){i mb off:Nat}(hi:i<X.ms.length)(hma:S.ma=some ⟨mb,off,none⟩)(t:Int):Own w0 (w.setCell ⟨mb,off+i*3,none⟩ (.int .i64 t)) (yV b sp (X.zL i { X.m i with P:=t }) S++R) :=
 PK h hi hma 0 (by omega) _ _ (DJ (X.Pr hi) t)
theorem F0 (h:Own w0 w (yV b sp X S++R)){i mb off:Nat}(hi:i<X.ms.length)(hma:S.ma=some ⟨mb,off,none⟩)(t:Int):Own w0 (w.setCell ⟨mb,off+i*3+1,none⟩ (.int .i64 t)) (yV b sp (X.zL i { X.m i with G:=t }) S++R) :=
 PK h hi hma 1 (by omega) _ _ (Cg (X.Pr hi) t)
theorem EB (h:Own w0 w (yV b sp X S++R)){i mb off:Nat}(hi:i<X.ms.length)(hma:S.ma=some ⟨mb,off,none⟩)(t:Int):Own w0 (w.setCell ⟨mb,off+i*3+2,none⟩ (.int .i64 t)) (yV b sp (X.zL i { X.m i with L:=t }) S++R) :=
 PK h hi hma 2 (by omega) _ _ (DZ (X.Pr hi) t)
theorem Pn (h:Own w0 w (yV b sp X S++R))(hf:S.fits X){i p g:Nat}(hi:i<X.ps.length)(hl:S.ld[i]?=some (p,g)){q':LQ}{gl':List Int}{f:FuncId}{args:Array Value}{ret:Ending→Prop}
  (hc:∀R',Own w0 w (ZA ⟨p,g,(X.p i).N,(X.p i).q,none,0⟩::Ya (V2 b sp X S) X.gl::R')→Calls Tryz.prog f args w fun r w'=>ret r∧Own w0 w' (ZA ⟨p,g,(X.p i).N,q',none,0⟩::Ya (V2 b sp X S) gl'::R')) :
  Calls Tryz.prog f args w fun r w'=>ret r∧∃a c,Own w0 w' (yV b sp { X.zH i { X.p i with q:=q' } with gl:=gl' } { S with ga:=a,gc:=c }++R):=by
 have h1:=h.CE.pick 1 rfl;obtain⟨R',h2,h3⟩:=h1.ZZ (WB (VV hl (X.ZS hi)))
 have h4:Own w0 w (ZA ⟨p,g,(X.p i).N,(X.p i).q,none,0⟩::Ya (V2 b sp X S) X.gl::(R'++(OW X S++R))):=h2.perm (List.Perm.cons _ List.perm_middle)
 refine(hc _ h4).mono (fun r w' hh=>⟨hh.1,?_⟩)
 have k1:Own w0 w' (ZA ⟨p,g,(X.p i).N,q',none,0⟩::(R'++(Ya (V2 b sp X S) gl'::(OW X S++R)))):=hh.2.perm (List.Perm.cons _ List.perm_middle.symm)
 have k2:=h3 _ _ _ k1;rw[Wq,show(⟨p,g,(X.p i).N,q',none,0⟩:Qd)=JJ (p,g) { X.p i with q:=q' } from rfl,VC i hl] at k2
 have k3:=k2.perm (List.Perm.swap _ _ _)
 exact Own.C7 (X:=X) (by simp[Sd.zH]) k3 (PX hl (X.ZS hi) q')
theorem Eh (h:Own w0 w (yV b sp X S++R))(hf:S.fits X){i p g:Nat}(hi:i<X.ps.length)(hl:S.ld[i]?=some (p,g)){q':LQ}{f:FuncId}{args:Array Value}{ret:Ending→Prop}
  (hc:∀R',Own w0 w (ZA ⟨p,g,(X.p i).N,(X.p i).q,none,0⟩::R')→Calls Tryz.prog f args w fun r w'=>ret r∧Own w0 w' (ZA ⟨p,g,(X.p i).N,q',none,0⟩::R')) :
  Calls Tryz.prog f args w fun r w'=>ret r∧Own w0 w' (yV b sp (X.zH i { X.p i with q:=q' }) S++R):=by
 have h1:=h.pick 2 rfl;obtain⟨R',h2,h3⟩:=h1.ZZ (WB (VV hl (X.ZS hi)))
 refine(hc _ h2).mono (fun r w' hh=>⟨hh.1,?_⟩)
 have k2:=h3 _ _ _ hh.2;rw[Wq,show(⟨p,g,(X.p i).N,q',none,0⟩:Qd)=JJ (p,g) { X.p i with q:=q' } from rfl,VC i hl] at k2
 have k3:=k2.back (As:=yV b sp X S++R) (i:=2) (by simp[yV])
 have e:YK S.ld (X.ps.set i { X.p i with q:=q' })=YK S.ld X.ps:=PX hl (X.ZS hi) q'
 have hlen:(X.ps.set i { X.p i with q:=q' }).length=X.ps.length:=by simp
 unfold yV UI Sd.zH;simp only
 rw[hlen,e];exact k3
end
end Go.Proofs.YtlkjheheofgdgaaGreat
open Go Go.RowKit
namespace Go.Proofs.YtlkjheheofgdgaaGreat
structure yQ (W W':Wd) (g:Nat) (rd:List Int):Prop where
 nd:rd.Nodup
 len:W.gs.length≤W'.gs.length
 st:∀h∈rd,∃k:Nat,h=(k:Int)∧k≠g∧(W.g k).st≠1∧(W'.g k).st=1
 oth:∀k:Nat,k≠g→(k:Int)∉rd→((W'.g k).st=1↔(W.g k).st=1)
def yl (W W':Wd):Prop:=W'.gs.length=W.gs.length∧∀k,(W'.g k).st=(W.g k).st
theorem yl.refl (W:Wd):yl W W:=⟨rfl,fun _=>rfl⟩
theorem yl.trans {A B C:Wd}(h:yl A B)(k:yl B C):yl A C:=⟨k.1.trans h.1,fun i=>(k.2 i).trans (h.2 i)⟩
theorem Wk {W:Wd}{k:Nat}(h:¬k<W.gs.length):W.g k=g0:=by
 unfold Wd.g;rw[List.getD_eq_getElem?_getD,List.getElem?_eq_none (by omega)];rfl
theorem yl.ye {W:Wd}{g:Nat}{G:Gt}(h:G.st=(W.g g).st):yl W (W.ye g G):=by
 by_cases hg:g<W.gs.length
 ·refine⟨by unfold Wd.ye;simp,fun k=>?_⟩
  rw[Wd.Yt _ _ _ _ hg];split
  ·rename_i e;subst e;exact h
  ·rfl
 ·rw[WM hg];exact yl.refl W
theorem yl.put (W:Wd)(g:Nat)(k v:Int):yl W (W.put g k v):=yl.ye rfl
theorem yl.S7 {W W':Wd}(h:W'.gs=W.gs):yl W W':=⟨by rw[h],fun k=>by unfold Wd.g;rw[h]⟩
theorem yl.fin (W:Wd)(x:zS)(w:Wt)(s:Bool):yl W (W.fin x w s):=by
 unfold Wd.fin;simp only
 split<;>split<;>(try split)<;>first
  | exact(yl.put _ _ _ _).trans (yl.put _ _ _ _)
  | exact yl.put _ _ _ _
  | exact yl.refl _
theorem yQ.refl (W:Wd)(g:Nat):yQ W W g []:=⟨List.nodup_nil,Nat.le_refl _,fun h hh=>by simp at hh,fun _ _ _=>Iff.rfl⟩
theorem yQ.base {W A:Wd}(g:Nat)(h:A.gs=W.gs):yQ W A g []:=by
 have e:∀k,A.g k=W.g k:=fun k=>by unfold Wd.g;rw[h]
 exact⟨List.nodup_nil,by rw[h];exact Nat.le_refl _,fun h hh=>by simp at hh,fun _ _ _=>by rw[e]⟩
theorem yQ.same {W A B:Wd}{g:Nat}{rd:List Int}(h:yQ W A g rd)(k:yl A B):yQ W B g rd :=
 ⟨h.nd,by rw[k.1];exact h.len,fun x hx=>by obtain⟨i,a,b,c,d⟩:=h.st x hx;exact⟨i,a,b,c,by rw[k.2];exact d⟩,fun i a b=>by rw[k.2];exact h.oth i a b⟩
theorem yQ.own {W A:Wd}{g:Nat}{rd:List Int}(h:yQ W A g rd)(s:Int):yQ W (A.zQ g s) g rd:=by
 by_cases hg:g<A.gs.length
 ·refine⟨h.nd,by rw[xD];exact h.len,fun x hx=>?_,fun i a b=>?_⟩
  ·obtain⟨i,a,b,c,d⟩:=h.st x hx
   exact⟨i,a,b,c,by rw[xq hg,if_neg (fun e=>b e.symm)];exact d⟩
  ·rw[xq hg,if_neg (fun e=>a e.symm)];exact h.oth i a b
 ·unfold Wd.zQ;rw[WM hg];exact h
theorem yQ.more {W A:Wd}{g k:Nat}{rd:List Int}(h:yQ W A g rd)(hk:k<A.gs.length)(hs:(A.g k).st≠1)(hg:k≠g):yQ W (A.zQ k 1) g (rd++[(k:Int)]):=by
 have hn:(k:Int)∉rd:=fun hm=>by
  obtain⟨i,a,-,-,d⟩:=h.st _ hm;have:i=k:=by omega
  subst this;exact hs d
 have h0:(W.g k).st≠1:=fun e=>hs ((h.oth k hg hn).2 e)
 refine⟨?_,by rw[xD];exact h.len,fun x hx=>?_,fun i a b=>?_⟩
 ·rw[List.nodup_append]
  exact⟨h.nd,by simp,fun a ha b hb e=>by simp at hb;subst hb;subst e;exact hn ha⟩
 ·rcases List.mem_append.1 hx with hx|hx
  ·obtain⟨i,a,b,c,d⟩:=h.st x hx
   refine⟨i,a,b,c,?_⟩
   rw[xq hk];split
   ·rfl
   ·exact d
  ·simp at hx
   exact⟨k,hx,hg,h0,by rw[xq hk,if_pos rfl]⟩
 ·simp only[List.mem_append,List.mem_singleton,not_or] at b
  rw[xq hk,if_neg (fun e=>b.2 (by omega))]
  exact h.oth i a b.1
theorem yl.leave (W:Wd)(g:Int):yl W (W.leave g):=yl.S7 rfl
theorem yQ.Vy {W A:Wd}{g:Nat}{rd:List Int}(h:yQ W A g rd)(hg:(A.g g).st=1){w:Wt}(hw:0≤w.1)(s:Bool) :
  yQ W (goOnM A rd w s).1 g (goOnM A rd w s).2∧((goOnM A rd w s).1.g g).st=1:=by
 unfold goOnM;simp only
 split
 ·rename_i h2
  split
  ·rename_i x hx
   have hk:w.1.toNat<A.gs.length:=by
    rcases Nat.lt_or_ge w.1.toNat A.gs.length with h1|h1
    ·exact h1
    ·rw[Wk (by omega)] at h2;exact absurd h2 (by decide)
   have hne:w.1.toNat≠g:=fun e=>by rw[e,hg] at h2;omega
   have hss:yl A ((A.fin x w s).leave w.1):=(yl.fin A x w s).trans (yl.leave _ _)
   have hr:=(h.same hss).more (k:=w.1.toNat) (by rw[hss.1];exact hk) (by rw[hss.2,h2];decide) hne
   rw[show((w.1.toNat:Nat):Int)=w.1 by omega] at hr
   refine⟨hr,?_⟩
   rw[xq (by rw[hss.1];exact hk),if_neg hne,hss.2];exact hg
  ·exact⟨h,hg⟩
 ·exact⟨h,hg⟩
theorem yQ.UW {W:Wd}{g:Nat}:∀(l:List Wt) (A:Wd) (rd:List Int),yQ W A g rd→(A.g g).st=1→(∀w∈l,0≤w.1)→yQ W (goOnsM A rd l).1 g (goOnsM A rd l).2∧((goOnsM A rd l).1.g g).st=1
 | [],A,rd,h,hg,_=>⟨h,hg⟩
 | r::t,A,rd,h,hg,hw=>by
  obtain⟨a,b⟩:=h.Vy hg (hw r (by simp)) false
  exact yQ.UW t _ _ a b (fun w hm=>hw w (by simp[hm]))
def Sw (W:Wd)(g:Nat)(d:Dd):Prop:=yQ W d.W g d.rd
theorem I3 {B:Nat}{W:Wd}(h:WF B W){g:Nat}(hg:(W.g g).st=1){x:zS}{c:Zc}(c0:0≤c.2.1∧c.2.1<(W.Cs.length:Int))(place:Int){d:Dd}(hd:x9 W [] g x c place=some d):Sw W g d:=by
 have hr:=Ry (h.cs _ (WR c0)) (W.Ns.getD c.2.1.toNat 0) (FT h _) ((W.g g).rg c.2.2)
 unfold x9 at hd;simp only at hd
 split at hd
 ·cases hd;exact yQ.refl W g
 ·split at hd
  ·cases hd
   have h0:yQ W (W.zM c.2.1 (mSend (W.Ns.getD c.2.1.toNat 0) (W.ch c.2.1) ((W.g g).rg c.2.2)).1) g []:=yQ.base g rfl
   unfold Sw;simp only
   split
   ·rename_i e
    exact(h0.Vy (by exact hg) (hr.2 e).1.1 true).1.same (yl.fin _ _ _ _)
   ·exact h0.same (yl.fin _ _ _ _)
  ·cases hd
theorem Hh {B:Nat}{W:Wd}(h:WF B W){g:Nat}(hg:(W.g g).st=1){x:zS}{c:Zc}(c0:0≤c.2.1∧c.2.1<(W.Cs.length:Int))(place:Int){d:Dd}(hd:xU W [] g x c place=some d):Sw W g d:=by
 have hr:=Rs (h.cs _ (WR c0))
 unfold xU at hd;simp only at hd
 split at hd
 ·cases hd
  have h0:yQ W (W.zM c.2.1 (mRecv (W.ch c.2.1)).1) g []:=yQ.base g rfl
  unfold Sw;simp only
  split
  ·rename_i e
   exact(h0.Vy (by exact hg) (hr.2 e).1.1 false).1.same (yl.fin _ _ _ _)
  ·exact h0.same (yl.fin _ _ _ _)
 ·cases hd
theorem LY {B:Nat}{W:Wd}(h:WF B W){g:Nat}(hg:(W.g g).st=1){n:Nat}{x:zS}(hx:Yj W n x)(ho:x.1=13∨x.1=14∨x.1=16){place:Int}(hp:0≤place∧place<((W.yA x).length:Int))(h2:((W.yA x).getD place.toNat (1,0,0)).1≠2){d:Dd}(hd:Zw W [] g x place=some d):Sw W g d:=by
 have hk:=hx.VK ho h.p.ck _ (Ov hp)
 have c0:=And.intro hk.2.1 (hk.2.2.1 h2)
 unfold Zw at hd;simp only at hd
 split at hd
 ·exact I3 h hg c0 place hd
 ·exact Hh h hg c0 place hd
theorem OJ (W:Wd)(g:Nat)(x:zS):yQ W (Ww W g x) g []:=(yQ.base (W:=W) (A:={ W with Cs:=wasF (g:Int) (W.g g).yU 0 (W.yA x) W.Cs }) g rfl).own 2
theorem P3 {B:Nat}{W:Wd}(h:WF B W){g:Nat}{n:Nat}{x:zS}(ha:At W g x)(hx:Yj W n x)(ho:x.1=13∨x.1=14):Sw W g (xW W [] g x):=by
 have hlen:(W.yA x).length=1:=by unfold Wd.yA;rcases ho with e|e<;>simp[e]
 have h2:((W.yA x).getD (Int.toNat 0) (1,0,0)).1≠2:=by unfold Wd.yA;rcases ho with e|e<;>simp[e]
 unfold xW;cases e:Zw W [] g x 0 with
 | none=>exact OJ W g x
 | some d=>exact LY h ha.st hx (by rcases ho with e|e<;>simp[e]) (by rw[hlen];omega) h2 e
theorem N9 {B:Nat}{W:Wd}(h:WF B W){g:Nat}{n:Nat}{x:zS}(ha:At W g x)(hx:Yj W n x)(ho:x.1=16){dr:Int}{go:Bool}(hd:go=true→(0≤dr∧dr<((W.yA x).length:Int))∧((W.yA x).getD dr.toNat (1,0,0)).1≠2):Sw W g (Zv W [] g x dr go):=by
 unfold Zv;split
 ·rename_i e
  cases e2:Zw W [] g x dr with
  | none=>exact yQ.refl W g
  | some d=>exact LY h ha.st hx (by simp[ho]) (hd e).1 (hd e).2 e2
 ·split
  ·exact OJ W g x
  ·exact(yQ.refl W g).same (yl.put _ _ _ _)
theorem Le {B:Nat}{W:Wd}(h:WF B W){g:Nat}(hg:(W.g g).st=1){n:Nat}{x:zS}(hx:Yj W n x)(ho:x.1=15):Sw W g (xN W [] x):=by
 have hC:=h.cs _ (WR (hx.o15 ho))
 unfold xN;simp only
 split
 ·exact yQ.refl W g
 ·split
  ·exact((yQ.base (W:=W) (A:=W.zM x.2.1 ⟨(W.ch x.2.1).buf,[],[],true⟩) g rfl).UW _ _ _ (by exact hg) (fun w hw=>(hC.2.2.2.2 w hw).1.1)).1
  ·exact yQ.base g rfl
theorem IW (W:Wd)(g:Nat)(x:zS):Sw W g (ZD W [] g x):=by
 unfold ZD;simp only
 split
 ·exact yQ.refl W g
 ·exact(yQ.refl W g).same (yl.ye rfl)
theorem Dt (W:Wd)(g:Nat)(x:zS):Sw W g (Y6 W [] g x):=by
 unfold Y6;simp only
 split
 ·exact((yQ.refl W g).own 4).same (yl.S7 rfl)
 ·exact(yQ.refl W g).same (yl.ye rfl)
theorem JH {W:Wd}{g:Nat}(hg:g<W.gs.length)(x:zS):Sw W g (ZK W [] g x):=by
 unfold ZK;split
 ·exact yQ.refl W g
 ·refine yQ.same (A:={ W with gs:=W.gs++[⟨1,1,ZM x.2.1 ((W.g g).rg x.2.2.1) 0⟩] }) ?_ (yl.put _ _ _ _)
  have e:∀k,({ W with gs:=W.gs++[⟨1,1,ZM x.2.1 ((W.g g).rg x.2.2.1) 0⟩] }:Wd).g k=if k=W.gs.length then⟨1,1,ZM x.2.1 ((W.g g).rg x.2.2.1) 0⟩ else W.g k:=fun k=>by
   unfold Wd.g;simp only[List.getD_eq_getElem?_getD]
   by_cases h1:k<W.gs.length
   ·rw[List.getElem?_append_left h1,if_neg (by omega)]
   ·by_cases h2:k=W.gs.length
    ·subst h2;rw[if_pos rfl,List.getElem?_append_right (Nat.le_refl _)];simp
    ·have e1:W.gs[k]?=none:=List.getElem?_eq_none (by omega)
     rw[if_neg h2,e1,List.getElem?_eq_none (by simp;omega)]
  refine⟨by simp,by simp,fun h hh=>?_,fun k hk hn=>?_⟩
  ·simp at hh
   refine⟨W.gs.length,hh,by omega,?_,?_⟩
   ·rw[Wk (by omega)];decide
   ·rw[e,if_pos rfl]
  ·rw[e,if_neg (fun e2=>hn (by simp[e2]))]
theorem M5 (W:Wd)(g:Nat)(x:zS):Sw W g (Yh W [] g x):=by
 unfold Yh;simp only
 generalize (if 1048576<(W.g g).rg x.2.1 then(1048576:Int) else(W.g g).rg x.2.1)=t
 split
 ·exact yQ.refl W g
 ·exact((yQ.refl W g).own 3).same (yl.S7 rfl)
theorem J7 (W:Wd)(g:Nat)(x:zS):Sw W g (ZR W [] g x):=by
 unfold ZR Sw;simp only
 split
 ·exact yQ.base g rfl
 ·exact(yQ.base (W:=W) (A:={ W with Ls:=W.Ls.set x.2.1.toNat (W.lk x.2.1++[(g:Int)]) }) g rfl).own 2
theorem N0 {B:Nat}{W:Wd}(h:WF B W){g:Nat}(hg:(W.g g).st=1){n:Nat}{x:zS}(hx:Yj W n x)(ho:x.1=19):Sw W g (xA W [] g x):=by
 have hi:=hx.o18 (.inr ho)
 obtain⟨a,b,c,d⟩:=h.ls _ _ (TZ hi)
 unfold xA;simp only
 generalize W.lk x.2.1=L at *;cases L with
 | nil=>simp only[xm];rw[if_neg (by decide)];exact yQ.refl W g
 | cons y t =>
  by_cases e:y=(g:Int)
  ·simp only[xm,gaveL,if_pos e]
   rw[if_pos trivial];split
   ·exact yQ.base g rfl
   ·rename_i e1
    cases t with
    | nil=>exact absurd rfl e1
    | cons z s =>
     simp only[List.headD_cons] at e1 ⊢
     obtain⟨z0,z1⟩:=b z (by simp)
     obtain⟨d1,-⟩:=d z (by simp)
     have hr:=((yQ.refl W g).same (B:={ W with Ls:=W.Ls.set x.2.1.toNat (z::s) }) (yl.S7 rfl)).more (k:=z.toNat) (by show z.toNat<W.gs.length;omega) (by show(W.g z.toNat).st≠1;rw[d1];decide) (fun e2=>by rw[e2,hg] at d1;omega)
     rw[show((z.toNat:Nat):Int)=z by omega] at hr
     exact hr
  ·simp only[xm,if_neg e]
   rw[if_neg (by decide)];exact yQ.refl W g
theorem Il (W:Wd)(g:Nat)(x:zS):Sw W g (ZE W [] g x):=by
 unfold ZE;split
 ·exact yQ.refl W g
 ·exact yQ.base g rfl
theorem Gh {B:Nat}{W:Wd}(h:WF B W){g:Nat}{n:Nat}{x:zS}(ha:At W g x)(hx:Yj W n x){dr:Int}{go:Bool}(hd:x.1=16→go=true→(0≤dr∧dr<((W.yA x).length:Int))∧((W.yA x).getD dr.toNat (1,0,0)).1≠2):Sw W g (zT W g x dr go):=by
 unfold zT;by_cases e:x.1=9
 ·rw[if_pos e];exact IW W g x
 rw[if_neg e];clear e;by_cases e:x.1=10
 ·rw[if_pos e];exact Dt W g x
 rw[if_neg e];clear e;by_cases e:x.1=11
 ·rw[if_pos e];exact JH ha.lt x
 rw[if_neg e];clear e;by_cases e:x.1=12
 ·rw[if_pos e];exact yQ.refl W g
 rw[if_neg e];clear e;by_cases e:x.1=13
 ·rw[if_pos e];exact P3 h ha hx (.inl e)
 rw[if_neg e];clear e;by_cases e:x.1=14
 ·rw[if_pos e];exact P3 h ha hx (.inr e)
 rw[if_neg e];clear e;by_cases e:x.1=15
 ·rw[if_pos e];exact Le h ha.st hx e
 rw[if_neg e];clear e;by_cases e:x.1=16
 ·rw[if_pos e];exact N9 h ha hx e (hd e)
 rw[if_neg e];clear e;by_cases e:x.1=17
 ·rw[if_pos e];exact M5 W g x
 rw[if_neg e];clear e;by_cases e:x.1=18
 ·rw[if_pos e];exact J7 W g x
 rw[if_neg e];clear e;by_cases e:x.1=19
 ·rw[if_pos e];exact N0 h ha.st hx e
 rw[if_neg e];clear e;by_cases e:x.1=20
 ·rw[if_pos e];exact Il W g x
 rw[if_neg e];clear e;by_cases e:x.1=21
 ·rw[if_pos e];exact(yQ.refl W g).same (yl.put _ _ _ _)
 rw[if_neg e];clear e;exact yQ.refl W g
theorem yQ.from {W V A:Wd}{g:Nat}{rd:List Int}(s:yl W V)(h:yQ V A g rd):yQ W A g rd :=
 ⟨h.nd,by rw[←s.1];exact h.len,fun x hx=>by obtain⟨i,a,b,c,d⟩:=h.st x hx;exact⟨i,a,b,by rw[←s.2];exact c,d⟩,fun i a b=>by rw[←s.2];exact h.oth i a b⟩
theorem yl.end_ (d:Dd):yl d.W d.end_:=by unfold Dd.end_;split<;>exact yl.S7 rfl
theorem Cr {B:Nat}{W:Wd}(h:WF B W)(hB:B≤80000){g:Nat}(hl:W.lets (g:Int))(v:Int):Sw W g (doM W g (W.ins g) (xE W ((W.ins g).getD (0,0,0,0)) v).1 (xE W ((W.ins g).getD (0,0,0,0)) v).2):=by
 obtain⟨l1,l2,l3,l4⟩:=hl;simp only[Int.toNat_natCast] at l4;have hg:g<W.gs.length:=by omega
 cases hx:W.ins g with
 | none=>exact yQ.refl W g
 | some x =>
  obtain⟨k1,k2,k3⟩:=h.Uq hx;obtain⟨s1,s2,s3⟩:=h.step hg l4 hx;simp only[Option.getD_some];have hask:x.1=16→(xE W x v).2=true→(0≤(xE W x v).1∧(xE W x v).1<(((W.step g).yA x).length:Int))∧(((W.step g).yA x).getD (xE W x v).1.toNat (1,0,0)).1≠2:=fun e1 e2=>by
   rw[UH s3.ks];exact Uv e1 e2
  unfold doM;simp only
  split
  ·exact(yQ.refl W g).same (yl.ye rfl)
  ·rename_i e
   exact yQ.from (V:=W.step g) (yl.ye (W:=W) (g:=g) rfl) (Gh s1 s2 (k1.DV s3) hask)
theorem TK {B:Nat}{W:Wd}(h:WF B W)(hB:B≤80000){g:Nat}(hl:W.lets (g:Int))(v:Int) :
  yQ W (zG W (g:Int) v).1 g (zG W (g:Int) v).2.2∧((zG W (g:Int) v).2.1=true→((zG W (g:Int) v).1.g g).st=1∧(zG W (g:Int) v).1.en=0):=by
 unfold zG;rw[if_pos hl];simp only[Int.toNat_natCast];refine⟨(Cr h hB hl v).same (yl.end_ _),fun e=>?_⟩
 unfold YV at e;simp only[Bool.and_eq_true,decide_eq_true_eq] at e;exact⟨e.1.2,e.1.1⟩
structure DW (W W':Wd) (rd:List Int):Prop where
 nd:rd.Nodup
 len:W'.gs.length=W.gs.length
 st:∀h∈rd,∃k:Nat,h=(k:Int)∧(W.g k).st≠1∧(W'.g k).st=1
 oth:∀k:Nat,(k:Int)∉rd→(W'.g k).st=(W.g k).st
theorem OS:∀(l:List It) (W:Wd),(∀x∈l,(0≤x.id∧x.id<(W.gs.length:Int))∧(W.g x.id.toNat).st=3)→(l.map (·.id)).Nodup→DW W (wokeM W l) (l.map (·.id))
 | [],W,_,_=>⟨by simp,rfl,fun h hh=>by simp at hh,fun _ _=>rfl⟩
 | x::t,W,h1,h2=>by
  obtain⟨hx1,hx2⟩:=h1 x (by simp)
  have hg:x.id.toNat<W.gs.length:=by omega
  have hxn:((x.id.toNat:Nat):Int)=x.id:=by omega
  have h2':=h2;rw[List.map_cons,List.nodup_cons] at h2;have hid:∀y∈t,y.id.toNat≠x.id.toNat:=fun y hy e=>by
   obtain⟨k1,-⟩:=h1 y (by simp[hy])
   have:y.id=x.id:=by omega
   exact h2.1 (by rw[←this];exact List.mem_map_of_mem (f:=(·.id)) hy)
  obtain⟨a,b,c,d⟩:=OS t (W.zQ x.id.toNat 1) (fun y hy=>by
    obtain⟨k1,k2⟩:=h1 y (by simp[hy])
    refine⟨by rw[xD];exact k1,?_⟩
    rw[xq hg,if_neg (fun e=>hid y hy e.symm)]
    exact k2) h2.2
  refine⟨h2',by show(wokeM (W.zQ x.id.toNat 1) t).gs.length=_;rw[b,xD],fun h hh=>?_,fun k hk=>?_⟩
  ·rw[List.map_cons,List.mem_cons] at hh
   rcases hh with rfl|hh
   ·refine⟨x.id.toNat,hxn.symm,by rw[hx2];decide,?_⟩
    show((wokeM (W.zQ x.id.toNat 1) t).g x.id.toNat).st=1
    rw[d _ (by rw[hxn];exact h2.1),xq hg,if_pos rfl]
   ·obtain⟨k,k1,k2,k3⟩:=c h hh
    refine⟨k,k1,fun e=>k2 ?_,k3⟩
    rw[xq hg];split
    ·rfl
    ·exact e
  ·rw[List.map_cons,List.mem_cons,not_or] at hk
   show((wokeM (W.zQ x.id.toNat 1) t).g k).st=_
   rw[d k hk.2,xq hg,if_neg (fun e=>hk.1 (by omega))]
theorem PV {B:Nat}{W:Wd}(h:WF B W):DW W (yO W).1 (yO W).2:=by
 unfold yO;split
 ·simp only
  obtain⟨a,b⟩:=YS _ W.hp ((W.clock:Int)+1) (Nat.le_refl _)
  have hall:∀x,x∈(yW W.hp ((W.clock:Int)+1)).1∨x∈(yW W.hp ((W.clock:Int)+1)).2→x∈W.hp:=fun x hx=>a.mem_iff.1 (List.mem_append.2 hx)
  have hnd:=(a.map (·.id)).nodup_iff.2 h.hp.2.1
  rw[List.map_append,List.nodup_append] at hnd;have hw:=OS (yW W.hp ((W.clock:Int)+1)).1 { W with clock:=W.clock+1,hp:=(yW W.hp ((W.clock:Int)+1)).2 } (fun x hx=>by
   obtain⟨k1,k2,-⟩:=h.hp.2.2.1 x (hall x (.inl hx));exact⟨k1,k2⟩) hnd.1
  exact⟨hw.nd,hw.len,hw.st,hw.oth⟩
 ·exact⟨by simp,rfl,fun h hh=>by simp at hh,fun _ _=>rfl⟩
def Pm.l (P:Pm):List Int:=P.q.nx.toList++P.q.l
def Mm.l (M:Mm):List Int:=if M.G = -1 then[] else[M.G]
def Sd.all (X:Sd):List Int:=X.gl++(X.ps.flatMap Pm.l++X.ms.flatMap Mm.l)
theorem Uk {α:Type}{f:α→List Int}:∀{l:List α} {i:Nat} {a:α},l[i]?=some a→∃R,(l.flatMap f).Perm (f a++R)∧∀b,((l.set i b).flatMap f).Perm (f b++R)
 | [],i,a,h=>by simp at h
 | x::l,0,a,h=>by
  simp at h;subst h
  exact⟨l.flatMap f,by simp,fun b=>by simp⟩
 | x::l,i+1,a,h=>by
  obtain⟨R,h1,h2⟩:=Uk (f:=f) (l:=l) (i:=i) (a:=a) (by simpa using h)
  refine⟨f x++R,?_,fun b=>?_⟩
  ·rw[List.flatMap_cons]
   exact(h1.append_left (f x)).trans (by rw[←List.append_assoc,←List.append_assoc];exact List.perm_append_comm.append_right R)
  ·rw[QZ,List.flatMap_cons]
   exact((h2 b).append_left (f x)).trans (by rw[←List.append_assoc,←List.append_assoc];exact List.perm_append_comm.append_right R)
theorem Ti {X:Sd}{i:Nat}(hi:i<X.ps.length):∃R,X.all.Perm (X.gl++((X.p i).l++R))∧∀(Y:Sd) (P:Pm),Y.ps=X.ps.set i P→Y.ms=X.ms→Y.all.Perm (Y.gl++(P.l++R)):=by
 obtain⟨R,h1,h2⟩:=Uk (f:=Pm.l) (X.ZS hi)
 refine⟨R++X.ms.flatMap Mm.l,?_,fun Y P e1 e2=>?_⟩
 ·unfold Sd.all
  refine List.Perm.append_left _ ?_
  rw[←List.append_assoc];exact h1.append_right _
 ·unfold Sd.all
  refine List.Perm.append_left _ ?_
  rw[e1,e2,←List.append_assoc];exact(h2 P).append_right _
theorem JM {X:Sd}{i:Nat}(hi:i<X.ms.length):∃R,X.all.Perm ((X.m i).l++R)∧∀(Y:Sd) (M:Mm),Y.ms=X.ms.set i M→Y.ps=X.ps→Y.gl=X.gl→Y.all.Perm (M.l++R):=by
 obtain⟨R,h1,h2⟩:=Uk (f:=Mm.l) (X.Pr hi)
 have key:∀(a b c d:List Int),c.Perm (d++R)→(a++(b++c)).Perm (d++(a++(b++R))):=fun a b c d h=>by
  refine((h.append_left b).append_left a).trans ?_
  have e1:(b++(d++R)).Perm (d++(b++R)):=by
   rw[←List.append_assoc,←List.append_assoc];exact List.perm_append_comm.append_right R
  exact(e1.append_left a).trans (List.perm_append_comm_assoc a d (b++R))
 exact⟨X.gl++(X.ps.flatMap Pm.l++R),key _ _ _ _ h1,fun Y M e1 e2 e3=>by
  unfold Sd.all;rw[e1,e2,e3];exact key _ _ _ _ (h2 M)⟩
theorem NS (N:Nat)(q:LQ)(v:Int)(gl:List Int)(hq:q.nx=none):((Z5 N q v gl).2.1++((Z5 N q v gl).1.nx.toList++(Z5 N q v gl).1.l)).Perm (gl++(v::q.l))∧(Z5 N q v gl).1.nx=none:=by
 unfold Z5;split
 ·refine⟨?_,hq⟩
  simp only[hq,Option.toList_none,List.nil_append];exact List.Perm.append_left _ (List.perm_append_comm (l₁:=q.l) (l₂:=[v]))
 ·refine⟨?_,hq⟩
  simp only[hq,Option.toList_none,List.nil_append];rw[List.append_assoc];refine List.Perm.append_left _ ?_
  have e:q.l=q.l.take (q.l.length / 2)++q.l.drop (q.l.length / 2):=(List.take_append_drop _ _).symm
  have h2:(v::q.l)=[v]++(q.l.take (q.l.length / 2)++q.l.drop (q.l.length / 2)):=by rw[←e];rfl
  rw[h2,←List.append_assoc];exact List.perm_append_comm.append_right _
theorem YQ (N:Nat)(q:LQ)(gl:List Int):((mTurn N q gl).2.1++((mTurn N q gl).1.nx.toList++(mTurn N q gl).1.l)).Perm (gl++(q.nx.toList++q.l))∧(mTurn N q gl).1.nx=none:=by
 unfold mTurn;cases h:q.nx with
 | none=>simp only;exact⟨by rw[h],h⟩
 | some v =>
  simp only
  obtain⟨a,b⟩:=NS N ⟨none,q.l⟩ v gl rfl
  exact⟨by simpa using a,b⟩
theorem Nh (q:LQ):(q.nx.toList++q.l).Perm ((mGet q).2.toList++((mGet q).1.nx.toList++(mGet q).1.l)):=by
 unfold mGet;cases h:q.nx with
 | none =>
  cases h2:q.l with
  | nil=>simp[h,h2]
  | cons x t=>simp
 | some v=>simp
theorem U4 {α:Type}(x:α)(t:List α)(k:Nat)(hk:1≤k):(x::t)=x::(((x::t).take k).tail++(x::t).drop k):=by
 obtain⟨j,rfl⟩:∃j,k=j+1:=⟨k-1,by omega⟩
 simp
theorem RS (N:Nat)(q:LQ)(gl:List Int)(k:Int):(gl++(q.nx.toList++q.l)).Perm ((mFetch N q gl k).2.2.toList++((mFetch N q gl k).2.1++((mFetch N q gl k).1.nx.toList++(mFetch N q gl k).1.l))):=by
 unfold mFetch;cases gl with
 | nil=>simp
 | cons x t =>
  simp only[Option.toList_some];have h1:=PB N q (x::t) k
  generalize YN N q (x::t) k=j at *
  have e:=U4 x t j h1;generalize ((x::t).take j).tail=A at *
  generalize (x::t).drop j=Bq at *
  rw[e];simp only[List.cons_append,List.nil_append,List.perm_cons];have:(A++Bq++(q.nx.toList++q.l)).Perm (Bq++(q.nx.toList++q.l)++A):=by
   rw[List.append_assoc];exact List.perm_append_comm
  simpa [List.append_assoc] using this
theorem RZ (N:Nat)(q f:LQ):((q.nx.toList++q.l)++(f.nx.toList++f.l)).Perm ((mSteal N q f).2.2.toList++(((mSteal N q f).1.nx.toList++(mSteal N q f).1.l)++((mSteal N q f).2.1.nx.toList++(mSteal N q f).2.1.l))):=by
 unfold mSteal;cases h:f.l with
 | nil =>
  simp only[Option.toList_none,List.append_nil];exact List.perm_append_comm
 | cons x t =>
  simp only[Option.toList_some];obtain⟨j,hj⟩:∃j,j=min (((x::t).length+1) / 2) (N-q.l.length+1):=⟨_,rfl⟩
  rw[←hj];have h1:1≤j:=by rw[hj,List.length_cons];omega
  have e:=U4 x t j h1;generalize ((x::t).take j).tail=A at *
  generalize (x::t).drop j=Bq at *
  rw[e];have h2:(q.nx.toList++q.l++(f.nx.toList++x::(A++Bq))).Perm (x::(q.nx.toList++q.l++(f.nx.toList++(A++Bq)))):=by
   rw[←List.append_assoc,←List.append_assoc];exact List.perm_middle
  refine h2.trans ?_
  simp only[List.cons_append,List.nil_append,List.perm_cons];have h3:(f.nx.toList++(A++Bq)).Perm (A++(f.nx.toList++Bq)):=by
   rw[←List.append_assoc,←List.append_assoc];exact List.perm_append_comm.append_right _
  have h4:=h3.append_left (q.nx.toList++q.l)
  simpa [List.append_assoc] using h4
theorem Wc {X:Sd}{i:Nat}(hi:i<X.ps.length)(P:Pm)(j:Nat):(X.zH i P).p j=if i=j then P else X.p j:=by
 unfold Sd.zH Sd.p;simp only[List.getD_eq_getElem?_getD,List.getElem?_set]
 split
 ·simp[hi]
 ·rfl
theorem xh {X:Sd}{i:Nat}(hi:i<X.ms.length)(M:Mm)(j:Nat):(X.zL i M).m j=if i=j then M else X.m j:=by
 unfold Sd.zL Sd.m;simp only[List.getD_eq_getElem?_getD,List.getElem?_set]
 split
 ·simp[hi]
 ·rfl
theorem Gd {a b c R:List Int}(h:a.Perm (b++c)):(a++R).Perm (b++(c++R)):=by rw[←List.append_assoc];exact h.append_right R
theorem Mq {X:Sd}{i:Nat}(hi:i<X.ps.length):(yN X i).all.Perm X.all:=by
 obtain⟨R,h1,h2⟩:=Ti hi;refine(h2 (yN X i) _ rfl rfl).trans (List.Perm.trans ?_ h1.symm)
 have h3:=(YQ (X.p i).N (X.p i).q X.gl).1
 have h4:=h3.append_right R;simpa [yN,Pm.l,List.append_assoc] using h4
theorem Mj {X:Sd}{i:Nat}(hi:i<X.ps.length):X.all.Perm ((nearM X i).2.toList++(nearM X i).1.all):=by
 obtain⟨R,h1,h2⟩:=Ti hi;unfold nearM;split
 ·rename_i h
  simp only
  cases hg:X.gl with
  | nil=>exact absurd hg h.2
  | cons x t =>
   refine h1.trans ?_
   rw[hg];have:=h2 { X with gl:=t } (X.p i) (by show X.ps=X.ps.set i (X.p i);rw[yt _ _ _ (X.ZS hi)]) rfl
   exact List.Perm.cons _ this.symm
 ·have hG:=Nh (X.p i).q
  split
  ·rename_i g hg
   rw[hg] at hG;simp only
   refine h1.trans ?_
   have h3:=h2 (X.zH i { X.p i with q:=(mGet (X.p i).q).1 }) _ rfl rfl
   refine List.Perm.trans ?_ (h3.symm.append_left [g])
   have h4:(X.gl++((X.p i).l++R)).Perm (X.gl++([g]++(((mGet (X.p i).q).1.nx.toList++(mGet (X.p i).q).1.l)++R))):=(Gd hG).append_left X.gl
   refine h4.trans ?_
   rw[←List.append_assoc];refine(List.perm_append_comm.append_right _).trans ?_
   rw[List.append_assoc];exact List.Perm.refl _
  ·rename_i hg
   refine h1.trans ?_
   have h3:=h2 { X.zH i { X.p i with q:=(mFetch (X.p i).N (X.p i).q X.gl 0).1 } with gl:=(mFetch (X.p i).N (X.p i).q X.gl 0).2.1 } _ rfl rfl
   refine List.Perm.trans ?_ (h3.symm.append_left _)
   have h5:=RS (X.p i).N (X.p i).q X.gl 0
   have h6:=h5.append_right R;simpa [Pm.l,List.append_assoc] using h6
theorem R4 (N:Nat)(q:LQ)(gl:List Int)(h:q.nx=none):mTurn N q gl=(q,gl,0):=by unfold mTurn;rw[h]
theorem YA {X:Sd}{i:Nat}(hi:i<X.ps.length)(h:(nearM (yN X i) i).2=none):(X.p i).q=⟨none,[]⟩∧X.gl=[]∧(nearM (yN X i) i).1=X:=by
 have hl:i<(yN X i).ps.length:=by unfold yN Sd.zH;simpa using hi
 have hp:(yN X i).p i={ X.p i with q:=(mTurn (X.p i).N (X.p i).q X.gl).1 }:=by
  have:=Wc hi { X.p i with q:=(mTurn (X.p i).N (X.p i).q X.gl).1 } i
  rw[if_pos rfl] at this;exact this
 have hn:=(YQ (X.p i).N (X.p i).q X.gl).2
 have hgl:(yN X i).gl=(mTurn (X.p i).N (X.p i).q X.gl).2.1:=rfl
 have h':=h;unfold nearM at h;split at h
 ·rename_i h0
  simp only at h
  rw[List.head?_eq_none_iff] at h
  exact absurd h h0.2
 ·split at h
  ·cases h
  ·rename_i hg
   have e1:((yN X i).p i).q.l=[]:=by
    unfold mGet at hg;rw[hp] at hg ⊢;simp only[hn] at hg;cases e:(mTurn (X.p i).N (X.p i).q X.gl).1.l with
    | nil=>rfl
    | cons x t=>rw[e] at hg;cases hg
   have e2:(yN X i).gl=[]:=by
    unfold mFetch at h;cases e:(yN X i).gl with
    | nil=>rfl
    | cons x t=>rw[e] at h;cases h
   have hq:(X.p i).q.nx=none:=by
    cases e:(X.p i).q.nx with
    | none=>rfl
    | some v =>
     rw[hp] at e1;rw[hgl] at e2;simp only at e1
     unfold mTurn Z5 at e1 e2;simp only[e] at e1 e2;split at e1
     ·simp at e1
     ·rename_i hc;rw[if_neg hc] at e2;simp at e2
   have ht:=R4 (X.p i).N (X.p i).q X.gl hq
   have e3:(X.p i).q.l=[]:=by rw[hp,ht] at e1;exact e1
   have e4:X.gl=[]:=by rw[hgl,ht] at e2;exact e2
   have hqq:(X.p i).q=⟨none,[]⟩:=by
    cases hq2:(X.p i).q with
    | mk a b=>rw[hq2] at hq e3;simp only at hq e3;subst hq;subst e3;rfl
   have hT:yN X i=X:=by
    unfold yN;rw[ht];unfold Sd.zH;simp only
    rw[yt _ _ _ (X.ZS hi)]
   refine⟨hqq,e4,?_⟩
   rw[hT] at h' ⊢
   unfold nearM;rw[if_neg (fun hc=>hc.2 e4)]
   have hg2:(mGet (X.p i).q).2=none:=by rw[hqq];rfl
   rw[hg2];simp only
   unfold Sd.zH;rw[e4,hqq];simp only[mFetch];have:({ X.p i with q:=⟨none,[]⟩ }:Pm)=X.p i:=by rw[←hqq]
   rw[this,yt _ _ _ (X.ZS hi)]
   show({ X with gl:=[] }:Sd)=X
   rw[←e4]
structure Sl where
 pa:Option Addr
 ma:Option Addr
 ld:List (Nat×Nat)
 mc:Nat
def zV (w0 w:World)(b sp:Nat)(L:Sl)(X:Sd)(R:List zy):Prop:=∃S:Sa,S.fits X∧(S.pa=L.pa∧(S.ma=L.ma∧S.mc=L.mc)∧S.ld=L.ld)∧Own w0 w (yV b sp X S++R)
section
variable {w0 w:World} {b sp:Nat} {L:Sl} {X:Sd} {R:List zy}
theorem Own.sat (h:Own w0 w (yx b sp X::R)):∃L,zV w0 w b sp L X R:=by
 obtain⟨S,hf,h1⟩:=h.Bd;exact⟨⟨S.pa,S.ma,S.ld,S.mc⟩,S,hf,⟨rfl,⟨rfl,rfl⟩,rfl⟩,h1⟩
theorem zV.to (h:zV w0 w b sp L X R):Own w0 w (yx b sp X::R):=by obtain⟨S,hf,-,h⟩:=h;exact Own.D3 hf h
theorem zV.step {w':World}(h:zV w0 w b sp L X R)(hb:Below w.heap.size w w'):zV w0 w' b sp L X R:=by obtain⟨S,hf,e,h⟩:=h;exact⟨S,hf,e,h.step hb⟩
theorem zV.ZW (h:zV w0 w b sp L X R):w.cell? ⟨b,11,none⟩=some (.pointer (some ⟨sp,0,none⟩)):=by obtain⟨S,hf,e,h⟩:=h;exact(h.zo 0 rfl 11 _ rfl).1
theorem zV.ZB (h:zV w0 w b sp L X R):∃c,w.cell? ⟨b,12,none⟩=some (.slice L.pa X.ps.length c):=by obtain⟨S,hf,⟨e,-,-⟩,h⟩:=h;rw[←e];exact⟨_,(h.zo 0 rfl 12 _ rfl).1⟩
theorem zV.x6 (h:zV w0 w b sp L X R):∃c,w.cell? ⟨b,13,none⟩=some (.slice L.ma X.ms.length c):=by obtain⟨S,hf,⟨-,e,-⟩,h⟩:=h;rw[←e.1];exact⟨_,(h.zo 0 rfl 13 _ rfl).1⟩
theorem zV.CV (h:zV w0 w b sp L X R):w.cell? ⟨b,13,none⟩=some (.slice L.ma X.ms.length L.mc):=by obtain⟨S,hf,⟨-,e,-⟩,h⟩:=h;rw[←e.1,←e.2];exact(h.zo 0 rfl 13 _ rfl).1
theorem zV.DD (h:zV w0 w b sp L X R):w.cell? ⟨b,15,none⟩=some (.int .i64 X.sl):=by obtain⟨S,hf,e,h⟩:=h;exact(h.zo 0 rfl 15 _ rfl).1
theorem zV.Ih (h:zV w0 w b sp L X R):w.cell? ⟨b,16,none⟩=some (.int .i64 (X.st:Int))∧w.frozen? ⟨b,16,none⟩=false:=by obtain⟨S,hf,e,h⟩:=h;exact h.zo 0 rfl 16 _ rfl
theorem zV.pa (h:zV w0 w b sp L X R){i:Nat}(hi:i<X.ps.length):∃pb off p g,L.pa=some ⟨pb,off,none⟩∧L.ld[i]?=some (p,g):=by
 obtain⟨S,hf,⟨e1,e2,e3⟩,h⟩:=h;obtain⟨pb,off,p,g,k1,k2,-⟩:=PU h hf hi;exact⟨pb,off,p,g,by rw[←e1];exact k1,by rw[←e3];exact k2⟩
theorem zV.ma (h:zV w0 w b sp L X R){i:Nat}(hi:i<X.ms.length):∃mb off,L.ma=some ⟨mb,off,none⟩:=by
 obtain⟨S,hf,⟨e1,e2,e3⟩,h⟩:=h;obtain⟨mb,off,k1,-⟩:=Ol h hi;exact⟨mb,off,by rw[←e2.1];exact k1⟩
theorem zV.proc (h:zV w0 w b sp L X R){i pb off p g:Nat}(hi:i<X.ps.length)(hpa:L.pa=some ⟨pb,off,none⟩)(hld:L.ld[i]?=some (p,g)) :
  (w.cell? ⟨pb,off+i*3,none⟩=some (.pointer (some ⟨p,0,none⟩))∧w.cell? ⟨pb,off+i*3+1,none⟩=some (.int .i64 ((X.p i).tu:Int))∧w.cell? ⟨pb,off+i*3+2,none⟩=some (.int .i64 (X.p i).by_)) ∧
  w.frozen? ⟨pb,off+i*3+1,none⟩=false∧w.frozen? ⟨pb,off+i*3+2,none⟩=false:=by
 obtain⟨S,hf,⟨e1,e2,e3⟩,h⟩:=h;obtain⟨pb',off',p',g',k1,k2,k3⟩:=PU h hf hi;rw[e1,hpa] at k1;rw[e3,hld] at k2
 cases k1;cases k2
 exact k3
theorem zV.xP (h:zV w0 w b sp L X R){i mb off:Nat}(hi:i<X.ms.length)(hma:L.ma=some ⟨mb,off,none⟩) :
  (w.cell? ⟨mb,off+i*3,none⟩=some (.int .i64 (X.m i).P)∧w.cell? ⟨mb,off+i*3+1,none⟩=some (.int .i64 (X.m i).G)∧w.cell? ⟨mb,off+i*3+2,none⟩=some (.int .i64 (X.m i).L)) ∧
  w.frozen? ⟨mb,off+i*3,none⟩=false∧w.frozen? ⟨mb,off+i*3+1,none⟩=false∧w.frozen? ⟨mb,off+i*3+2,none⟩=false:=by
 obtain⟨S,hf,⟨e1,e2,e3⟩,h⟩:=h;obtain⟨mb',off',k1,k2⟩:=Ol h hi;rw[e2.1,hma] at k1;cases k1
 exact k2
theorem zV.Jj (h:zV w0 w b sp L X R){i pb off:Nat}(hi:i<X.ps.length)(hpa:L.pa=some ⟨pb,off,none⟩)(t:Int):zV w0 (w.setCell ⟨pb,off+i*3+2,none⟩ (.int .i64 t)) b sp L (X.zH i { X.p i with by_:=t }) R:=by
 obtain⟨S,hf,⟨e1,e2,e3⟩,h⟩:=h;exact⟨S,hf.zH _ _,⟨e1,e2,e3⟩,EV h hf hi (by rw[e1];exact hpa) t⟩
theorem zV.FP (h:zV w0 w b sp L X R){i pb off:Nat}(hi:i<X.ps.length)(hpa:L.pa=some ⟨pb,off,none⟩)(t:Nat):zV w0 (w.setCell ⟨pb,off+i*3+1,none⟩ (.int .i64 (t:Int))) b sp L (X.zH i { X.p i with tu:=t }) R:=by
 obtain⟨S,hf,⟨e1,e2,e3⟩,h⟩:=h;exact⟨S,hf.zH _ _,⟨e1,e2,e3⟩,Ex h hf hi (by rw[e1];exact hpa) t⟩
theorem zV.zH (h:zV w0 w b sp L X R){i mb off:Nat}(hi:i<X.ms.length)(hma:L.ma=some ⟨mb,off,none⟩)(t:Int):zV w0 (w.setCell ⟨mb,off+i*3,none⟩ (.int .i64 t)) b sp L (X.zL i { X.m i with P:=t }) R:=by
 obtain⟨S,hf,⟨e1,e2,e3⟩,h⟩:=h;exact⟨S,hf.zL _ _,⟨e1,e2,e3⟩,FZ h hi (by rw[e2.1];exact hma) t⟩
theorem zV.ye (h:zV w0 w b sp L X R){i mb off:Nat}(hi:i<X.ms.length)(hma:L.ma=some ⟨mb,off,none⟩)(t:Int):zV w0 (w.setCell ⟨mb,off+i*3+1,none⟩ (.int .i64 t)) b sp L (X.zL i { X.m i with G:=t }) R:=by
 obtain⟨S,hf,⟨e1,e2,e3⟩,h⟩:=h;exact⟨S,hf.zL _ _,⟨e1,e2,e3⟩,F0 h hi (by rw[e2.1];exact hma) t⟩
theorem zV.setL (h:zV w0 w b sp L X R){i mb off:Nat}(hi:i<X.ms.length)(hma:L.ma=some ⟨mb,off,none⟩)(t:Int):zV w0 (w.setCell ⟨mb,off+i*3+2,none⟩ (.int .i64 t)) b sp L (X.zL i { X.m i with L:=t }) R:=by
 obtain⟨S,hf,⟨e1,e2,e3⟩,h⟩:=h;exact⟨S,hf.zL _ _,⟨e1,e2,e3⟩,EB h hi (by rw[e2.1];exact hma) t⟩
theorem zV.zQ (h:zV w0 w b sp L X R)(t:Nat):zV w0 (w.setCell ⟨b,16,none⟩ (.int .i64 (t:Int))) b sp L { X with st:=t } R:=by
 obtain⟨S,hf,e,h⟩:=h;exact⟨S,⟨hf.w,hf.l⟩,e,h.setAt 0 rfl 16 _⟩
theorem zV.world (h:zV w0 w b sp L X R):∃T Q,Own w0 w (Xk b X.W T::(Q++R))∧∀w' W' R',Own w0 w' (Xk b W' T::(Q++R'))→zV w0 w' b sp L { X with W:=W' } R':=by
 obtain⟨S,hf,e,h⟩:=h;refine⟨UI sp X S,WT X S,h.Bb hf,fun w' W' R' h'=>?_⟩
 obtain⟨D',h1,h2⟩:=Own.C9 (X:=X) (S:=S) hf.l h'
 exact⟨_,h1,e,h2⟩
theorem zV.tail (h:zV w0 w b sp L X R):∃S,Own w0 w (R++S)∧∀w' R',Own w0 w' (R'++S)→zV w0 w' b sp L X R':=by
 obtain⟨S,hf,e,h⟩:=h;exact⟨yV b sp X S,h.perm List.perm_append_comm,fun w' R' h'=>⟨S,hf,e,h'.perm List.perm_append_comm⟩⟩
theorem zV.less {A:zy}(h:zV w0 w b sp L X (A::R)):zV w0 w b sp L X R:=by
 obtain⟨S,h1,h2⟩:=h.tail;exact h2 _ _ (Own.drop h1)
theorem Lh (h:zV w0 w b sp L X R){i p g:Nat}(hi:i<X.ps.length)(hld:L.ld[i]?=some (p,g)) :
  Calls Tryz.prog 83 #[.pointer (some ⟨p,0,none⟩)] w fun r w'=>r=.returned (Zh (mGet (X.p i).q).2)∧zV w0 w' b sp L (X.zH i { X.p i with q:=(mGet (X.p i).q).1 }) R:=by
 obtain⟨S,hf,⟨e1,e2,e3⟩,h⟩:=h;exact(Eh h hf hi (by rw[e3];exact hld) (fun R' h'=>KP h')).mono (fun r w' hh=>⟨hh.1,S,hf.zH _ _,⟨e1,e2,e3⟩,hh.2⟩)
theorem PZ (h:zV w0 w b sp L X R){i p g:Nat}(hi:i<X.ps.length)(hld:L.ld[i]?=some (p,g))(hl:X.gl.length≤1000000) :
  Calls Tryz.prog 94 #[.pointer (some ⟨p,0,none⟩),.pointer (some ⟨b,14,none⟩)] w fun r w'=>r=.returned (.int .i64 ((mTurn (X.p i).N (X.p i).q X.gl).2.2:Int))∧zV w0 w' b sp L (yN X i) R:=by
 obtain⟨S,hf,⟨e1,e2,e3⟩,h⟩:=h;have e:(mTurn (X.p i).N (X.p i).q X.gl).1=⟨none,(mTurn (X.p i).N (X.p i).q X.gl).1.l⟩:=by
  have:=(YQ (X.p i).N (X.p i).q X.gl).2
  cases h2:(mTurn (X.p i).N (X.p i).q X.gl).1 with
  | mk a c=>rw[h2] at this;simp only at this;subst this;rfl
 refine(Pn h hf hi (by rw[e3];exact hld) (fun R' h'=>N3 h' hl)).mono (fun r w' hh=>?_)
 obtain⟨h1,a,c,h2⟩:=hh;refine⟨h1,{ S with ga:=a,gc:=c },⟨hf.w,by rw[hf.l];unfold yN Sd.zH;simp⟩,⟨e1,e2,e3⟩,?_⟩
 rw[←e] at h2;exact h2
theorem K7 (h:zV w0 w b sp L X R){i p g:Nat}(hi:i<X.ps.length)(hld:L.ld[i]?=some (p,g))(hl:X.gl.length≤1000000)(k:Int) :
  Calls Tryz.prog 107 #[.pointer (some ⟨p,0,none⟩),.pointer (some ⟨b,14,none⟩),.int .i64 k] w fun r w'=>r=.returned (Zh (mFetch (X.p i).N (X.p i).q X.gl k).2.2)∧zV w0 w' b sp L { X.zH i { X.p i with q:=(mFetch (X.p i).N (X.p i).q X.gl k).1 } with gl:=(mFetch (X.p i).N (X.p i).q X.gl k).2.1 } R:=by
 obtain⟨S,hf,⟨e1,e2,e3⟩,h⟩:=h;refine(Pn h hf hi (by rw[e3];exact hld) (fun R' h'=>PE h' k hl)).mono (fun r w' hh=>?_)
 obtain⟨h1,a,c,h2⟩:=hh;exact⟨h1,{ S with ga:=a,gc:=c },⟨hf.w,by rw[hf.l];unfold Sd.zH;simp⟩,⟨e1,e2,e3⟩,h2⟩
theorem RW (h:zV w0 w b sp L X R){i p g:Nat}(hi:i<X.ps.length)(hld:L.ld[i]?=some (p,g))(hl:X.gl.length≤1000000)(v:Int) :
  Calls Tryz.prog 86 #[.pointer (some ⟨p,0,none⟩),.int .i64 v,.pointer (some ⟨b,14,none⟩)] w fun r w'=>r=.returned (.int .i64 ((xt (X.p i).N (X.p i).q v X.gl).2.2:Int))∧zV w0 w' b sp L { X.zH i { X.p i with q:=(xt (X.p i).N (X.p i).q v X.gl).1 } with gl:=(xt (X.p i).N (X.p i).q v X.gl).2.1 } R:=by
 obtain⟨S,hf,⟨e1,e2,e3⟩,h⟩:=h;refine(Pn h hf hi (by rw[e3];exact hld) (fun R' h'=>R8 h' v hl)).mono (fun r w' hh=>?_)
 obtain⟨h1,a,c,h2⟩:=hh;exact⟨h1,{ S with ga:=a,gc:=c },⟨hf.w,by rw[hf.l];unfold Sd.zH;simp⟩,⟨e1,e2,e3⟩,h2⟩
theorem Ce {S:Sa}{w':World}{gl:List Int}(hf:S.fits X)(e:S.pa=L.pa∧(S.ma=L.ma∧S.mc=L.mc)∧S.ld=L.ld)(h:Own w0 w' (Ya (V2 b sp X S) gl::yT (Y3 (WY S.ld X.ps))::(OW X S++R))):zV w0 w' b sp L { X with gl:=gl } R:=by
 obtain⟨a,c,h2⟩:=Own.C7 (X:=X) (S:=S) (ps:=X.ps) rfl h rfl
 exact⟨{ S with ga:=a,gc:=c },⟨hf.w,hf.l⟩,e,h2⟩
theorem XE (h:zV w0 w b sp L X R)(a:Option Addr)(n c:Nat)(m:List Int)(hn:n=m.length)(hm:yR w a m)(hl:X.gl.length+m.length≤1000000000) :
  Calls Tryz.prog 39 #[.pointer (some ⟨b,14,none⟩),.slice a n c] w fun r w'=>r=.returned (.tuple #[])∧zV w0 w' b sp L { X with gl:=X.gl++m } R:=by
 obtain⟨S,hf,e,h⟩:=h;exact(NR h.CE a n c m hn hm hl).mono (fun r w' hh=>⟨hh.1,Ce hf e hh.2⟩)
theorem Ka (h:zV w0 w b sp L X R)(k:Int)(hl:X.gl.length≤1000000) :
  Calls Tryz.prog 106 #[.pointer (some ⟨b,14,none⟩),.int .i64 k] w fun r w'=>∃a' c',r=.returned (.slice a' (xk k X.gl.length) c')∧yR w' a' (X.gl.take (xk k X.gl.length))∧zV w0 w' b sp L { X with gl:=X.gl.drop (xk k X.gl.length) } R:=by
 obtain⟨S,hf,e,h⟩:=h;refine(PN h.CE k hl).mono (fun r w' hh=>?_)
 obtain⟨a',c',h1,h2⟩:=hh;exact⟨a',c',h1,(h2.row 0 rfl).ints,Ce hf e h2.drop⟩
theorem zV.loc (h:zV w0 w b sp L X R){i p g:Nat}(hi:i<X.ps.length)(hld:L.ld[i]?=some (p,g)):yu w p g (X.p i).N (X.p i).q:=by
 obtain⟨S,hf,⟨e1,e2,e3⟩,h⟩:=h;obtain⟨F,⟨-,h1⟩,-⟩:=(h.pick 2 rfl).WG (WB (VV (by rw[e3];exact hld) (X.ZS hi)))
 exact h1
theorem IT (h:zV w0 w b sp L X R){i p g:Nat}(hi:i<X.ps.length)(hld:L.ld[i]?=some (p,g)) :
  Calls Tryz.prog 56 #[.pointer (some ⟨p,0,none⟩)] w fun r w'=>r=.returned (.int .i64 (X.p i).q.num)∧w'=w:=Tx w p g _ _ (h.loc hi hld)
theorem KI (h:zV w0 w b sp L X R){i v p g p' g':Nat}(hi:i<X.ps.length)(hv:v<X.ps.length)(hne:i≠v)(hld:L.ld[i]?=some (p,g))(hld':L.ld[v]?=some (p',g')) :
  Calls Tryz.prog 96 #[.pointer (some ⟨p,0,none⟩),.pointer (some ⟨p',0,none⟩)] w fun r w'=>r=.returned (Zh (mSteal (X.p i).N (X.p i).q (X.p v).q).2.2) ∧
   zV w0 w' b sp L ((X.zH i { X.p i with q:=(mSteal (X.p i).N (X.p i).q (X.p v).q).1 }).zH v { X.p v with q:=(mSteal (X.p i).N (X.p i).q (X.p v).q).2.1 }) R:=by
 obtain⟨S,hf,⟨e1,e2,e3⟩,h⟩:=h;rw[←e3] at hld hld'
 have k0:=(h.pick 2 rfl).DF
 have hL:(Y3 (WY S.ld X.ps))[i]?=some (ZA (JJ (p,g) (X.p i))):=WB (VV hld (X.ZS hi))
 have hL':(Y3 (WY S.ld X.ps))[v]?=some (ZA (JJ (p',g') (X.p v))):=WB (VV hld' (X.ZS hv))
 obtain⟨R',r1,r2⟩:=VL _ i v _ _ hL hL' hne;have k1:Own w0 w (ZA (JJ (p,g) (X.p i))::ZA (JJ (p',g') (X.p v))::(R'++(yV b sp X S++R).eraseIdx 2)):=k0.perm (r1.append_right _)
 refine(Qn k1).mono (fun r w' hh=>⟨hh.1,?_⟩)
 have k2:Own w0 w' ((Y3 (WY S.ld (X.ps.set i { X.p i with q:=(mSteal (X.p i).N (X.p i).q (X.p v).q).1 } |>.set v { X.p v with q:=(mSteal (X.p i).N (X.p i).q (X.p v).q).2.1 })))++(yV b sp X S++R).eraseIdx 2):=by
  rw[←VC v hld',←VC i hld,←Wq,←Wq]
  exact hh.2.perm ((r2 _ _).append_right _)
 have k3:=(Own.MW k2).back (As:=yV b sp X S++R) (i:=2) (by simp[yV])
 have ev:(X.ps.set i { X.p i with q:=(mSteal (X.p i).N (X.p i).q (X.p v).q).1 })[v]?=some (X.p v):=by rw[List.getElem?_set_ne hne];exact X.ZS hv
 have e4:YK S.ld ((X.ps.set i { X.p i with q:=(mSteal (X.p i).N (X.p i).q (X.p v).q).1 }).set v { X.p v with q:=(mSteal (X.p i).N (X.p i).q (X.p v).q).2.1 })=YK S.ld X.ps:=(PX hld' ev _).trans (PX hld (X.ZS hi) _)
 refine⟨S,(hf.zH _ _).zH _ _,⟨e1,e2,e3⟩,?_⟩
 have hlen:((X.ps.set i { X.p i with q:=(mSteal (X.p i).N (X.p i).q (X.p v).q).1 }).set v { X.p v with q:=(mSteal (X.p i).N (X.p i).q (X.p v).q).2.1 }).length=X.ps.length:=by simp
 unfold yV UI Sd.zH;simp only
 rw[hlen,e4];exact k3
end
end Go.Proofs.YtlkjheheofgdgaaGreat
