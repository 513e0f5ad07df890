/-
  Texts put together: SdRunW, SdHold, SdPick, EnM, SdStepW, SdGets, SdNewW, SdAwk, SdCfg, WCode1, WCode2, WCode3, WCode4, WCode5, WCRef0, WCRef1, WCRef2, WCRef3, WCRef4, WCRef5, WCRow, CodeR, WCOwn, WCMod, WCFit0.
-/
import Derived.Test.YtlkjheheofgdgaaGreatMa6
import Derived.Test.YtlkjheheofgdgaaGreatMa5
import Derived.Test.YtlkjheheofgdgaaGreatMa1
import Derived.Test.YtlkjheheofgdgaaGreatMa2
import Derived.Test.YtlkjheheofgdgaaGreatRows
import Derived.Deep.QuietTactic
import Derived.BigQuiet
import Derived.WalkSmall
import Derived.Deep.DeepCutAuto
import Derived.RegionTactic
import Derived.Deep.RegionHeld3
import Derived.Deep.RegionWith
import Derived.Deep.RegionLaw
import Derived.LoopTactic
import Derived.Deep.AppendLies
import Derived.Deep.RegionLawGrows
import Derived.StillTailTactics
set_option maxRecDepth 100000
set_option maxHeartbeats 16000000
set_option linter.unusedSimpArgs false
set_option linter.unusedVariables false
open Go Go.RowKit
namespace Go.Proofs.YtlkjheheofgdgaaGreat
theorem Xg:∀(l:List Int) (X:Sd) (i:Nat) (g:Int),ym X i (l++[g])={ (ym X i l).zH i { (ym X i l).p i with q:=(xt ((ym X i l).p i).N ((ym X i l).p i).q g (ym X i l).gl).1 } with gl:=(xt ((ym X i l).p i).N ((ym X i l).p i).q g (ym X i l).gl).2.1 }
 | [],X,i,g=>rfl
 | h::t,X,i,g=>by
  rw[List.cons_append];exact Xg t _ i g
section
variable {w0 w:World} {b sp:Nat} {L:Sl} {X:Sd} {R:List zy}
theorem zV.perm {R':List zy}(h:zV w0 w b sp L X R)(hp:R.Perm R'):zV w0 w b sp L X R':=by
 obtain⟨S,h1,h2⟩:=h.tail;exact h2 _ _ (h1.perm (hp.append_right S))
theorem zV.box (h:zV w0 w b sp L X R)(l:List Value)(t:TypeId):zV w0 (w.alloc (.cells l.toArray t)) b sp L X (zf w.heap.size l::R):=by
 obtain⟨S,h1,h2⟩:=h.tail;exact h2 _ _ (h1.alloc l t rfl)
theorem zV.zo {q:Nat}{cs:List Value}(h:zV w0 w b sp L X (zf q cs::R))(k:Nat)(v:Value)(hk:cs[k]?=some v):w.cell? ⟨q,k,none⟩=some v∧w.frozen? ⟨q,k,none⟩=false:=by
 obtain⟨S,h1,h2⟩:=h.tail;exact Own.zo h1 0 rfl k v hk
theorem zV.zW {q:Nat}{cs:List Value}(h:zV w0 w b sp L X (zf q cs::R))(k:Nat)(v:Value):zV w0 (w.setCell ⟨q,k,none⟩ v) b sp L X (zf q (cs.set k v)::R):=by
 obtain⟨S,h1,h2⟩:=h.tail;exact h2 _ _ (Own.set h1 k v)
theorem zV.row {a:Option Addr}{cap n:Nat}{cs:List Value}{A:zy}(h:zV w0 w b sp L X (A::zd 1 a cap n cs::R)):zU 1 w a cap n cs:=by
 obtain⟨S,h1,h2⟩:=h.tail;exact Own.yZ h1 1 rfl
end
def Xt (w0:World)(b sp:Nat)(L:Sl)(D:UR sp)(s:D.T)(X:Sd)(R:List zy)(j m k:Nat)(r:Ending)(w':World):Prop :=
 (∃v s' ra rc,Fit D s (Yb X.W k) v s'∧D.ok j s'∧r=.returned (.slice ra (runM X m v).2.length rc)∧zV w0 w' b sp L (runM X m v).1 (zd 1 ra rc (runM X m v).2.length (zr (runM X m v).2)::(D.A s'++R))) ∨
 (∃ch s' kd n,r=.panicked ch∧Yb X.W k=some (kd,n)∧D.Dp s kd n r s'∧D.ok j s'∧zV w0 w' b sp L X (D.A s'++R))
theorem Xt.Fy {w0:World}{b sp:Nat}{L:Sl}{D:UR sp}{s:D.T}{X:Sd}{R:List zy}{j m k:Nat}{w':World}{ch:List PanicEntry}{s':D.T}{kd n:Int}(h1:Yb X.W k=some (kd,n))(h2:D.Dp s kd n (.panicked ch) s')(h3:D.ok j s')(h4:zV w0 w' b sp L X (D.A s'++R)):Xt w0 b sp L D s X R j m k (.panicked ch) w':=.inr ⟨ch,s',kd,n,rfl,h1,h2,h3,h4⟩
theorem Gl {w0 w:World}{b sp:Nat}{L:Sl}{X:Sd}{R:List zy}{D:UR sp}{s:D.T}{j B:Nat}(h:zV w0 w b sp L X (D.A s++R))(hok:D.ok (j+1) s)(wf:yM B X)(hB:B≤80000){m:Nat}(hm:m<X.ms.length)(hP:(X.m m).P ≠ -1)(hG:(X.m m).G ≠ -1)(hen:X.W.en=0){k:Nat}(hk:(X.m m).G=(k:Int)) :
  Calls Tryz.prog 74 #[.pointer (some ⟨b,0,none⟩),.int .i64 (m:Int)] w (Xt w0 b sp L D s X R j m k):=by
 obtain⟨i,hPi,hi,hby⟩:=wf.at hm hP;obtain⟨pb,off,p,g,hpa,hld⟩:=h.pa hi;obtain⟨mb,off2,hma⟩:=h.ma hm;obtain⟨C13,x6⟩:=h.x6;have ZW:=h.ZW;obtain⟨⟨z0,z1,z2⟩,f0,f1,f2⟩:=h.xP hm hma;rw[hma] at x6;rw[hPi] at z0;rw[hk] at z1;have hnp:=wf.np;have hnm:=wf.nm;have hmL:=wf.mL m;have hmX:(m:Int)<(X.ms.length:Int):=by omega
 have hm0:(0:Int)≤(m:Int):=by omega
 have hiX:(i:Int)<(X.ps.length:Int):=by omega
 have hi0:(0:Int)≤(i:Int):=by omega
 have hLp:=hmL.2.2 hG;obtain⟨k',hk',hks,hkl⟩:=wf.lets hm hG;have hkk:k'=k:=by omega
 subst hkk;have hlets:X.W.lets (k':Int):=⟨hen,by omega,by omega,by simpa using hks⟩
 have HEX:=Qq (fun(wx:World) (hx:zV w0 wx b sp L X (D.A s++R))=>P6 hx hok wf.wf hB k')
 have HEX2:=Qq (fun(wx:World) (q:Nat) (hx:zV w0 wx b sp L X (D.A s++(zf q [.bool false,.slice none 0 0]::R)))=>P6 hx hok wf.wf hB k')
 have HRL:Hid (∀(v:Int),(zG X.W (k':Int) v).2.2.length≤100):=Qq (fun v=>by
  have hr:=(TK wf.wf hB hlets v).1
  have hw:=(wf.wf.exec hB (k':Int) v).1
  exact Nat.le_trans (Yy _ _ hr.nd (fun x hx=>by
   obtain⟨q,e,-,-,hs⟩:=hr.st x hx;refine⟨by omega,?_⟩
   rcases Nat.lt_or_ge q (zG X.W (k':Int) v).1.gs.length with h1|h1
   ·omega
   ·rw[Wk (by omega)] at hs;exact absurd hs (by decide))) hw.g1.2)
 have HLEN:Hid (∀(v:Int) (l:List Int),l.length≤(zG X.W (k':Int) v).2.2.length→(ym { X with W:=(zG X.W (k':Int) v).1 } i l).gl.length≤1000):=Qq (fun v l hl=>by
  have hr:=(TK wf.wf hB hlets v).1
  have hw:=(wf.wf.exec hB (k':Int) v).1
  have hb:(zG X.W (k':Int) v).2.2.length≤100:=Nat.le_trans (Yy _ _ hr.nd (fun x hx=>by
   obtain⟨q,e,-,-,hs⟩:=hr.st x hx;refine⟨by omega,?_⟩
   rcases Nat.lt_or_ge q (zG X.W (k':Int) v).1.gs.length with h1|h1
   ·omega
   ·rw[Wk (by omega)] at hs;exact absurd hs (by decide))) hw.g1.2
  have hp:=(WC l { X with W:=(zG X.W (k':Int) v).1 } i hi).2.length_eq
  have h2:({ X with W:=(zG X.W (k':Int) v).1 }:Sd).all.length≤100:=wf.bound
  have h3:(ym { X with W:=(zG X.W (k':Int) v).1 } i l).gl.length≤(ym { X with W:=(zG X.W (k':Int) v).1 } i l).all.length:=by
   unfold Sd.all;rw[List.length_append];omega
  rw[List.length_append] at hp;omega)
 have HQ:Hid (∀(v:Int) (l:List Int),Qs { X with W:=(zG X.W (k':Int) v).1 } (ym { X with W:=(zG X.W (k':Int) v).1 } i l)):=Qq (fun v l=>(WC l { X with W:=(zG X.W (k':Int) v).1 } i hi).1)
 have HMOD:Hid (∀v,runM X m v=if(zG X.W (k':Int) v).2.1=true∧0<(X.m m).L-1 then((ym { X with W:=(zG X.W (k':Int) v).1 } i (zG X.W (k':Int) v).2.2).zL m { (ym { X with W:=(zG X.W (k':Int) v).1 } i (zG X.W (k':Int) v).2.2).m m with L:=(X.m m).L-1 },(zG X.W (k':Int) v).2.2)
   else({ (ym { X with W:=(zG X.W (k':Int) v).1 } i (zG X.W (k':Int) v).2.2).zL m { (ym { X with W:=(zG X.W (k':Int) v).1 } i (zG X.W (k':Int) v).2.2).m m with G:=-1,L:=(X.m m).L-1 } with gl:=if((ym { X with W:=(zG X.W (k':Int) v).1 } i (zG X.W (k':Int) v).2.2).W.g k').st=1 then(ym { X with W:=(zG X.W (k':Int) v).1 } i (zG X.W (k':Int) v).2.2).gl++[(k':Int)] else(ym { X with W:=(zG X.W (k':Int) v).1 } i (zG X.W (k':Int) v).2.2).gl },(zG X.W (k':Int) v).2.2)):=Qq (fun v=>by
  unfold runM;simp only
  have hi2:(X.m m).P.toNat=i:=by rw[hPi,Int.toNat_natCast]
  rw[hi2];simp only[hk,Int.toNat_natCast])
 have HST:Hid (∀v,k'<(zG X.W (k':Int) v).1.gs.length):=Qq (fun v=>by
  have:=(wf.wf.exec hB (k':Int) v).2.gl;omega)
 have H:=Qq h;have HMM:=Qq hm;have HMA:=Qq hma;have HPA:=Qq hpa;have HLD:=Qq hld;have HI:=Qq hi;obtain⟨LL,hLL⟩:∃LL,LL=(X.m m).L:=⟨_,rfl⟩
 have HGI:=Qq hk;have HPI:=Qq hPi;rw[←hLL] at z2 HMOD hLp;have hL2:LL≤1024:=by rw[hLL];exact hmL.2.1
 have HLL:=Qq hLL;clear h hok wf hm hP hG hen hPi hi hby hpa hld hma hnp hnm hmL hk hk' hks hkl hlets hLL;go_enter Tryz.func74,Tryz.ntmps74
 go_upto_region 2 with fail
 have hmf:∀(fn:Fn) (first cap:Array Value) (w:World),(Instr.makeFunc fn first cap).run Tryz.prog w=.ok (.func fn first cap) w:=fun _ _ _ _=>rfl
 have HSB:Hid (∀wx Y Z,zV w0 wx b sp L Y Z→Y.ms=X.ms→wx.cell? ⟨b,11,none⟩=some (.pointer (some ⟨sp,0,none⟩))∧wx.cell? ⟨mb,off2+m*3+1,none⟩=some (.int .i64 (k':Int))):=Qq (fun wx Y Z hx e=>by
  have e1:Y.m m=X.m m:=by unfold Sd.m;rw[e]
  have h2:=(hx.xP (i:=m) (by rw[e];exact HMM.out) HMA.out).1.2.1
  rw[e1,HGI.out] at h2;exact⟨hx.ZW,h2⟩)
 clear ZW z0 z1 z2 f0 f1 f2;refine xT (fun wx=>wx.cell? ⟨b,11,none⟩=some (.pointer (some ⟨sp,0,none⟩))∧wx.cell? ⟨mb,off2+m*3+1,none⟩=some (.int .i64 (k':Int))) 15 (Array.replicate 15 false) (by kernel_rfl) (by kernel_rfl) ?_
 have h1:=H.out.step (zg w)
 generalize w.drew=w1 at *;refine zq 0 12 _ (Qj 15 4095) 3 (by kernel_rfl) Xp (HSB.out _ _ _ h1 rfl) (by kernel_rfl) ?_
 simp only[QX,QV,QJ];(repeat((first|refine Qx (h:=?_)|refine Qv (h:=?_));simp only[Act.put,QW,QY,QZ]));refine zb ?_;refine yJ 12 13 _ (Qj 15 8191) (Qj 15 12287) 2 (by kernel_rfl) (fun K hK=>?_) (fun K hK=>?_)
 ·skip
  have HKK:=Qq hK;clear hK;simp only[QQ,QJ];refine zc (by rfl) ?_;go_simp;refine(HEX.out _ h1).mono ?_
  intro r w2 hp;rcases hp with⟨v,s',ra,rc,hfit,hok',rfl,h2⟩|⟨ch,s',kd,n,rfl,hak,hdp,hok',h2⟩
  ·skip
   have HFIT:=Qq (And.intro hfit hok')
   have HLEN2:=Qq (HLEN.out v)
   have HQ2:=Qq (HQ.out v)
   have HMOD2:=Qq (HMOD.out v)
   have HST2:=Qq (HST.out v)
   have hrl:=HRL.out v;clear hfit hok' HLEN HQ HMOD HST HEX HEX2 HRL;generalize zG X.W (k':Int) v=E at *
   obtain⟨W1,kp,rd⟩:=E;simp only at h2 HLEN2 HQ2 HMOD2 HST2 hrl ⊢
   obtain⟨X1,hX1⟩:∃X1:Sd,X1={ X with W:=W1 }:=⟨_,rfl⟩
   rw[←hX1] at h2 HLEN2 HQ2 HMOD2;have HX1:Hid (X1.ms=X.ms∧X1.ps=X.ps∧X1.W=W1):=Qq (by rw[hX1];exact⟨rfl,rfl,rfl⟩)
   clear hX1;obtain⟨N,hN⟩:∃N,N=rd.length:=⟨_,rfl⟩
   rw[←hN] at h2 hrl ⊢;have HN:=Qq hN;clear hN;have e1:=HSB.out _ _ _ h2 HX1.out.1;refine HKK.out _ _ (e1) ?_
   clear HKK K;have h3:=h2.box [.bool false,.slice none 0 0] 210
   have e2:=HSB.out _ _ _ h3 HX1.out.1;refine zn 13 _ (Qj 15 16383) 1 (by kernel_rfl) (fun K hK=>?_)
   have HKK:=Qq hK;clear hK;simp only[QQ,QJ];refine zc (by rfl) ?_;go_simp;refine HKK.out _ _ (e2) ?_
   clear HKK K;generalize w2.alloc (.cells #[.bool false,.slice none 0 0] 210)=w3 at *
   generalize w2.heap.size=qb at *;obtain⟨x0,y0⟩:=h3.zo 0 _ rfl;obtain⟨x1,y1⟩:=h3.zo 1 _ rfl;have h4:=(h3.zW 0 (.bool kp)).zW 1 (.slice ra N rc)
   have e3:=HSB.out _ _ _ h4 HX1.out.1;refine zn 14 _ (Qj 15 32767) 0 (by kernel_rfl) (fun K hK=>?_)
   have HKK:=Qq hK;clear hK;simp only[QQ,QJ];refine zc (by rfl) ?_;go_simp;refine HKK.out _ _ (e3) ?_
   clear HKK K;refine wpAnyH_done (by kernel_rfl) (?_) _
   have HS:=Qq h4;clear h2 h3 h4 e1 e2 x0 y0 x1 y1 H;generalize (w3.setCell ⟨qb,0,none⟩ (.bool kp)).setCell ⟨qb,1,none⟩ (.slice ra N rc)=w4 at *
   obtain⟨ZW,z1⟩:=e3;have c1:=(HS.out.zo 1 _ rfl).1
   clear ZW z1;go_wp2_with fail;go_loopw [31] (fun iv wr=>∃i2:Nat,i2≤N∧iv=.int .i64 i2∧Hid (zV w0 wr b sp L (ym X1 i (rd.take i2)) (zf qb [.bool kp,.slice ra N rc]::zd 1 ra rc N (zr rd)::(D.A s'++R)))) (fun iv _=>N-(intOf iv).toNat)
   case atStart=>exact⟨0,by omega,rfl,HS⟩
   case round =>
    obtain⟨i2,hi2,rfl,hr⟩:=hrel;clear HS c1;have q:=HQ2.out (rd.take i2)
    have hms:(ym X1 i (rd.take i2)).ms=X.ms:=q.ms.trans HX1.out.1
    have hps:(ym X1 i (rd.take i2)).ps.length=X.ps.length:=by rw[q.len,HX1.out.2.1]
    have hmm:(ym X1 i (rd.take i2)).m m=X.m m:=by unfold Sd.m;rw[hms]
    have hmY:m<(ym X1 i (rd.take i2)).ms.length:=by rw[hms];exact HMM.out
    have hiY:i<(ym X1 i (rd.take i2)).ps.length:=by rw[hps];exact HI.out
    by_cases hlt:i2<N
    ·have hlt2:(i2:Int)<(N:Int):=by omega
     have hi20:(0:Int)≤(i2:Int):=by omega
     have hil:i2<rd.length:=by rw[←HN.out];exact hlt
     have hrow:=hr.out.row;obtain⟨rb,roff,rfl,hc⟩:=hrow.cells i2 (.int .i64 rd[i2]) (by rw[xJ,List.getElem?_eq_getElem hil];rfl)
     have z0:=(hr.out.xP hmY HMA.out).1.1
     rw[hmm,HPI.out] at z0;obtain⟨C12,ZB⟩:=hr.out.ZB;rw[HPA.out,hps] at ZB;have x0:=(hr.out.proc hiY HPA.out HLD.out).1.1
     have hgl:=HLEN2.out (rd.take i2) (by rw[List.length_take];omega)
     have htk:rd.take (i2+1)=rd.take i2++[rd[i2]]:=List.take_succ_eq_append_getElem hil
     have HRD:=Qq (fun(wx:World) (hx:zV w0 wx b sp L (ym X1 i (rd.take i2)) (zf qb [.bool kp,.slice (some ⟨rb,roff,none⟩) N rc]::zd 1 (some ⟨rb,roff,none⟩) rc N (zr rd)::(D.A s'++R)))=>(RW hx hiY HLD.out (by omega) rd[i2]).mono (R':=fun r w'=>(∃y,r=.returned (.int .i64 y))∧zV w0 w' b sp L (ym X1 i (rd.take (i2+1))) (zf qb [.bool kp,.slice (some ⟨rb,roff,none⟩) N rc]::zd 1 (some ⟨rb,roff,none⟩) rc N (zr rd)::(D.A s'++R))) (fun r w' hh=>⟨⟨_,hh.1⟩,by rw[htk,Xg];exact hh.2⟩))
     generalize rd[i2]=gv at *
     clear q hms hps hmm hmY hiY hil hrow hgl htk;go_upto_region 6 with fail
     refine zi (fun wx=>∃nq,wx=World.drewN (wr) nq) 15 1 (Array.replicate 16 false) (Qj 16 32767) (by kernel_rfl) (by kernel_rfl) ?_
     refine ze 0 15 _ (Qj 16 32767) 0 (by kernel_rfl) za (zE wr) (by kernel_rfl) ?_
     simp only[QX,QV,QJ];(repeat((first|refine Qx (h:=?_)|refine Qw (h:=?_));simp only[Act.put,QW,QY,QZ]));refine zb ?_;refine zm ?_;refine zP 15 (by kernel_rfl) ?_
     simp only[QQ,QJ];go_wp2_with fail;refine(HRD.out _ (hr.out.step (zv wr _))).mono ?_
     rintro r w5 ⟨⟨y,rfl⟩,h5⟩;have H5:=Qq h5;clear h5 HRD hr z0 ZB x0 hc;go_wp2_with fail;refine NoPanic.normal ?_
     go_wp2;exact⟨⟨i2+1,by omega,by go_num,H5⟩,by simp[intOf];omega⟩
    ·obtain rfl:i2=N:=by omega
     have etk:rd.take i2=rd:=by rw[HN.out,List.take_length]
     rw[etk] at hr q hms hps hmm hmY hiY;obtain⟨Y,hY⟩:∃Y,Y=ym X1 i rd:=⟨_,rfl⟩
     have HMOD3:=HMOD2;have hylen:=HLEN2.out rd (by omega)
     rw[←hY] at hr q hms hps hmm hmY hiY HMOD3 hylen;have hYW:Y.W=W1:=q.W.trans HX1.out.2.2
     obtain⟨⟨-,z1,z2⟩,-,f1,f2⟩:=hr.out.xP hmY HMA.out;rw[hmm,HGI.out] at z1;rw[hmm,←HLL.out] at z2;have hwr:IntKind.i64.wrap (LL-1)=LL-1:=by rw[IntKind.wrap_i64];omega
     have h6:=hr.out.setL hmY HMA.out (LL-1)
     have hm6:m<(Y.zL m { Y.m m with L:=LL-1 }).ms.length:=by simpa [Sd.zL] using hmY
     obtain⟨⟨-,y1,y2⟩,-,g1,-⟩:=h6.xP hm6 HMA.out;rw[xh hmY,if_pos rfl] at y1 y2;simp only at y1 y2
     rw[hmm,HGI.out] at y1;obtain⟨b0,-⟩:=h6.zo 0 _ rfl;obtain⟨b1,-⟩:=h6.zo 1 _ rfl;have H6:=Qq h6;have HY:Hid (Y.ms=X.ms∧Y.m m=X.m m∧m<Y.ms.length∧m<(Y.zL m { Y.m m with L:=LL-1 }).ms.length∧Y.W=W1∧Y.gl.length≤1000):=Qq ⟨hms,hmm,hmY,hm6,hYW,hylen⟩
     clear q hms hps hmm hmY hiY hY hYW h6 hm6 HMOD2 HQ2 HLEN2 hylen etk hr HX1 z1 f1;go_upto_region 9 with fail
     generalize wr.setCell ⟨mb,off2+m*3+2,none⟩ (.int .i64 (LL-1))=w6 at *
     clear z2 f2;have HPO:Hid (∀wx Z,zV w0 wx b sp L Z (zd 1 ra rc i2 (zr rd)::(D.A s'++R))→runM X m v=(Z,rd)→Xt w0 b sp L D s X R j m k' (.returned (.slice ra i2 rc)) wx):=Qq (fun wx Z hz e=>.inl ⟨v,s',ra,rc,HFIT.out.1,HFIT.out.2,by rw[e,HN.out],by rw[e];rw[HN.out] at hz;exact hz⟩)
     by_cases hkeep:kp=true∧0<LL-1
     ·obtain⟨hk1,hk2⟩:=hkeep
      subst hk1;have hres:=HMOD3.out;rw[if_pos ⟨rfl,hk2⟩] at hres
      have HRES:Hid (∀rr,rr=Ending.returned (.slice ra i2 rc)→Xt w0 b sp L D s X R j m k' rr w6):=Qq (fun rr e=>by rw[e];exact HPO.out _ _ H6.out.less hres)
      clear hres HPO HMOD3 H6;have hk3:LL-1>0:=hk2
      go_wp2;go_ret;exact HRES.out _ rfl
     ·have hres:=HMOD3.out
      rw[if_neg hkeep] at hres;have HRES:=Qq hres;clear hres HMOD3;obtain⟨e1,e2,e3,e4,e5,e6⟩:=HY.out;have hst:xp W1 (k':Int)=(W1.g k').st:=by
       unfold xp;rw[if_pos ⟨by omega,by have:=HST2.out;omega⟩,Int.toNat_natCast]
      have HSTA:=Qq (fun(wx:World) (hx:zV w0 wx b sp L (Y.zL m { Y.m m with L:=LL-1 }) (zf qb [.bool kp,.slice ra i2 rc]::zd 1 ra rc i2 (zr rd)::(D.A s'++R)))=>(by
       have:=TB hx (k':Int)
       rw[show(Y.zL m { Y.m m with L:=LL-1 }).W=W1 from e5,hst] at this
       exact this:Calls Tryz.prog 35 #[.pointer (some ⟨b,0,none⟩),.int .i64 (k':Int)] wx fun r w'=>r=.returned (.int .i64 (W1.g k').st)∧w'=wx))
      rw[e5] at HRES;generalize (W1.g k').st=sv at *
      have hcond:(kp=true∧LL-1>0)=False:=by simpa using hkeep
      clear e1 e2 e3 e4 e5 e6 hst;have HB0:=Qq b0;have HB1:=Qq b1;have hk0:kp=false∨(kp=true∧¬LL-1>0):=by
       cases kp with
       | false=>exact .inl rfl
       | true=>exact .inr ⟨rfl,fun hc=>hkeep ⟨rfl,hc⟩⟩
      clear hkeep hcond;rcases hk0 with rfl|⟨rfl,hk0⟩
      ·skip
       go_upto_region 11 with fail
       refine zi (fun wx=>∃nq,wx=World.drewN (w6) nq) 7 2 (Array.replicate 9 false) (Qj 9 127) (by kernel_rfl) (by kernel_rfl) ?_
       refine ze 0 7 _ (Qj 9 127) 0 (by kernel_rfl) za (zE w6) (by kernel_rfl) ?_
       simp only[QX,QV,QJ];(repeat((first|refine Qx (h:=?_)|refine Qw (h:=?_));simp only[Act.put,QW,QY,QZ]));refine zb ?_;refine zm ?_;refine zP 7 (by kernel_rfl) ?_
       simp only[QQ,QJ];go_wp2_with fail;refine(HSTA.out _ (H6.out.step (zv w6 _))).mono ?_
       rintro r w7 ⟨rfl,rfl⟩;by_cases hsv:sv=1
       ·have hsv2:(sv==1)=true:=by simpa using hsv
        rw[if_pos hsv] at HRES;have h7:=H6.out.step (zv w6 1)
        have y7:=zj y1 (zv w6 1)
        have HY1:Hid (∀wx Z,zV w0 wx b sp L (Y.zL m { Y.m m with L:=LL-1 }) Z→wx.cell? ⟨mb,off2+m*3+1,none⟩=some (.int .i64 (k':Int))):=Qq (fun wx Z hz=>by
         have h2:=(hz.xP HY.out.2.2.2.1 HMA.out).1.2.1
         rw[xh HY.out.2.2.1,if_pos rfl] at h2;simp only at h2
         rw[HY.out.2.1,HGI.out] at h2;exact h2)
        have H7:=Qq h7;clear hsv h7 HSTA H6 y1 y2 b0 b1 HB0 HB1 g1;go_wp2_with fail;refine NoPanic.normal ?_
        go_upto_region 12 with fail
        have h7:=H7.out;generalize w6.drewN 1=w7 at *;have h8:=h7.step (zg w7)
        refine zi (fun wx=>wx.cell? ⟨mb,off2+m*3+1,none⟩=some (.int .i64 (k':Int))) 9 0 (Array.replicate 9 false) (Qj 9 511) (by kernel_rfl) (by kernel_rfl) ?_
        refine ze 0 7 _ (Qj 9 127) 2 (by kernel_rfl) za (HY1.out _ _ h8) (by kernel_rfl) ?_
        simp only[QX,QV,QJ];(repeat((first|refine Qx (h:=?_)|refine Qv (h:=?_));simp only[Act.put,QW,QY,QZ]));refine zb ?_;have h9:=h8.box [.int .i64 (k':Int)] 3
        refine zB 7 _ (Qj 9 255) 1 (by kernel_rfl) (fun K hK=>?_)
        have HKK:=Qq hK;clear hK;simp only[QQ,QJ];refine zc (by rfl) ?_;go_simp;refine HKK.out _ _ (HY1.out _ _ h9) ?_
        clear HKK K;refine zB 8 _ (Qj 9 511) 0 (by kernel_rfl) (fun K hK=>?_)
        have HKK:=Qq hK;clear hK;simp only[QQ,QJ];refine zc (by rfl) ?_;go_simp;refine(XE h9 (some ⟨w7.drew.heap.size,0,none⟩) 1 1 [(k':Int)] rfl (zO.one w7.drew (k':Int) 3 rfl).ints (by have:=HY.out.2.2.2.2.2;show Y.gl.length+1≤_;omega)).mono ?_
        rintro r w10 ⟨rfl,h10⟩;have e10:w10.cell? ⟨mb,off2+m*3+1,none⟩=some (.int .i64 (k':Int)):=by
         have h2:w10.cell? ⟨mb,off2+m*3+1,none⟩=some (.int .i64 ((Y.zL m { Y.m m with L:=LL-1 }).m m).G):=(h10.xP (i:=m) HY.out.2.2.2.1 HMA.out).1.2.1
         rw[xh HY.out.2.2.1,if_pos rfl] at h2;simp only at h2
         rw[HY.out.2.1,HGI.out] at h2;exact h2
        refine HKK.out _ _ (e10) ?_
        clear HKK K;refine zm ?_;refine zD (by kernel_rfl) (NoPanic.normal ?_)
        have h11:=h10.ye (i:=m) HY.out.2.2.2.1 HMA.out (-1)
        obtain⟨⟨-,d1,-⟩,-,k1,-⟩:=h10.xP (i:=m) HY.out.2.2.2.1 HMA.out
        have e8:=(h11.less.zo 1 _ rfl).1
        have HF:Hid (∀rr,rr=Ending.returned (.slice ra i2 rc)→Xt w0 b sp L D s X R j m k' rr (w10.setCell ⟨mb,off2+m*3+1,none⟩ (.int .i64 (-1)))):=Qq (fun rr e=>by
         rw[e];refine HPO.out _ _ h11.less.less ?_
         rw[HRES.out];congr 1
         show _=({ (Y.zL m { Y.m m with L:=LL-1 }).zL m { (Y.zL m { Y.m m with L:=LL-1 }).m m with G:=-1 } with gl:=Y.gl++[(k':Int)] }:Sd)
         rw[xL,xh HY.out.2.2.1,if_pos rfl])
        clear h7 h8 h9 h10 h11 y7 HRES HPO e10 H7 HY1;go_upto_region 14 with fail
        clear d1 k1;generalize w10.setCell ⟨mb,off2+m*3+1,none⟩ (.int .i64 (-1))=w11 at *
        go_wp2;go_ret;exact HF.out _ rfl
       ·have hsv2:(sv==1)=false:=by simpa using hsv
        rw[if_neg hsv] at HRES;have h8:=(H6.out.step (zv w6 1)).ye HY.out.2.2.2.1 HMA.out (-1)
        obtain⟨⟨-,d1,-⟩,-,k1,-⟩:=(H6.out.step (zv w6 1)).xP HY.out.2.2.2.1 HMA.out
        have e8:=(h8.zo 1 _ rfl).1
        have HF:Hid (∀rr,rr=Ending.returned (.slice ra i2 rc)→Xt w0 b sp L D s X R j m k' rr ((w6.drewN 1).setCell ⟨mb,off2+m*3+1,none⟩ (.int .i64 (-1)))):=Qq (fun rr e=>by
         rw[e];refine HPO.out _ _ h8.less ?_
         rw[HRES.out];congr 1
         rw[xL,xh HY.out.2.2.1,if_pos rfl];rfl)
        clear hsv h8 HSTA H6 y1 y2 b0 b1 HB0 HB1 g1 HRES HPO;go_wp2_with fail;refine NoPanic.normal ?_
        go_upto_region 14 with fail
        clear d1 k1;generalize (w6.drewN 1).setCell ⟨mb,off2+m*3+1,none⟩ (.int .i64 (-1))=w9 at *
        go_wp2;go_ret;exact HF.out _ rfl
      ·skip
       go_upto_region 11 with fail
       refine zi (fun wx=>∃nq,wx=World.drewN (w6) nq) 7 2 (Array.replicate 9 false) (Qj 9 127) (by kernel_rfl) (by kernel_rfl) ?_
       refine ze 0 7 _ (Qj 9 127) 0 (by kernel_rfl) za (zE w6) (by kernel_rfl) ?_
       simp only[QX,QV,QJ];(repeat((first|refine Qx (h:=?_)|refine Qw (h:=?_));simp only[Act.put,QW,QY,QZ]));refine zb ?_;refine zm ?_;refine zP 7 (by kernel_rfl) ?_
       simp only[QQ,QJ];go_wp2_with fail;refine(HSTA.out _ (H6.out.step (zv w6 _))).mono ?_
       rintro r w7 ⟨rfl,rfl⟩;by_cases hsv:sv=1
       ·have hsv2:(sv==1)=true:=by simpa using hsv
        rw[if_pos hsv] at HRES;have h7:=H6.out.step (zv w6 1)
        have y7:=zj y1 (zv w6 1)
        have HY1:Hid (∀wx Z,zV w0 wx b sp L (Y.zL m { Y.m m with L:=LL-1 }) Z→wx.cell? ⟨mb,off2+m*3+1,none⟩=some (.int .i64 (k':Int))):=Qq (fun wx Z hz=>by
         have h2:=(hz.xP HY.out.2.2.2.1 HMA.out).1.2.1
         rw[xh HY.out.2.2.1,if_pos rfl] at h2;simp only at h2
         rw[HY.out.2.1,HGI.out] at h2;exact h2)
        have H7:=Qq h7;clear hsv h7 HSTA H6 y1 y2 b0 b1 HB0 HB1 g1;go_wp2_with fail;refine NoPanic.normal ?_
        go_upto_region 12 with fail
        have h7:=H7.out;generalize w6.drewN 1=w7 at *;have h8:=h7.step (zg w7)
        refine zi (fun wx=>wx.cell? ⟨mb,off2+m*3+1,none⟩=some (.int .i64 (k':Int))) 9 0 (Array.replicate 9 false) (Qj 9 511) (by kernel_rfl) (by kernel_rfl) ?_
        refine ze 0 7 _ (Qj 9 127) 2 (by kernel_rfl) za (HY1.out _ _ h8) (by kernel_rfl) ?_
        simp only[QX,QV,QJ];(repeat((first|refine Qx (h:=?_)|refine Qv (h:=?_));simp only[Act.put,QW,QY,QZ]));refine zb ?_;have h9:=h8.box [.int .i64 (k':Int)] 3
        refine zB 7 _ (Qj 9 255) 1 (by kernel_rfl) (fun K hK=>?_)
        have HKK:=Qq hK;clear hK;simp only[QQ,QJ];refine zc (by rfl) ?_;go_simp;refine HKK.out _ _ (HY1.out _ _ h9) ?_
        clear HKK K;refine zB 8 _ (Qj 9 511) 0 (by kernel_rfl) (fun K hK=>?_)
        have HKK:=Qq hK;clear hK;simp only[QQ,QJ];refine zc (by rfl) ?_;go_simp;refine(XE h9 (some ⟨w7.drew.heap.size,0,none⟩) 1 1 [(k':Int)] rfl (zO.one w7.drew (k':Int) 3 rfl).ints (by have:=HY.out.2.2.2.2.2;show Y.gl.length+1≤_;omega)).mono ?_
        rintro r w10 ⟨rfl,h10⟩;have e10:w10.cell? ⟨mb,off2+m*3+1,none⟩=some (.int .i64 (k':Int)):=by
         have h2:w10.cell? ⟨mb,off2+m*3+1,none⟩=some (.int .i64 ((Y.zL m { Y.m m with L:=LL-1 }).m m).G):=(h10.xP (i:=m) HY.out.2.2.2.1 HMA.out).1.2.1
         rw[xh HY.out.2.2.1,if_pos rfl] at h2;simp only at h2
         rw[HY.out.2.1,HGI.out] at h2;exact h2
        refine HKK.out _ _ (e10) ?_
        clear HKK K;refine zm ?_;refine zD (by kernel_rfl) (NoPanic.normal ?_)
        have h11:=h10.ye (i:=m) HY.out.2.2.2.1 HMA.out (-1)
        obtain⟨⟨-,d1,-⟩,-,k1,-⟩:=h10.xP (i:=m) HY.out.2.2.2.1 HMA.out
        have e8:=(h11.less.zo 1 _ rfl).1
        have HF:Hid (∀rr,rr=Ending.returned (.slice ra i2 rc)→Xt w0 b sp L D s X R j m k' rr (w10.setCell ⟨mb,off2+m*3+1,none⟩ (.int .i64 (-1)))):=Qq (fun rr e=>by
         rw[e];refine HPO.out _ _ h11.less.less ?_
         rw[HRES.out];congr 1
         show _=({ (Y.zL m { Y.m m with L:=LL-1 }).zL m { (Y.zL m { Y.m m with L:=LL-1 }).m m with G:=-1 } with gl:=Y.gl++[(k':Int)] }:Sd)
         rw[xL,xh HY.out.2.2.1,if_pos rfl])
        clear h7 h8 h9 h10 h11 y7 HRES HPO e10 H7 HY1;go_upto_region 14 with fail
        clear d1 k1;generalize w10.setCell ⟨mb,off2+m*3+1,none⟩ (.int .i64 (-1))=w11 at *
        go_wp2;go_ret;exact HF.out _ rfl
       ·have hsv2:(sv==1)=false:=by simpa using hsv
        rw[if_neg hsv] at HRES;have h8:=(H6.out.step (zv w6 1)).ye HY.out.2.2.2.1 HMA.out (-1)
        obtain⟨⟨-,d1,-⟩,-,k1,-⟩:=(H6.out.step (zv w6 1)).xP HY.out.2.2.2.1 HMA.out
        have e8:=(h8.zo 1 _ rfl).1
        have HF:Hid (∀rr,rr=Ending.returned (.slice ra i2 rc)→Xt w0 b sp L D s X R j m k' rr ((w6.drewN 1).setCell ⟨mb,off2+m*3+1,none⟩ (.int .i64 (-1)))):=Qq (fun rr e=>by
         rw[e];refine HPO.out _ _ h8.less ?_
         rw[HRES.out];congr 1
         rw[xL,xh HY.out.2.2.1,if_pos rfl];rfl)
        clear hsv h8 HSTA H6 y1 y2 b0 b1 HB0 HB1 g1 HRES HPO;go_wp2_with fail;refine NoPanic.normal ?_
        go_upto_region 14 with fail
        clear d1 k1;generalize (w6.drewN 1).setCell ⟨mb,off2+m*3+1,none⟩ (.int .i64 (-1))=w9 at *
        go_wp2;go_ret;exact HF.out _ rfl
  ·exact⟨rfl,Xt.Fy hak hdp hok' h2⟩
 ·skip
  have h2:=h1.box [.bool false,.slice none 0 0] 210
  have e2:=HSB.out _ _ _ h2 rfl;have HKK:=Qq hK;clear hK;simp only[QQ,QJ];refine zc (by rfl) ?_;go_simp;refine HKK.out _ _ (e2) ?_
  clear HKK K;generalize w1.alloc (.cells #[.bool false,.slice none 0 0] 210)=w2 at *
  generalize w1.heap.size=qb at *;refine zn 12 _ (Qj 15 16383) 1 (by kernel_rfl) (fun K hK=>?_)
  have HKK:=Qq hK;clear hK;simp only[QQ,QJ];refine zc (by rfl) ?_;go_simp;refine(HEX2.out _ qb (h2.perm List.perm_middle.symm)).mono ?_
  intro r w3 hp;rcases hp with⟨v,s',ra,rc,hfit,hok',rfl,h3⟩|⟨ch,s',kd,n,rfl,hak,hdp,hok',h3⟩
  ·skip
   have HFIT:=Qq (And.intro hfit hok')
   have HLEN2:=Qq (HLEN.out v)
   have HQ2:=Qq (HQ.out v)
   have HMOD2:=Qq (HMOD.out v)
   have HST2:=Qq (HST.out v)
   have hrl:=HRL.out v;clear hfit hok' HLEN HQ HMOD HST HEX HEX2 HRL;generalize zG X.W (k':Int) v=E at *
   obtain⟨W1,kp,rd⟩:=E;simp only at h3 HLEN2 HQ2 HMOD2 HST2 hrl ⊢
   obtain⟨X1,hX1⟩:∃X1:Sd,X1={ X with W:=W1 }:=⟨_,rfl⟩
   rw[←hX1] at h3 HLEN2 HQ2 HMOD2;have HX1:Hid (X1.ms=X.ms∧X1.ps=X.ps∧X1.W=W1):=Qq (by rw[hX1];exact⟨rfl,rfl,rfl⟩)
   clear hX1;obtain⟨N,hN⟩:∃N,N=rd.length:=⟨_,rfl⟩
   rw[←hN] at h3 hrl ⊢;have HN:=Qq hN;clear hN;have h3:zV w0 w3 b sp L X1 (zf qb [.bool false,.slice none 0 0]::zd 1 ra rc N (zr rd)::(D.A s'++R)):=h3.perm ((List.Perm.cons _ List.perm_middle).trans (List.Perm.swap _ _ _))
   have e3:=HSB.out _ _ _ h3 HX1.out.1;refine HKK.out _ _ (e3) ?_
   clear HKK K;obtain⟨x0,y0⟩:=h3.zo 0 _ rfl;obtain⟨x1,y1⟩:=h3.zo 1 _ rfl;have h4:=(h3.zW 0 (.bool kp)).zW 1 (.slice ra N rc)
   have e3:=HSB.out _ _ _ h4 HX1.out.1;refine zn 14 _ (Qj 15 32767) 0 (by kernel_rfl) (fun K hK=>?_)
   have HKK:=Qq hK;clear hK;simp only[QQ,QJ];refine zc (by rfl) ?_;go_simp;refine HKK.out _ _ (e3) ?_
   clear HKK K;refine wpAnyH_done (by kernel_rfl) (?_) _
   have HS:=Qq h4;clear h2 h3 h4 e2 x0 y0 x1 y1 H;generalize (w3.setCell ⟨qb,0,none⟩ (.bool kp)).setCell ⟨qb,1,none⟩ (.slice ra N rc)=w4 at *
   obtain⟨ZW,z1⟩:=e3;have c1:=(HS.out.zo 1 _ rfl).1
   clear ZW z1;go_wp2_with fail;go_loopw [31] (fun iv wr=>∃i2:Nat,i2≤N∧iv=.int .i64 i2∧Hid (zV w0 wr b sp L (ym X1 i (rd.take i2)) (zf qb [.bool kp,.slice ra N rc]::zd 1 ra rc N (zr rd)::(D.A s'++R)))) (fun iv _=>N-(intOf iv).toNat)
   case atStart=>exact⟨0,by omega,rfl,HS⟩
   case round =>
    obtain⟨i2,hi2,rfl,hr⟩:=hrel;clear HS c1;have q:=HQ2.out (rd.take i2)
    have hms:(ym X1 i (rd.take i2)).ms=X.ms:=q.ms.trans HX1.out.1
    have hps:(ym X1 i (rd.take i2)).ps.length=X.ps.length:=by rw[q.len,HX1.out.2.1]
    have hmm:(ym X1 i (rd.take i2)).m m=X.m m:=by unfold Sd.m;rw[hms]
    have hmY:m<(ym X1 i (rd.take i2)).ms.length:=by rw[hms];exact HMM.out
    have hiY:i<(ym X1 i (rd.take i2)).ps.length:=by rw[hps];exact HI.out
    by_cases hlt:i2<N
    ·have hlt2:(i2:Int)<(N:Int):=by omega
     have hi20:(0:Int)≤(i2:Int):=by omega
     have hil:i2<rd.length:=by rw[←HN.out];exact hlt
     have hrow:=hr.out.row;obtain⟨rb,roff,rfl,hc⟩:=hrow.cells i2 (.int .i64 rd[i2]) (by rw[xJ,List.getElem?_eq_getElem hil];rfl)
     have z0:=(hr.out.xP hmY HMA.out).1.1
     rw[hmm,HPI.out] at z0;obtain⟨C12,ZB⟩:=hr.out.ZB;rw[HPA.out,hps] at ZB;have x0:=(hr.out.proc hiY HPA.out HLD.out).1.1
     have hgl:=HLEN2.out (rd.take i2) (by rw[List.length_take];omega)
     have htk:rd.take (i2+1)=rd.take i2++[rd[i2]]:=List.take_succ_eq_append_getElem hil
     have HRD:=Qq (fun(wx:World) (hx:zV w0 wx b sp L (ym X1 i (rd.take i2)) (zf qb [.bool kp,.slice (some ⟨rb,roff,none⟩) N rc]::zd 1 (some ⟨rb,roff,none⟩) rc N (zr rd)::(D.A s'++R)))=>(RW hx hiY HLD.out (by omega) rd[i2]).mono (R':=fun r w'=>(∃y,r=.returned (.int .i64 y))∧zV w0 w' b sp L (ym X1 i (rd.take (i2+1))) (zf qb [.bool kp,.slice (some ⟨rb,roff,none⟩) N rc]::zd 1 (some ⟨rb,roff,none⟩) rc N (zr rd)::(D.A s'++R))) (fun r w' hh=>⟨⟨_,hh.1⟩,by rw[htk,Xg];exact hh.2⟩))
     generalize rd[i2]=gv at *
     clear q hms hps hmm hmY hiY hil hrow hgl htk;go_upto_region 6 with fail
     refine zi (fun wx=>∃nq,wx=World.drewN (wr) nq) 15 1 (Array.replicate 16 false) (Qj 16 32767) (by kernel_rfl) (by kernel_rfl) ?_
     refine ze 0 15 _ (Qj 16 32767) 0 (by kernel_rfl) za (zE wr) (by kernel_rfl) ?_
     simp only[QX,QV,QJ];(repeat((first|refine Qx (h:=?_)|refine Qw (h:=?_));simp only[Act.put,QW,QY,QZ]));refine zb ?_;refine zm ?_;refine zP 15 (by kernel_rfl) ?_
     simp only[QQ,QJ];go_wp2_with fail;refine(HRD.out _ (hr.out.step (zv wr _))).mono ?_
     rintro r w5 ⟨⟨y,rfl⟩,h5⟩;have H5:=Qq h5;clear h5 HRD hr z0 ZB x0 hc;go_wp2_with fail;refine NoPanic.normal ?_
     go_wp2;exact⟨⟨i2+1,by omega,by go_num,H5⟩,by simp[intOf];omega⟩
    ·obtain rfl:i2=N:=by omega
     have etk:rd.take i2=rd:=by rw[HN.out,List.take_length]
     rw[etk] at hr q hms hps hmm hmY hiY;obtain⟨Y,hY⟩:∃Y,Y=ym X1 i rd:=⟨_,rfl⟩
     have HMOD3:=HMOD2;have hylen:=HLEN2.out rd (by omega)
     rw[←hY] at hr q hms hps hmm hmY hiY HMOD3 hylen;have hYW:Y.W=W1:=q.W.trans HX1.out.2.2
     obtain⟨⟨-,z1,z2⟩,-,f1,f2⟩:=hr.out.xP hmY HMA.out;rw[hmm,HGI.out] at z1;rw[hmm,←HLL.out] at z2;have hwr:IntKind.i64.wrap (LL-1)=LL-1:=by rw[IntKind.wrap_i64];omega
     have h6:=hr.out.setL hmY HMA.out (LL-1)
     have hm6:m<(Y.zL m { Y.m m with L:=LL-1 }).ms.length:=by simpa [Sd.zL] using hmY
     obtain⟨⟨-,y1,y2⟩,-,g1,-⟩:=h6.xP hm6 HMA.out;rw[xh hmY,if_pos rfl] at y1 y2;simp only at y1 y2
     rw[hmm,HGI.out] at y1;obtain⟨b0,-⟩:=h6.zo 0 _ rfl;obtain⟨b1,-⟩:=h6.zo 1 _ rfl;have H6:=Qq h6;have HY:Hid (Y.ms=X.ms∧Y.m m=X.m m∧m<Y.ms.length∧m<(Y.zL m { Y.m m with L:=LL-1 }).ms.length∧Y.W=W1∧Y.gl.length≤1000):=Qq ⟨hms,hmm,hmY,hm6,hYW,hylen⟩
     clear q hms hps hmm hmY hiY hY hYW h6 hm6 HMOD2 HQ2 HLEN2 hylen etk hr HX1 z1 f1;go_upto_region 9 with fail
     generalize wr.setCell ⟨mb,off2+m*3+2,none⟩ (.int .i64 (LL-1))=w6 at *
     clear z2 f2;have HPO:Hid (∀wx Z,zV w0 wx b sp L Z (zd 1 ra rc i2 (zr rd)::(D.A s'++R))→runM X m v=(Z,rd)→Xt w0 b sp L D s X R j m k' (.returned (.slice ra i2 rc)) wx):=Qq (fun wx Z hz e=>.inl ⟨v,s',ra,rc,HFIT.out.1,HFIT.out.2,by rw[e,HN.out],by rw[e];rw[HN.out] at hz;exact hz⟩)
     by_cases hkeep:kp=true∧0<LL-1
     ·obtain⟨hk1,hk2⟩:=hkeep
      subst hk1;have hres:=HMOD3.out;rw[if_pos ⟨rfl,hk2⟩] at hres
      have HRES:Hid (∀rr,rr=Ending.returned (.slice ra i2 rc)→Xt w0 b sp L D s X R j m k' rr w6):=Qq (fun rr e=>by rw[e];exact HPO.out _ _ H6.out.less hres)
      clear hres HPO HMOD3 H6;have hk3:LL-1>0:=hk2
      go_wp2;go_ret;exact HRES.out _ rfl
     ·have hres:=HMOD3.out
      rw[if_neg hkeep] at hres;have HRES:=Qq hres;clear hres HMOD3;obtain⟨e1,e2,e3,e4,e5,e6⟩:=HY.out;have hst:xp W1 (k':Int)=(W1.g k').st:=by
       unfold xp;rw[if_pos ⟨by omega,by have:=HST2.out;omega⟩,Int.toNat_natCast]
      have HSTA:=Qq (fun(wx:World) (hx:zV w0 wx b sp L (Y.zL m { Y.m m with L:=LL-1 }) (zf qb [.bool kp,.slice ra i2 rc]::zd 1 ra rc i2 (zr rd)::(D.A s'++R)))=>(by
       have:=TB hx (k':Int)
       rw[show(Y.zL m { Y.m m with L:=LL-1 }).W=W1 from e5,hst] at this
       exact this:Calls Tryz.prog 35 #[.pointer (some ⟨b,0,none⟩),.int .i64 (k':Int)] wx fun r w'=>r=.returned (.int .i64 (W1.g k').st)∧w'=wx))
      rw[e5] at HRES;generalize (W1.g k').st=sv at *
      have hcond:(kp=true∧LL-1>0)=False:=by simpa using hkeep
      clear e1 e2 e3 e4 e5 e6 hst;have HB0:=Qq b0;have HB1:=Qq b1;have hk0:kp=false∨(kp=true∧¬LL-1>0):=by
       cases kp with
       | false=>exact .inl rfl
       | true=>exact .inr ⟨rfl,fun hc=>hkeep ⟨rfl,hc⟩⟩
      clear hkeep hcond;rcases hk0 with rfl|⟨rfl,hk0⟩
      ·skip
       go_upto_region 11 with fail
       refine zi (fun wx=>∃nq,wx=World.drewN (w6) nq) 7 2 (Array.replicate 9 false) (Qj 9 127) (by kernel_rfl) (by kernel_rfl) ?_
       refine ze 0 7 _ (Qj 9 127) 0 (by kernel_rfl) za (zE w6) (by kernel_rfl) ?_
       simp only[QX,QV,QJ];(repeat((first|refine Qx (h:=?_)|refine Qw (h:=?_));simp only[Act.put,QW,QY,QZ]));refine zb ?_;refine zm ?_;refine zP 7 (by kernel_rfl) ?_
       simp only[QQ,QJ];go_wp2_with fail;refine(HSTA.out _ (H6.out.step (zv w6 _))).mono ?_
       rintro r w7 ⟨rfl,rfl⟩;by_cases hsv:sv=1
       ·have hsv2:(sv==1)=true:=by simpa using hsv
        rw[if_pos hsv] at HRES;have h7:=H6.out.step (zv w6 1)
        have y7:=zj y1 (zv w6 1)
        have HY1:Hid (∀wx Z,zV w0 wx b sp L (Y.zL m { Y.m m with L:=LL-1 }) Z→wx.cell? ⟨mb,off2+m*3+1,none⟩=some (.int .i64 (k':Int))):=Qq (fun wx Z hz=>by
         have h2:=(hz.xP HY.out.2.2.2.1 HMA.out).1.2.1
         rw[xh HY.out.2.2.1,if_pos rfl] at h2;simp only at h2
         rw[HY.out.2.1,HGI.out] at h2;exact h2)
        have H7:=Qq h7;clear hsv h7 HSTA H6 y1 y2 b0 b1 HB0 HB1 g1;go_wp2_with fail;refine NoPanic.normal ?_
        go_upto_region 12 with fail
        have h7:=H7.out;generalize w6.drewN 1=w7 at *;have h8:=h7.step (zg w7)
        refine zi (fun wx=>wx.cell? ⟨mb,off2+m*3+1,none⟩=some (.int .i64 (k':Int))) 9 0 (Array.replicate 9 false) (Qj 9 511) (by kernel_rfl) (by kernel_rfl) ?_
        refine ze 0 7 _ (Qj 9 127) 2 (by kernel_rfl) za (HY1.out _ _ h8) (by kernel_rfl) ?_
        simp only[QX,QV,QJ];(repeat((first|refine Qx (h:=?_)|refine Qv (h:=?_));simp only[Act.put,QW,QY,QZ]));refine zb ?_;have h9:=h8.box [.int .i64 (k':Int)] 3
        refine zB 7 _ (Qj 9 255) 1 (by kernel_rfl) (fun K hK=>?_)
        have HKK:=Qq hK;clear hK;simp only[QQ,QJ];refine zc (by rfl) ?_;go_simp;refine HKK.out _ _ (HY1.out _ _ h9) ?_
        clear HKK K;refine zB 8 _ (Qj 9 511) 0 (by kernel_rfl) (fun K hK=>?_)
        have HKK:=Qq hK;clear hK;simp only[QQ,QJ];refine zc (by rfl) ?_;go_simp;refine(XE h9 (some ⟨w7.drew.heap.size,0,none⟩) 1 1 [(k':Int)] rfl (zO.one w7.drew (k':Int) 3 rfl).ints (by have:=HY.out.2.2.2.2.2;show Y.gl.length+1≤_;omega)).mono ?_
        rintro r w10 ⟨rfl,h10⟩;have e10:w10.cell? ⟨mb,off2+m*3+1,none⟩=some (.int .i64 (k':Int)):=by
         have h2:w10.cell? ⟨mb,off2+m*3+1,none⟩=some (.int .i64 ((Y.zL m { Y.m m with L:=LL-1 }).m m).G):=(h10.xP (i:=m) HY.out.2.2.2.1 HMA.out).1.2.1
         rw[xh HY.out.2.2.1,if_pos rfl] at h2;simp only at h2
         rw[HY.out.2.1,HGI.out] at h2;exact h2
        refine HKK.out _ _ (e10) ?_
        clear HKK K;refine zm ?_;refine zD (by kernel_rfl) (NoPanic.normal ?_)
        have h11:=h10.ye (i:=m) HY.out.2.2.2.1 HMA.out (-1)
        obtain⟨⟨-,d1,-⟩,-,k1,-⟩:=h10.xP (i:=m) HY.out.2.2.2.1 HMA.out
        have e8:=(h11.less.zo 1 _ rfl).1
        have HF:Hid (∀rr,rr=Ending.returned (.slice ra i2 rc)→Xt w0 b sp L D s X R j m k' rr (w10.setCell ⟨mb,off2+m*3+1,none⟩ (.int .i64 (-1)))):=Qq (fun rr e=>by
         rw[e];refine HPO.out _ _ h11.less.less ?_
         rw[HRES.out];congr 1
         show _=({ (Y.zL m { Y.m m with L:=LL-1 }).zL m { (Y.zL m { Y.m m with L:=LL-1 }).m m with G:=-1 } with gl:=Y.gl++[(k':Int)] }:Sd)
         rw[xL,xh HY.out.2.2.1,if_pos rfl])
        clear h7 h8 h9 h10 h11 y7 HRES HPO e10 H7 HY1;go_upto_region 14 with fail
        clear d1 k1;generalize w10.setCell ⟨mb,off2+m*3+1,none⟩ (.int .i64 (-1))=w11 at *
        go_wp2;go_ret;exact HF.out _ rfl
       ·have hsv2:(sv==1)=false:=by simpa using hsv
        rw[if_neg hsv] at HRES;have h8:=(H6.out.step (zv w6 1)).ye HY.out.2.2.2.1 HMA.out (-1)
        obtain⟨⟨-,d1,-⟩,-,k1,-⟩:=(H6.out.step (zv w6 1)).xP HY.out.2.2.2.1 HMA.out
        have e8:=(h8.zo 1 _ rfl).1
        have HF:Hid (∀rr,rr=Ending.returned (.slice ra i2 rc)→Xt w0 b sp L D s X R j m k' rr ((w6.drewN 1).setCell ⟨mb,off2+m*3+1,none⟩ (.int .i64 (-1)))):=Qq (fun rr e=>by
         rw[e];refine HPO.out _ _ h8.less ?_
         rw[HRES.out];congr 1
         rw[xL,xh HY.out.2.2.1,if_pos rfl];rfl)
        clear hsv h8 HSTA H6 y1 y2 b0 b1 HB0 HB1 g1 HRES HPO;go_wp2_with fail;refine NoPanic.normal ?_
        go_upto_region 14 with fail
        clear d1 k1;generalize (w6.drewN 1).setCell ⟨mb,off2+m*3+1,none⟩ (.int .i64 (-1))=w9 at *
        go_wp2;go_ret;exact HF.out _ rfl
      ·skip
       go_upto_region 11 with fail
       refine zi (fun wx=>∃nq,wx=World.drewN (w6) nq) 7 2 (Array.replicate 9 false) (Qj 9 127) (by kernel_rfl) (by kernel_rfl) ?_
       refine ze 0 7 _ (Qj 9 127) 0 (by kernel_rfl) za (zE w6) (by kernel_rfl) ?_
       simp only[QX,QV,QJ];(repeat((first|refine Qx (h:=?_)|refine Qw (h:=?_));simp only[Act.put,QW,QY,QZ]));refine zb ?_;refine zm ?_;refine zP 7 (by kernel_rfl) ?_
       simp only[QQ,QJ];go_wp2_with fail;refine(HSTA.out _ (H6.out.step (zv w6 _))).mono ?_
       rintro r w7 ⟨rfl,rfl⟩;by_cases hsv:sv=1
       ·have hsv2:(sv==1)=true:=by simpa using hsv
        rw[if_pos hsv] at HRES;have h7:=H6.out.step (zv w6 1)
        have y7:=zj y1 (zv w6 1)
        have HY1:Hid (∀wx Z,zV w0 wx b sp L (Y.zL m { Y.m m with L:=LL-1 }) Z→wx.cell? ⟨mb,off2+m*3+1,none⟩=some (.int .i64 (k':Int))):=Qq (fun wx Z hz=>by
         have h2:=(hz.xP HY.out.2.2.2.1 HMA.out).1.2.1
         rw[xh HY.out.2.2.1,if_pos rfl] at h2;simp only at h2
         rw[HY.out.2.1,HGI.out] at h2;exact h2)
        have H7:=Qq h7;clear hsv h7 HSTA H6 y1 y2 b0 b1 HB0 HB1 g1;go_wp2_with fail;refine NoPanic.normal ?_
        go_upto_region 12 with fail
        have h7:=H7.out;generalize w6.drewN 1=w7 at *;have h8:=h7.step (zg w7)
        refine zi (fun wx=>wx.cell? ⟨mb,off2+m*3+1,none⟩=some (.int .i64 (k':Int))) 9 0 (Array.replicate 9 false) (Qj 9 511) (by kernel_rfl) (by kernel_rfl) ?_
        refine ze 0 7 _ (Qj 9 127) 2 (by kernel_rfl) za (HY1.out _ _ h8) (by kernel_rfl) ?_
        simp only[QX,QV,QJ];(repeat((first|refine Qx (h:=?_)|refine Qv (h:=?_));simp only[Act.put,QW,QY,QZ]));refine zb ?_;have h9:=h8.box [.int .i64 (k':Int)] 3
        refine zB 7 _ (Qj 9 255) 1 (by kernel_rfl) (fun K hK=>?_)
        have HKK:=Qq hK;clear hK;simp only[QQ,QJ];refine zc (by rfl) ?_;go_simp;refine HKK.out _ _ (HY1.out _ _ h9) ?_
        clear HKK K;refine zB 8 _ (Qj 9 511) 0 (by kernel_rfl) (fun K hK=>?_)
        have HKK:=Qq hK;clear hK;simp only[QQ,QJ];refine zc (by rfl) ?_;go_simp;refine(XE h9 (some ⟨w7.drew.heap.size,0,none⟩) 1 1 [(k':Int)] rfl (zO.one w7.drew (k':Int) 3 rfl).ints (by have:=HY.out.2.2.2.2.2;show Y.gl.length+1≤_;omega)).mono ?_
        rintro r w10 ⟨rfl,h10⟩;have e10:w10.cell? ⟨mb,off2+m*3+1,none⟩=some (.int .i64 (k':Int)):=by
         have h2:w10.cell? ⟨mb,off2+m*3+1,none⟩=some (.int .i64 ((Y.zL m { Y.m m with L:=LL-1 }).m m).G):=(h10.xP (i:=m) HY.out.2.2.2.1 HMA.out).1.2.1
         rw[xh HY.out.2.2.1,if_pos rfl] at h2;simp only at h2
         rw[HY.out.2.1,HGI.out] at h2;exact h2
        refine HKK.out _ _ (e10) ?_
        clear HKK K;refine zm ?_;refine zD (by kernel_rfl) (NoPanic.normal ?_)
        have h11:=h10.ye (i:=m) HY.out.2.2.2.1 HMA.out (-1)
        obtain⟨⟨-,d1,-⟩,-,k1,-⟩:=h10.xP (i:=m) HY.out.2.2.2.1 HMA.out
        have e8:=(h11.less.zo 1 _ rfl).1
        have HF:Hid (∀rr,rr=Ending.returned (.slice ra i2 rc)→Xt w0 b sp L D s X R j m k' rr (w10.setCell ⟨mb,off2+m*3+1,none⟩ (.int .i64 (-1)))):=Qq (fun rr e=>by
         rw[e];refine HPO.out _ _ h11.less.less ?_
         rw[HRES.out];congr 1
         show _=({ (Y.zL m { Y.m m with L:=LL-1 }).zL m { (Y.zL m { Y.m m with L:=LL-1 }).m m with G:=-1 } with gl:=Y.gl++[(k':Int)] }:Sd)
         rw[xL,xh HY.out.2.2.1,if_pos rfl])
        clear h7 h8 h9 h10 h11 y7 HRES HPO e10 H7 HY1;go_upto_region 14 with fail
        clear d1 k1;generalize w10.setCell ⟨mb,off2+m*3+1,none⟩ (.int .i64 (-1))=w11 at *
        go_wp2;go_ret;exact HF.out _ rfl
       ·have hsv2:(sv==1)=false:=by simpa using hsv
        rw[if_neg hsv] at HRES;have h8:=(H6.out.step (zv w6 1)).ye HY.out.2.2.2.1 HMA.out (-1)
        obtain⟨⟨-,d1,-⟩,-,k1,-⟩:=(H6.out.step (zv w6 1)).xP HY.out.2.2.2.1 HMA.out
        have e8:=(h8.zo 1 _ rfl).1
        have HF:Hid (∀rr,rr=Ending.returned (.slice ra i2 rc)→Xt w0 b sp L D s X R j m k' rr ((w6.drewN 1).setCell ⟨mb,off2+m*3+1,none⟩ (.int .i64 (-1)))):=Qq (fun rr e=>by
         rw[e];refine HPO.out _ _ h8.less ?_
         rw[HRES.out];congr 1
         rw[xL,xh HY.out.2.2.1,if_pos rfl];rfl)
        clear hsv h8 HSTA H6 y1 y2 b0 b1 HB0 HB1 g1 HRES HPO;go_wp2_with fail;refine NoPanic.normal ?_
        go_upto_region 14 with fail
        clear d1 k1;generalize (w6.drewN 1).setCell ⟨mb,off2+m*3+1,none⟩ (.int .i64 (-1))=w9 at *
        go_wp2;go_ret;exact HF.out _ rfl
  ·exact⟨rfl,Xt.Fy hak hdp hok' (zV.less (h3.perm List.perm_middle))⟩
end Go.Proofs.YtlkjheheofgdgaaGreat
open Go Go.RowKit
namespace Go.Proofs.YtlkjheheofgdgaaGreat
theorem JQ {w0 w:World}{b sp:Nat}{L:Sl}{X:Sd}{R:List zy}(h:zV w0 w b sp L X R){m:Nat}(hm:m<X.ms.length)(hn:X.ps.length≤1000)(hn2:X.ms.length≤1000) :
  Calls Tryz.prog 72 #[.pointer (some ⟨b,0,none⟩),.int .i64 (m:Int)] w fun r w'=>r=.returned (.int .i64 (holdM X m).2)∧zV w0 w' b sp L (holdM X m).1 R:=by
 obtain⟨C12,ZB⟩:=h.ZB;obtain⟨C13,x6⟩:=h.x6;have HP:=Qq (fun(i:Nat) (hi:i<X.ps.length)=>(by
  obtain⟨pb,off,p,g,k1,k2⟩:=h.pa hi;exact⟨pb,off,p,g,k1,k2,h.proc hi k1 k2⟩:∃pb off p g,L.pa=some ⟨pb,off,none⟩∧L.ld[i]?=some (p,g)∧(w.cell? ⟨pb,off+i*3,none⟩=some (.pointer (some ⟨p,0,none⟩))∧w.cell? ⟨pb,off+i*3+1,none⟩=some (.int .i64 ((X.p i).tu:Int))∧w.cell? ⟨pb,off+i*3+2,none⟩=some (.int .i64 (X.p i).by_)) ∧
  w.frozen? ⟨pb,off+i*3+1,none⟩=false∧w.frozen? ⟨pb,off+i*3+2,none⟩=false))
 obtain⟨mb,off2,hma⟩:=h.ma hm;rw[hma] at x6;have HMA:=Qq hma;have HE:=Qq (fun(i:Nat) (hi:i<X.ps.length) (hb:(X.p i).by_ = -1) (hall:∀j,j<i→(X.p j).by_ ≠ -1)=>(by
  unfold holdM;have e:X.ps.findIdx? (fun p=>p.by_ == -1)=some i:=by
   rw[List.findIdx?_eq_some_iff_getElem]
   have eg:∀j (hj:j<X.ps.length),X.ps[j]=X.p j:=fun j hj=>by
    have:=X.ZS hj;rw[List.getElem?_eq_getElem hj] at this;simpa using this
   exact⟨hi,by rw[eg i hi];simpa using hb,fun j hj=>by rw[eg j (by omega)];simpa using hall j hj⟩
  rw[e]:holdM X m=((X.zH i { X.p i with by_:=(m:Int) }).zL m { X.m m with P:=(i:Int) },2)))
 have HN:=Qq (fun(hall:∀j,j<X.ps.length→(X.p j).by_ ≠ -1)=>(by
  unfold holdM;have e:X.ps.findIdx? (fun p=>p.by_ == -1)=none:=by
   rw[List.findIdx?_eq_none_iff]
   intro P hP;obtain⟨j,hj,rfl⟩:=List.getElem_of_mem hP;have eg:=X.ZS hj;rw[List.getElem?_eq_getElem hj] at eg
   simp only[Option.some.injEq] at eg;rw[eg];simpa using hall j hj
  rw[e]:holdM X m=(X,3)))
 have H:=Qq h;generalize hrr:holdM X m=rr at *
 have HRR:=Qq hrr;have hmX:(m:Int)<(X.ms.length:Int):=by omega
 have hm0:(0:Int)≤(m:Int):=by omega
 have HMX:=Qq hm;obtain⟨N,hN⟩:∃N,N=X.ps.length:=⟨_,rfl⟩
 have HNN:=Qq hN;obtain⟨K,hK⟩:∃K,K=X.ms.length:=⟨_,rfl⟩
 rw[←hN] at HP HE HN ZB hn;rw[←hK] at x6 hmX hn2;have HKK:=Qq hK;clear h hma hrr hN hK hm;go_enter Tryz.func72,Tryz.ntmps72
 go_wp2_with fail;go_loopw [12] (fun iv wr=>∃i:Nat,i≤N∧iv=.int .i64 i∧wr=w∧Hid (∀j,j<i→(X.p j).by_ ≠ -1)) (fun iv _=>N-(intOf iv).toNat)
 case atStart=>exact⟨0,by omega,rfl,rfl,Qq (fun j hj=>by omega)⟩
 case round =>
  obtain⟨i,hi,rfl,rfl,hall⟩:=hrel;by_cases hlt:i<N
  ·have hlt2:(i:Int)<(N:Int):=by omega
   have hi0:(0:Int)≤(i:Int):=by omega
   obtain⟨pb,off,p,g,hpa,-,⟨x0,x1,x2⟩,y1,y2⟩:=HP.out i hlt;rw[hpa] at ZB;have HPA:=Qq hpa;clear hpa x0 x1 y1;by_cases hby:(X.p i).by_ = -1
   ·have o1:=H.out.Jj (by rw[←HNN.out];exact hlt) HPA.out (m:Int)
    obtain⟨⟨z0,z1,z2⟩,f0,f1,f2⟩:=o1.xP (i:=m) (by exact HMX.out) HMA.out
    have o2:=o1.zH (i:=m) (by exact HMX.out) HMA.out (i:Int)
    have hres:=HE.out i hlt hby hall.out;have HFIN:Hid (rr.2=2∧zV w0 ((wr.setCell ⟨pb,off+i*3+2,none⟩ (.int .i64 (m:Int))).setCell ⟨mb,off2+m*3,none⟩ (.int .i64 (i:Int))) b sp L rr.1 R):=Qq (by
     rw[hres];exact⟨rfl,o2⟩)
    rw[hby] at x2;clear o1 o2 hres z1 z2 f1 f2 hby;go_wp2;go_ret;exact⟨by rw[HFIN.out.1];rfl,HFIN.out.2⟩
   ·have hb2:((X.p i).by_ == -1)=false:=by simpa using hby
    have H2:Hid (∀j,j<i+1→(X.p j).by_ ≠ -1):=Qq (fun j hj=>by
     rcases Nat.lt_succ_iff_lt_or_eq.1 hj with h|h
     ·exact hall.out j h
     ·rw[h];exact hby)
    generalize (X.p i).by_=bv at *
    clear hby hall;go_wp2;exact⟨⟨i+1,by omega,by go_num,by trivial,H2⟩,by simp[intOf];omega⟩
  ·obtain rfl:i=N:=by omega
   have hres:=HN.out hall.out;have HFIN:Hid (rr.2=3∧zV w0 wr b sp L rr.1 R):=Qq (by rw[hres];exact⟨rfl,H.out⟩)
   clear hres;go_wp2;go_ret;exact⟨by rw[HFIN.out.1];rfl,HFIN.out.2⟩
def Lk (e:Ev)(ra:Option Addr)(rc:Nat):Value:=.agg #[.int .i64 e.kind,.int .i64 e.M,.int .i64 e.G,.slice ra e.rd.length rc]
def Sv:List Value:=[.int .i64 0,.int .i64 0,.int .i64 0,.slice none 0 0]
theorem Xd {w:World}{q:Nat}{a b c:Int}{ra:Option Addr}{n rc:Nat}(e0:w.cell? ⟨q,0,none⟩=some (.int .i64 a))(e1:w.cell? ⟨q,1,none⟩=some (.int .i64 b))(e2:w.cell? ⟨q,2,none⟩=some (.int .i64 c))(e3:w.cell? ⟨q,3,none⟩=some (.slice ra n rc)) :
  (loadVar 54 ⟨q,0,none⟩).run Tryz.prog w=.ok (.agg #[.int .i64 a,.int .i64 b,.int .i64 c,.slice ra n rc]) w:=by
 simp[go_sem,e0,e1,e2,e3]
theorem MD {w0 w:World}{b sp:Nat}{L:Sl}{X:Sd}{R:List zy}{B:Nat}(h:zV w0 w b sp L X R)(wf:yM B X)(hB:B≤80000) :
  Calls Tryz.prog 71 #[.pointer (some ⟨b,0,none⟩)] w fun r w'=>∃ra rc,r=.returned (Lk (zZ X X.ms.length 0).2 ra rc)∧zV w0 w' b sp L (zZ X X.ms.length 0).1 (zd 1 ra rc (zZ X X.ms.length 0).2.rd.length (zr (zZ X X.ms.length 0).2.rd)::R):=by
 have hpk:zZ X X.ms.length 0=((Xn X).1,⟨1,-1,-1,(Xn X).2⟩):=by unfold zZ;rw[if_pos rfl]
 rw[hpk];unfold Xn Lk;simp only
 have h1:=h.box Sv 54;have HT:=Qq (Gk h1 wf.wf hB)
 have hl:(yO X.W).2.length≤100:=by
  have tk:=PV wf.wf;have hw:=wf.wf.tick.1;refine Nat.le_trans (Yy _ _ tk.nd (fun x hx=>?_)) hw.g1.2
  obtain⟨q,e,-,hs⟩:=tk.st x hx;refine⟨by omega,?_⟩
  rcases Nat.lt_or_ge q (yO X.W).1.gs.length with h1|h1
  ·omega
  ·rw[Wk (by omega)] at hs;exact absurd hs (by decide)
 have hgl:=wf.gl;generalize htk:yO X.W=tk at *
 obtain⟨W1,rd⟩:=tk;simp only at HT hl ⊢
 obtain⟨N,hN⟩:∃N,N=rd.length:=⟨_,rfl⟩
 rw[←hN] at HT hl ⊢;have HN:=Qq hN;have HPUT:=Qq (fun(wx:World) (a:Option Addr) (c:Nat) (Z:List zy) (hx:zV w0 wx b sp L { X with W:=W1 } (zd 1 a c N (zr rd)::Z))=>(by
  obtain⟨S,k1,k2⟩:=hx.tail;have hr:=Own.yZ k1 0 rfl;exact XE hx a N c rd HN.out (zU.LV hr).1.ints (by rw[←HN.out];show X.gl.length+N≤_;omega):Calls Tryz.prog 39 #[.pointer (some ⟨b,14,none⟩),.slice a N c] wx fun r w'=>r=.returned (.tuple #[])∧zV w0 w' b sp L { X with W:=W1,gl:=X.gl++rd } (zd 1 a c N (zr rd)::Z)))
 have H1:=Qq h1;clear h h1 wf hl hgl htk hN hpk;unfold Sv at H1 HT;go_enter Tryz.func71,Tryz.ntmps71
 go_upto_region 1 with fail
 generalize w.alloc (.cells [.int .i64 0,.int .i64 0,.int .i64 0,.slice none 0 0].toArray 54)=w1 at *
 go_wp2_with fail;refine HT.out.mono ?_
 rintro r w2 ⟨ra,rc,rfl,h2⟩;have HP:=Qq (HPUT.out _ _ _ _ h2)
 clear h2 HPUT HT;go_wp2_with fail;refine HP.out.mono ?_
 rintro r w3 ⟨rfl,h3⟩;have h4:=h3.perm (List.Perm.swap _ _ _)
 generalize w.heap.size=q at *;obtain⟨x0,y0⟩:=h4.zo 0 _ rfl;obtain⟨x1,y1⟩:=h4.zo 1 _ rfl;obtain⟨x2,y2⟩:=h4.zo 2 _ rfl;obtain⟨x3,y3⟩:=h4.zo 3 _ rfl;have h5:=(((h4.zW 0 (.int .i64 1)).zW 1 (.int .i64 (-1))).zW 2 (.int .i64 (-1))).zW 3 (.slice ra N rc)
 obtain⟨u0,-⟩:=h5.zo 0 _ rfl;obtain⟨u1,-⟩:=h5.zo 1 _ rfl;obtain⟨u2,-⟩:=h5.zo 2 _ rfl;obtain⟨u3,-⟩:=h5.zo 3 _ rfl;have H5:=Qq h5.less;clear h3 h4 h5 H1 HP;have EG:=Xd u0 u1 u2 u3;go_wp2;exact bodyPost_ret (zu Tryz.results71 _ ⟨q,0,none⟩ rfl EG) rfl ⟨ra,rc,rfl,H5.out⟩
theorem Zs {α:Type _}{a b:α}{A R:List α}:List.Perm (a::b::(A++R)) (A++(a::b::R)):=(List.Perm.cons a List.perm_middle.symm).trans List.perm_middle.symm
theorem NO {α:Type _}{a b c r:α}{A R:List α}:List.Perm (r::(A++(a::b::c::R))) (a::b::c::r::(A++R)):=(List.Perm.cons r (List.perm_middle.trans (List.Perm.cons a (List.perm_middle.trans (List.Perm.cons b List.perm_middle))))).trans ((List.Perm.swap _ _ _).trans (List.Perm.cons a ((List.Perm.swap _ _ _).trans (List.Perm.cons b (List.Perm.swap _ _ _)))))
theorem X8 {α:Type _}{a b c:α}{A R:List α}:List.Perm (c::a::b::(A++R)) (A++(a::b::c::R)):=(List.Perm.cons c Zs).trans (List.perm_middle.symm.trans (List.Perm.append_left A (List.perm_middle (l₁:=[a,b]) (l₂:=R)).symm))
def Xc (w0:World)(b sp:Nat)(L:Sl)(D:UR sp)(s:D.T)(X:Sd)(R:List zy)(j m:Nat)(r:Ending)(w':World):Prop :=
 (∃v s' ra rc,Fit D s (Zd X m) v s'∧D.ok j s'∧r=.returned (Lk (zZ X m v).2 ra rc)∧zV w0 w' b sp L (zZ X m v).1 (zd 1 ra rc (zZ X m v).2.rd.length (zr (zZ X m v).2.rd)::(D.A s'++R))) ∨
 (∃ch s' kd n,r=.panicked ch∧Zd X m=some (kd,n)∧D.Dp s kd n r s'∧D.ok j s'∧zV w0 w' b sp L X (D.A s'++R))
theorem zV.T2 {w0 w:World}{b sp:Nat}{L:Sl}{X:Sd}{R:List zy}(h:zV w0 w b sp L X R):zV w0 w b sp L X (zd 1 none 0 0 []::R):=by
 obtain⟨S,h1,h2⟩:=h.tail;exact h2 _ _ (Own.VJ 1 h1)
theorem Pt {w0 w:World}{b sp:Nat}{L:Sl}{X:Sd}{R:List zy}{D:UR sp}{s:D.T}{j B:Nat}(h:zV w0 w b sp L X (D.A s++R))(hok:D.ok (j+1) s)(wf:yM B X)(hB:B≤80000) :
  Calls Tryz.prog 51 #[.pointer (some ⟨b,0,none⟩),.int .i64 (X.ms.length:Int)] w (Xc w0 b sp L D s X R j X.ms.length):=by
 have h1:=h.box Sv 54;have HT:=Qq (MD h1 wf hB)
 obtain⟨C13,x6⟩:=h1.x6;have ha:Zd X X.ms.length=none:=by unfold Zd;rw[if_pos rfl]
 have HEND:Hid (∀ra rc wx rr,rr=Ending.returned (Lk (zZ X X.ms.length 0).2 ra rc)→zV w0 wx b sp L (zZ X X.ms.length 0).1 (zd 1 ra rc (zZ X X.ms.length 0).2.rd.length (zr (zZ X X.ms.length 0).2.rd)::(D.A s++R))→Xc w0 b sp L D s X R j X.ms.length rr wx):=Qq (fun ra rc wx rr e hx=>.inl ⟨0,s,ra,rc,.inl ⟨ha,rfl,rfl⟩,D.less _ _ hok,e,hx⟩)
 generalize zZ X X.ms.length 0=pk at *;obtain⟨Y,k0,M0,G0,rd⟩:=pk;unfold Lk at HT HEND;simp only at HT HEND
 obtain⟨K,hK⟩:∃K,K=X.ms.length:=⟨_,rfl⟩
 rw[←hK] at x6 HEND ⊢;generalize rd.length=N at *;clear h h1 hok wf ha hK;unfold Sv at HT x6;go_enter Tryz.func51,Tryz.ntmps51
 go_upto_region 1 with fail
 generalize w.alloc (.cells [.int .i64 0,.int .i64 0,.int .i64 0,.slice none 0 0].toArray 54)=w1 at *
 go_wp2_with fail;refine HT.out.mono ?_
 rintro r w2 ⟨ra,rc,rfl,h2⟩;generalize w.heap.size=q at *;have h3:=h2.perm (List.Perm.swap _ _ _)
 obtain⟨x0,y0⟩:=h3.zo 0 _ rfl;obtain⟨x1,y1⟩:=h3.zo 1 _ rfl;obtain⟨x2,y2⟩:=h3.zo 2 _ rfl;obtain⟨x3,y3⟩:=h3.zo 3 _ rfl;have h5:=(((h3.zW 0 (.int .i64 k0)).zW 1 (.int .i64 M0)).zW 2 (.int .i64 G0)).zW 3 (.slice ra N rc)
 have EG:=Xd (h5.zo 0 _ rfl).1 (h5.zo 1 _ rfl).1 (h5.zo 2 _ rfl).1 (h5.zo 3 _ rfl).1
 have H5:=Qq h5.less;clear h2 h3 h5 HT;go_wp2;exact bodyPost_ret (zu Tryz.results51 _ ⟨q,0,none⟩ rfl EG) rfl (HEND.out ra rc _ _ rfl H5.out)
theorem Mn {w0 w:World}{b sp:Nat}{L:Sl}{X:Sd}{R:List zy}{D:UR sp}{s:D.T}{j B:Nat}(h:zV w0 w b sp L X (D.A s++R))(hok:D.ok (j+1) s)(wf:yM B X)(hB:B≤80000){m:Nat}(hm:m<X.ms.length)(hP:(X.m m).P = -1) :
  Calls Tryz.prog 51 #[.pointer (some ⟨b,0,none⟩),.int .i64 (m:Int)] w (Xc w0 b sp L D s X R j m):=by
 obtain⟨mb,off2,hma⟩:=h.ma hm;have hne:((m:Int)==(X.ms.length:Int))=false:=by rw[beq_eq_false_iff_ne];omega
 have hnp:=wf.np;have hnm:=wf.nm;have hmX:(m:Int)<(X.ms.length:Int):=by omega
 have hm0:(0:Int)≤(m:Int):=by omega
 have h1:=h.box Sv 54;obtain⟨C13,x6⟩:=h1.x6;rw[hma] at x6;obtain⟨K,hK⟩:∃K,K=X.ms.length:=⟨_,rfl⟩
 have HC13:=Qq (fun(wx:World) (Z:List zy) (hx:zV w0 wx b sp L X Z)=>(by
  obtain⟨C,hc⟩:=hx.x6;rw[hma,←hK] at hc;exact⟨C,hc⟩:∃C,wx.cell? ⟨b,13,none⟩=some (.slice (some ⟨mb,off2,none⟩) K C)))
 have HM:=Qq (fun(wx:World) (Z:List zy) (hx:zV w0 wx b sp L X Z)=>hx.xP hm hma)
 have H1:=Qq h1;rw[←hK] at x6 hne hmX;have ha:Zd X m=none:=by unfold Zd;rw[if_neg (by omega),if_pos hP]
 have hpk:∀v,zZ X m v=((holdM X m).1,⟨(holdM X m).2,(m:Int),-1,[]⟩):=fun v=>by unfold zZ;rw[if_neg (by omega),if_pos hP]
 have HH:=Qq (fun(wx:World) (Z:List zy) (hx:zV w0 wx b sp L X Z)=>JQ hx hm (by omega) (by omega))
 have HEND:Hid (∀wx rr,rr=Ending.returned (.agg #[.int .i64 (holdM X m).2,.int .i64 (m:Int),.int .i64 (-1),.slice none 0 0])→zV w0 wx b sp L (holdM X m).1 (D.A s++R)→Xc w0 b sp L D s X R j m rr wx):=Qq (fun wx rr e hx=>.inl ⟨0,s,none,0,.inl ⟨ha,rfl,rfl⟩,D.less _ _ hok,by rw[hpk,e];rfl,by rw[hpk];exact hx.T2⟩)
 generalize holdM X m=hd at *;obtain⟨Y,kd⟩:=hd;simp only at HH HEND
 rw[hP] at HM;obtain⟨mP,hmP⟩:∃mP:Int,mP = -1:=⟨_,rfl⟩
 generalize (X.m m).G=mG at *
 generalize (X.m m).L=mL at *
 rw[←hmP] at HM;have HmP:=Qq hmP;clear h h1 hok wf hnp hnm hma ha hpk hm hP hK hmP;unfold Sv at H1 x6;go_enter Tryz.func51,Tryz.ntmps51
 go_upto_region 1 with fail
 generalize w.alloc (.cells [.int .i64 0,.int .i64 0,.int .i64 0,.slice none 0 0].toArray 54)=w1 at *
 generalize w.heap.size=q at *;go_upto_region 4 with fail
 have H2:=Qq (H1.out.box [.int .i64 0,.int .i64 (m:Int),.int .i64 (-1),.slice none 0 0] 54)
 clear H1 x6;generalize w1.alloc (.cells #[.int .i64 0,.int .i64 (m:Int),.int .i64 (-1),.slice none 0 0] 54)=w2 at *
 generalize w1.heap.size=q5 at *;obtain⟨C2,d13⟩:=HC13.out _ _ H2.out;obtain⟨⟨z0,z1,z2⟩,-⟩:=HM.out _ _ H2.out;have H3:=Qq (H2.out.box [.int .i64 mP,.int .i64 mG,.int .i64 mL] 106)
 clear H2;go_upto_region 6 with fail
 clear z0 z1 z2 d13;generalize w2.alloc (.cells #[.int .i64 mP,.int .i64 mG,.int .i64 mL] 106)=w3 at *
 generalize w2.heap.size=q6 at *;have x0:=(H3.out.zo 0 _ rfl).1
 have x1:=(H3.out.zo 1 _ rfl).1
 obtain rfl:=HmP.out
 go_wp2_with fail;refine(HH.out _ _ H3.out).mono ?_
 rintro r w4 ⟨rfl,h4⟩;have h5:=h4.less;obtain⟨y0,v0⟩:=h5.zo 0 _ rfl;obtain⟨y1,v1⟩:=h5.zo 1 _ rfl;obtain⟨y2,v2⟩:=h5.zo 2 _ rfl;obtain⟨y3,v3⟩:=h5.zo 3 _ rfl;have h6:=h5.zW 0 (.int .i64 kd)
 obtain⟨u0,-⟩:=h6.zo 0 _ rfl;obtain⟨u1,-⟩:=h6.zo 1 _ rfl;obtain⟨u2,-⟩:=h6.zo 2 _ rfl;obtain⟨u3,-⟩:=h6.zo 3 _ rfl;clear h4 h5 H3 HH HM HC13 x0 x1;go_upto_region 10 with fail
 clear y0 y1 y2 y3 v0 v1 v2 v3;generalize w4.setCell ⟨q5,0,none⟩ (.int .i64 kd)=w5 at *
 have h7:=h6.perm (List.Perm.swap _ _ _)
 obtain⟨p0,r0⟩:=h7.zo 0 _ rfl;obtain⟨p1,r1⟩:=h7.zo 1 _ rfl;obtain⟨p2,r2⟩:=h7.zo 2 _ rfl;obtain⟨p3,r3⟩:=h7.zo 3 _ rfl;have h8:=(((h7.zW 0 (.int .i64 kd)).zW 1 (.int .i64 (m:Int))).zW 2 (.int .i64 (-1))).zW 3 (.slice none 0 0)
 have EG:=Xd (h8.zo 0 _ rfl).1 (h8.zo 1 _ rfl).1 (h8.zo 2 _ rfl).1 (h8.zo 3 _ rfl).1
 have H8:=Qq h8.less.less;clear h6 h7 h8;go_wp2;exact bodyPost_ret (zu Tryz.results51 _ ⟨q,0,none⟩ rfl EG) rfl (HEND.out _ _ rfl H8.out)
theorem Mz {w0 w:World}{b sp:Nat}{L:Sl}{X:Sd}{R:List zy}{D:UR sp}{s:D.T}{j B:Nat}(h:zV w0 w b sp L X (D.A s++R))(hok:D.ok (j+1) s)(wf:yM B X)(hB:B≤80000){m:Nat}(hm:m<X.ms.length)(hP:(X.m m).P ≠ -1)(hG:(X.m m).G = -1) :
  Calls Tryz.prog 51 #[.pointer (some ⟨b,0,none⟩),.int .i64 (m:Int)] w (Xc w0 b sp L D s X R j m):=by
 obtain⟨mb,off2,hma⟩:=h.ma hm;have hne:((m:Int)==(X.ms.length:Int))=false:=by rw[beq_eq_false_iff_ne];omega
 have hnp:=wf.np;have hnm:=wf.nm;have hmX:(m:Int)<(X.ms.length:Int):=by omega
 have hm0:(0:Int)≤(m:Int):=by omega
 have h1:=h.box Sv 54;obtain⟨C13,x6⟩:=h1.x6;rw[hma] at x6;obtain⟨K,hK⟩:∃K,K=X.ms.length:=⟨_,rfl⟩
 have HC13:=Qq (fun(wx:World) (Z:List zy) (hx:zV w0 wx b sp L X Z)=>(by
  obtain⟨C,hc⟩:=hx.x6;rw[hma,←hK] at hc;exact⟨C,hc⟩:∃C,wx.cell? ⟨b,13,none⟩=some (.slice (some ⟨mb,off2,none⟩) K C)))
 have HM:=Qq (fun(wx:World) (Z:List zy) (hx:zV w0 wx b sp L X Z)=>hx.xP hm hma)
 have H1:=Qq h1;rw[←hK] at x6 hne hmX;have ha:Zd X m=Ue X m:=by unfold Zd Ue;rw[if_neg (by omega),if_neg hP,if_pos hG]
 have hpk:∀v,zZ X m v=((yG X m v.toNat).1,⟨(yG X m v.toNat).2.1,(m:Int),(yG X m v.toNat).2.2,[]⟩):=fun v=>by unfold zZ;rw[if_neg (by omega),if_neg hP,if_pos hG]
 have HH:=Qq (fun(wx:World) (Z:List zy) (hx:zV w0 wx b sp L X (D.A s++Z))=>Lq hx hok wf hB hm hP hG)
 have HEND:Hid (∀v s' wx rr,Fit D s (Ue X m) v s'→D.ok j s'→rr=Ending.returned (.agg #[.int .i64 (yG X m v.toNat).2.1,.int .i64 (m:Int),.int .i64 (yG X m v.toNat).2.2,.slice none 0 0])→zV w0 wx b sp L (yG X m v.toNat).1 (D.A s'++R)→Xc w0 b sp L D s X R j m rr wx):=Qq (fun v s' wx rr hf ho e hx=>.inl ⟨v,s',none,0,by rw[ha];exact hf,ho,by rw[hpk,e];rfl,by rw[hpk];exact hx.T2⟩)
 have HDRY:Hid (∀ch s' kd n wx,Ue X m=some (kd,n)→D.Dp s kd n (.panicked ch) s'→D.ok j s'→zV w0 wx b sp L X (D.A s'++R)→Xc w0 b sp L D s X R j m (.panicked ch) wx):=Qq (fun ch s' kd n wx e h1 h2 h3=>.inr ⟨ch,s',kd,n,rfl,by rw[ha];exact e,h1,h2,h3⟩)
 have hPb:((X.m m).P == -1)=false:=by simpa using hP
 rw[hG] at HM;obtain⟨mG,hmG⟩:∃mG:Int,mG = -1:=⟨_,rfl⟩
 generalize (X.m m).P=mP at *
 generalize (X.m m).L=mL at *
 rw[←hmG] at HM;have HmG:=Qq hmG;clear h h1 hok wf hnp hnm hma ha hpk hm hP hG hK hmG;unfold Sv at H1 x6;go_enter Tryz.func51,Tryz.ntmps51
 go_upto_region 1 with fail
 generalize w.alloc (.cells [.int .i64 0,.int .i64 0,.int .i64 0,.slice none 0 0].toArray 54)=w1 at *
 generalize w.heap.size=q at *;go_upto_region 4 with fail
 have H2:=Qq (H1.out.box [.int .i64 0,.int .i64 (m:Int),.int .i64 (-1),.slice none 0 0] 54)
 clear H1 x6;generalize w1.alloc (.cells #[.int .i64 0,.int .i64 (m:Int),.int .i64 (-1),.slice none 0 0] 54)=w2 at *
 generalize w1.heap.size=q5 at *;obtain⟨C2,d13⟩:=HC13.out _ _ H2.out;obtain⟨⟨z0,z1,z2⟩,-⟩:=HM.out _ _ H2.out;have H3:=Qq (H2.out.box [.int .i64 mP,.int .i64 mG,.int .i64 mL] 106)
 clear H2;go_upto_region 6 with fail
 clear z0 z1 z2 d13;generalize w2.alloc (.cells #[.int .i64 mP,.int .i64 mG,.int .i64 mL] 106)=w3 at *
 generalize w2.heap.size=q6 at *;have x0:=(H3.out.zo 0 _ rfl).1
 have x1:=(H3.out.zo 1 _ rfl).1
 obtain rfl:=HmG.out
 have H3b:Hid (zV w0 w3 b sp L X (D.A s++(zf q5 [.int .i64 0,.int .i64 (m:Int),.int .i64 (-1),.slice none 0 0]::zf q [.int .i64 0,.int .i64 0,.int .i64 0,.slice none 0 0]::R))):=Qq (H3.out.less.perm Zs)
 go_wp2_with fail;refine(HH.out _ _ H3b.out).mono ?_
 intro r w4 hp;clear H3 H3b HH HM HC13 x0 x1;rcases hp with⟨v,s',hf,ho,rfl,h4⟩|⟨ch,s',kd,n,rfl,hk,hdp,ho,h4⟩
 ·have HF:=Qq (And.intro hf ho)
  unfold x5 at h4 ⊢
  simp only at h4 ⊢
  have HE2:=Qq (HEND.out v s')
  clear hf ho HEND HDRY;generalize yG X m v.toNat=lk at *;obtain⟨Y,kd,gg⟩:=lk;simp only at h4 HE2 ⊢
  have h5:=h4.perm Zs.symm;obtain⟨y0,v0⟩:=h5.zo 0 _ rfl;obtain⟨y1,v1⟩:=h5.zo 1 _ rfl;obtain⟨y2,v2⟩:=h5.zo 2 _ rfl;obtain⟨y3,v3⟩:=h5.zo 3 _ rfl;have h6:=(h5.zW 0 (.int .i64 kd)).zW 2 (.int .i64 gg)
  obtain⟨u0,-⟩:=h6.zo 0 _ rfl;obtain⟨u1,-⟩:=h6.zo 1 _ rfl;obtain⟨u2,-⟩:=h6.zo 2 _ rfl;obtain⟨u3,-⟩:=h6.zo 3 _ rfl;clear h4 h5;go_upto_region 10 with fail
  clear y0 y1 y2 y3 v0 v1 v2 v3;generalize (w4.setCell ⟨q5,0,none⟩ (.int .i64 kd)).setCell ⟨q5,2,none⟩ (.int .i64 gg)=w5 at *
  have h7:=h6.perm (List.Perm.swap _ _ _)
  obtain⟨p0,r0⟩:=h7.zo 0 _ rfl;obtain⟨p1,r1⟩:=h7.zo 1 _ rfl;obtain⟨p2,r2⟩:=h7.zo 2 _ rfl;obtain⟨p3,r3⟩:=h7.zo 3 _ rfl;have h8:=(((h7.zW 0 (.int .i64 kd)).zW 1 (.int .i64 (m:Int))).zW 2 (.int .i64 gg)).zW 3 (.slice none 0 0)
  have EG:=Xd (h8.zo 0 _ rfl).1 (h8.zo 1 _ rfl).1 (h8.zo 2 _ rfl).1 (h8.zo 3 _ rfl).1
  have H8:=Qq h8.less.less;clear h6 h7 h8;go_wp2;exact bodyPost_ret (zu Tryz.results51 _ ⟨q,0,none⟩ rfl EG) rfl (HE2.out _ _ HF.out.1 HF.out.2 rfl H8.out)
 ·exact⟨rfl,HDRY.out ch s' kd n _ hk hdp ho (zV.less (zV.less (h4.perm Zs.symm)))⟩
theorem JS {w0 w:World}{b sp:Nat}{L:Sl}{X:Sd}{R:List zy}{D:UR sp}{s:D.T}{j B:Nat}(h:zV w0 w b sp L X (D.A s++R))(hok:D.ok (j+1) s)(wf:yM B X)(hB:B≤80000){m:Nat}(hm:m<X.ms.length)(hP:(X.m m).P ≠ -1)(hG:(X.m m).G ≠ -1)(hen:X.W.en=0) :
  Calls Tryz.prog 51 #[.pointer (some ⟨b,0,none⟩),.int .i64 (m:Int)] w (Xc w0 b sp L D s X R j m):=by
 obtain⟨mb,off2,hma⟩:=h.ma hm;have hne:((m:Int)==(X.ms.length:Int))=false:=by rw[beq_eq_false_iff_ne];omega
 have hnp:=wf.np;have hnm:=wf.nm;have hmX:(m:Int)<(X.ms.length:Int):=by omega
 have hm0:(0:Int)≤(m:Int):=by omega
 have h1:=h.box Sv 54;obtain⟨C13,x6⟩:=h1.x6;rw[hma] at x6;obtain⟨K,hK⟩:∃K,K=X.ms.length:=⟨_,rfl⟩
 have HC13:=Qq (fun(wx:World) (Z:List zy) (hx:zV w0 wx b sp L X Z)=>(by
  obtain⟨C,hc⟩:=hx.x6;rw[hma,←hK] at hc;exact⟨C,hc⟩:∃C,wx.cell? ⟨b,13,none⟩=some (.slice (some ⟨mb,off2,none⟩) K C)))
 have HM:=Qq (fun(wx:World) (Z:List zy) (hx:zV w0 wx b sp L X Z)=>hx.xP hm hma)
 have H1:=Qq h1;rw[←hK] at x6 hne hmX;obtain⟨k,hk,-,-⟩:=wf.lets hm hG;have ha:Zd X m=Yb X.W k:=by
  unfold Zd Yb Sd.ins;rw[if_neg (by omega),if_neg hP,if_neg hG,hk,Int.toNat_natCast]
 have hpk:∀v,zZ X m v=((runM X m v).1,⟨7,(m:Int),(k:Int),(runM X m v).2⟩):=fun v=>by unfold zZ;rw[if_neg (by omega),if_neg hP,if_neg hG,hk]
 have HH:=Qq (fun(wx:World) (Z:List zy) (hx:zV w0 wx b sp L X (D.A s++Z))=>Gl hx hok wf hB hm hP hG hen hk)
 have HEND:Hid (∀v s' ra rc wx rr,Fit D s (Yb X.W k) v s'→D.ok j s'→rr=Ending.returned (.agg #[.int .i64 7,.int .i64 (m:Int),.int .i64 (k:Int),.slice ra (runM X m v).2.length rc])→zV w0 wx b sp L (runM X m v).1 (zd 1 ra rc (runM X m v).2.length (zr (runM X m v).2)::(D.A s'++R))→Xc w0 b sp L D s X R j m rr wx):=Qq (fun v s' ra rc wx rr hf ho e hx=>.inl ⟨v,s',ra,rc,by rw[ha];exact hf,ho,by rw[hpk,e];rfl,by rw[hpk];exact hx⟩)
 have HDRY:Hid (∀ch s' kd n wx,Yb X.W k=some (kd,n)→D.Dp s kd n (.panicked ch) s'→D.ok j s'→zV w0 wx b sp L X (D.A s'++R)→Xc w0 b sp L D s X R j m (.panicked ch) wx):=Qq (fun ch s' kd n wx e h1 h2 h3=>.inr ⟨ch,s',kd,n,rfl,by rw[ha];exact e,h1,h2,h3⟩)
 have hPb:((X.m m).P == -1)=false:=by simpa using hP
 have hGb:((k:Int) == -1)=false:=by rw[beq_eq_false_iff_ne];omega
 rw[hk] at HM;obtain⟨mG,hmG⟩:∃mG:Int,mG=(k:Int):=⟨_,rfl⟩
 generalize (X.m m).P=mP at *
 generalize (X.m m).L=mL at *
 rw[←hmG] at HM hGb;have HmG:=Qq hmG;clear h h1 hok wf hnp hnm hma ha hpk hm hP hG hK hmG hen hk;unfold Sv at H1 x6;go_enter Tryz.func51,Tryz.ntmps51
 go_upto_region 1 with fail
 generalize w.alloc (.cells [.int .i64 0,.int .i64 0,.int .i64 0,.slice none 0 0].toArray 54)=w1 at *
 generalize w.heap.size=q at *;go_upto_region 4 with fail
 have H2:=Qq (H1.out.box [.int .i64 0,.int .i64 (m:Int),.int .i64 (-1),.slice none 0 0] 54)
 clear H1 x6;generalize w1.alloc (.cells #[.int .i64 0,.int .i64 (m:Int),.int .i64 (-1),.slice none 0 0] 54)=w2 at *
 generalize w1.heap.size=q5 at *;obtain⟨C2,d13⟩:=HC13.out _ _ H2.out;obtain⟨⟨z0,z1,z2⟩,-⟩:=HM.out _ _ H2.out;have H3:=Qq (H2.out.box [.int .i64 mP,.int .i64 mG,.int .i64 mL] 106)
 clear H2;go_upto_region 6 with fail
 clear z0 z1 z2 d13;generalize w2.alloc (.cells #[.int .i64 mP,.int .i64 mG,.int .i64 mL] 106)=w3 at *
 generalize w2.heap.size=q6 at *;have x0:=(H3.out.zo 0 _ rfl).1
 have x1:=(H3.out.zo 1 _ rfl).1
 have H3b:Hid (zV w0 w3 b sp L X (D.A s++(zf q5 [.int .i64 0,.int .i64 (m:Int),.int .i64 (-1),.slice none 0 0]::zf q [.int .i64 0,.int .i64 0,.int .i64 0,.slice none 0 0]::zf q6 [.int .i64 mP,.int .i64 mG,.int .i64 mL]::R))):=Qq (H3.out.perm X8)
 have HS:Hid (∀wx Y A,zV w0 wx b sp L Y (A++(zf q5 [.int .i64 0,.int .i64 (m:Int),.int .i64 (-1),.slice none 0 0]::zf q [.int .i64 0,.int .i64 0,.int .i64 0,.slice none 0 0]::zf q6 [.int .i64 mP,.int .i64 mG,.int .i64 mL]::R))→wx.cell? ⟨q6,1,none⟩=some (.int .i64 mG)):=Qq (fun wx Y A hx=>((hx.perm X8.symm).zo 1 _ rfl).1)
 go_upto_region 5 with fail
 have x1:=HS.out _ _ _ H3b.out;clear H3 HM HC13 x0;refine xT (fun wx=>wx.cell? ⟨q6,1,none⟩=some (.int .i64 mG)) 11 (Array.replicate 11 false) (by kernel_rfl) (by kernel_rfl) ?_
 have h4:=H3b.out.step (zg w3)
 generalize w3.drew=w4 at *;refine zq 0 4 _ (Qj 11 15) 7 (by kernel_rfl) (fun d _ _ _ _=>by cases d<;>exact fun h=>h) (HS.out _ _ _ h4) (by kernel_rfl) ?_
 simp only[QX,QV,QJ];(repeat((first|refine Qx (h:=?_)|refine Qv (h:=?_));simp only[Act.put,QW,QY,QZ]));refine zb ?_;refine zq 5 1 _ (Qj 11 47) 6 (by kernel_rfl) (fun d _ _ _ _=>by cases d<;>exact fun h=>h) (HS.out _ _ _ h4) (by kernel_rfl) ?_
 simp only[QX,QV,QQ,QJ];(repeat((first|refine Qx (h:=?_)|refine Qv (h:=?_));simp only[Act.put,QW,QY,QZ]));refine zb ?_;refine zn 4 _ (Qj 11 63) 5 (by kernel_rfl) (fun K hK=>?_)
 have HKK:=Qq hK;clear hK;simp only[QQ,QJ];refine zc (by rfl) ?_;go_simp;refine(HH.out _ _ h4).mono ?_
 intro r w5 hp;rcases hp with⟨v,s',ra,rc,hf,ho,rfl,h5⟩|⟨ch,s',kd,n,rfl,hkk,hdp,ho,h5⟩
 ·have HF:=Qq (And.intro hf ho)
  have HE2:=Qq (HEND.out v s')
  clear hf ho HEND HDRY HH H3b x1 h4;generalize runM X m v=lk at *;obtain⟨Y,rd⟩:=lk;simp only at h5 HE2 ⊢
  have HX:=Qq (HE2.out ra rc)
  clear HE2;generalize rd.length=N at *;have h6:zV w0 w5 b sp L Y (zf q5 [.int .i64 0,.int .i64 (m:Int),.int .i64 (-1),.slice none 0 0]::zf q [.int .i64 0,.int .i64 0,.int .i64 0,.slice none 0 0]::zf q6 [.int .i64 mP,.int .i64 mG,.int .i64 mL]::zd 1 ra rc N (zr rd)::(D.A s'++R)):=h5.perm NO
  have HS5:Hid (∀wx c0 c2 c3 Z,zV w0 wx b sp L Y (zf q5 [c0,.int .i64 (m:Int),c2,c3]::zf q [.int .i64 0,.int .i64 0,.int .i64 0,.slice none 0 0]::zf q6 [.int .i64 mP,.int .i64 mG,.int .i64 mL]::Z)→wx.cell? ⟨q6,1,none⟩=some (.int .i64 mG)):=Qq (fun wx c0 c2 c3 Z hx=>(hx.less.less.zo 1 _ rfl).1)
  refine HKK.out _ _ (HS5.out _ _ _ _ _ h6) ?_
  clear HKK K;obtain⟨y0,v0⟩:=h6.zo 0 _ rfl;have h7:=h6.zW 0 (.int .i64 7)
  refine zn 6 _ (Qj 11 127) 4 (by kernel_rfl) (fun K hK=>?_)
  have HKK:=Qq hK;clear hK;simp only[QQ,QJ];refine zc (by rfl) ?_;go_simp;refine HKK.out _ _ (HS5.out _ _ _ _ _ h7) ?_
  clear HKK K;refine zq 7 1 _ (Qj 11 255) 3 (by kernel_rfl) (fun d _ _ _ _=>by cases d<;>exact fun h=>h) (HS5.out _ _ _ _ _ h7) (by kernel_rfl) ?_
  simp only[QX,QV,QQ,QJ];(repeat((first|refine Qx (h:=?_)|refine Qv (h:=?_));simp only[Act.put,QW,QY,QZ]));refine zb ?_;generalize w5.setCell ⟨q5,0,none⟩ (.int .i64 7)=w6 at *
  clear y0 v0;obtain⟨y2,v2⟩:=h7.zo 2 _ rfl;have h8:=h7.zW 2 (.int .i64 mG)
  refine zn 8 _ (Qj 11 511) 2 (by kernel_rfl) (fun K hK=>?_)
  have HKK:=Qq hK;clear hK;simp only[QQ,QJ];refine zc (by rfl) ?_;go_simp;refine HKK.out _ _ (HS5.out _ _ _ _ _ h8) ?_
  clear HKK K;refine zq 9 1 _ (Qj 11 1023) 1 (by kernel_rfl) (fun d _ _ _ _=>by cases d<;>exact fun h=>h) (HS5.out _ _ _ _ _ h8) (by kernel_rfl) ?_
  simp only[QX,QV,QQ,QJ];(repeat((first|refine Qx (h:=?_)|refine Qv (h:=?_));simp only[Act.put,QW,QY,QZ]));refine zb ?_;generalize w6.setCell ⟨q5,2,none⟩ (.int .i64 mG)=w7 at *
  clear y2 v2;obtain⟨y3,v3⟩:=h8.zo 3 _ rfl;have h9:=h8.zW 3 (.slice ra N rc)
  refine zn 10 _ (Qj 11 2047) 0 (by kernel_rfl) (fun K hK=>?_)
  have HKK:=Qq hK;clear hK;simp only[QQ,QJ];refine zc (by rfl) ?_;go_simp;refine HKK.out _ _ (HS5.out _ _ _ _ _ h9) ?_
  clear HKK K;refine wpAnyH_done (by kernel_rfl) (?_) _
  generalize w7.setCell ⟨q5,3,none⟩ (.slice ra N rc)=w8 at *
  clear y3 v3 h5 h6 h7 h8 HS HS5;obtain⟨u0,-⟩:=h9.zo 0 _ rfl;obtain⟨u1,-⟩:=h9.zo 1 _ rfl;obtain⟨u2,-⟩:=h9.zo 2 _ rfl;obtain⟨u3,-⟩:=h9.zo 3 _ rfl;have ha:=h9.perm (List.Perm.swap _ _ _)
  obtain⟨p0,r0⟩:=ha.zo 0 _ rfl;obtain⟨p1,r1⟩:=ha.zo 1 _ rfl;obtain⟨p2,r2⟩:=ha.zo 2 _ rfl;obtain⟨p3,r3⟩:=ha.zo 3 _ rfl;have h8:=(((ha.zW 0 (.int .i64 7)).zW 1 (.int .i64 (m:Int))).zW 2 (.int .i64 mG)).zW 3 (.slice ra N rc)
  have EG:=Xd (h8.zo 0 _ rfl).1 (h8.zo 1 _ rfl).1 (h8.zo 2 _ rfl).1 (h8.zo 3 _ rfl).1
  have H8:=Qq h8.less.less.less;clear ha h8 h9;go_wp2;exact bodyPost_ret (zu Tryz.results51 _ ⟨q,0,none⟩ rfl EG) rfl (HX.out _ _ HF.out.1 HF.out.2 (by rw[HmG.out]) H8.out)
 ·exact⟨rfl,HDRY.out ch s' kd n _ hkk hdp ho (zV.less (zV.less (zV.less (h5.perm X8.symm))))⟩
def Vu (e:Int):Prop:=e=0∨e=1∨e=2
theorem R5 (W:Wd)(x:zS)(w:Wt)(s:Bool):(W.fin x w s).en=W.en:=by
 unfold Wd.fin;simp only
 split<;>split<;>(try split)<;>rfl
theorem Sr (W:Wd)(rd:List Int)(w:Wt)(s:Bool):(goOnM W rd w s).1.en=W.en:=by
 unfold goOnM;simp only
 split
 ·split
  ·exact R5 W _ w s
  ·rfl
 ·rfl
theorem RX:∀(l:List Wt) (W:Wd) (rd:List Int),(goOnsM W rd l).1.en=W.en
 | [],W,rd=>rfl
 | r::t,W,rd=>by
  show(goOnsM (goOnM W rd r false).1 (goOnM W rd r false).2 t).1.en=W.en
  rw[RX t,Sr]
theorem Ib {W:Wd}{rd:List Int}{g:Nat}{x:zS}{c:Zc}{place:Int}{d:Dd}(hd:x9 W rd g x c place=some d):d.W.en=W.en:=by
 unfold x9 at hd;simp only at hd
 split at hd
 ·cases hd;rfl
 ·split at hd
  ·cases hd
   simp only
   rw[R5];split
   ·rw[Sr];rfl
   ·rfl
  ·cases hd
theorem GB {W:Wd}{rd:List Int}{g:Nat}{x:zS}{c:Zc}{place:Int}{d:Dd}(hd:xU W rd g x c place=some d):d.W.en=W.en:=by
 unfold xU at hd;simp only at hd
 split at hd
 ·cases hd
  simp only
  rw[R5];split
  ·rw[Sr];rfl
  ·rfl
 ·cases hd
theorem Jb {W:Wd}{rd:List Int}{g:Nat}{x:zS}{place:Int}{d:Dd}(hd:Zw W rd g x place=some d):d.W.en=W.en:=by
 unfold Zw at hd;simp only at hd
 split at hd
 ·exact Ib hd
 ·exact GB hd
theorem PS (W:Wd)(rd:List Int)(g:Nat)(x:zS):(xW W rd g x).W.en=W.en:=by
 unfold xW;cases e:Zw W rd g x 0 with
 | none=>rfl
 | some d=>exact Jb e
theorem Mu (W:Wd)(rd:List Int)(g:Nat)(x:zS)(dr:Int)(go:Bool):(Zv W rd g x dr go).W.en=W.en:=by
 unfold Zv;split
 ·cases e:Zw W rd g x dr with
  | none=>rfl
  | some d=>exact Jb e
 ·split<;>rfl
theorem LP (W:Wd)(rd:List Int)(x:zS):(xN W rd x).W.en=W.en:=by
 unfold xN;simp only
 split
 ·rfl
 ·split
  ·exact RX _ _ _
  ·rfl
theorem Gm (W:Wd)(g:Nat)(x:zS)(dr:Int)(go:Bool):(zT W g x dr go).W.en=W.en∨(zT W g x dr go).W.en=1:=by
 unfold zT;by_cases e:x.1=9
 ·rw[if_pos e];refine .inl ?_;unfold ZD;simp only;split<;>rfl
 rw[if_neg e];clear e
 by_cases e:x.1=10
 ·rw[if_pos e];unfold Y6;simp only;split
  ·simp only;split
   ·exact .inr rfl
   ·exact .inl rfl
  ·exact .inl rfl
 rw[if_neg e];clear e
 refine .inl ?_
 by_cases e:x.1=11
 ·rw[if_pos e];unfold ZK;split<;>rfl
 rw[if_neg e];clear e
 by_cases e:x.1=12
 ·rw[if_pos e]
 rw[if_neg e];clear e
 by_cases e:x.1=13
 ·rw[if_pos e];exact PS _ _ _ _
 rw[if_neg e];clear e
 by_cases e:x.1=14
 ·rw[if_pos e];exact PS _ _ _ _
 rw[if_neg e];clear e
 by_cases e:x.1=15
 ·rw[if_pos e];exact LP _ _ _
 rw[if_neg e];clear e
 by_cases e:x.1=16
 ·rw[if_pos e];exact Mu _ _ _ _ _ _
 rw[if_neg e];clear e
 by_cases e:x.1=17
 ·rw[if_pos e];unfold Yh;simp only;generalize (if 1048576<(W.g g).rg x.2.1 then(1048576:Int) else(W.g g).rg x.2.1)=t;split<;>rfl
 rw[if_neg e];clear e
 by_cases e:x.1=18
 ·rw[if_pos e];unfold ZR;simp only;split<;>rfl
 rw[if_neg e];clear e
 by_cases e:x.1=19
 ·rw[if_pos e];unfold xA;simp only;split
  ·split<;>rfl
  ·rfl
 rw[if_neg e];clear e
 by_cases e:x.1=20
 ·rw[if_pos e];unfold ZE;split<;>rfl
 rw[if_neg e];clear e
 by_cases e:x.1=21
 ·rw[if_pos e];rfl
 rw[if_neg e]
theorem IH {W:Wd}(h:Vu W.en)(g v:Int):Vu (zG W g v).1.en:=by
 unfold zG;split
 ·simp only
  have key:∀d:Dd,(d.W.en=W.en∨d.W.en=1)→Vu d.end_.en:=fun d hd=>by
   unfold Dd.end_;split
   ·rcases hd with e|e
    ·rw[e];exact h
    ·rw[e];exact .inr (.inl rfl)
   ·exact .inr (.inr rfl)
  refine key _ ?_
  unfold doM;split
  ·exact .inl rfl
  ·split
   ·exact .inl rfl
   ·exact Gm _ _ _ _ _
 ·exact h
theorem Ir (X:Sd)(i:Nat):(nearM X i).1.st=X.st:=by unfold nearM;split<;>(try split)<;>rfl
theorem EE (X:Sd)(i v:Nat):(zz X i v).1.st=X.st:=by
 have h:=Ir (yN X i) i
 unfold zz;simp only
 split
 ·exact h
 ·split
  ·split<;>exact h
  ·exact h
theorem IN (X:Sd)(m v:Nat):(yG X m v).1.st=X.st:=by
 unfold yG;simp only
 split
 ·rfl
 ·split<;>exact EE X _ _
theorem RV:∀(l:List Int) (X:Sd) (i:Nat),(ym X i l).st=X.st
 | [],X,i=>rfl
 | g::t,X,i=>RV t _ i
theorem ES (X:Sd)(m:Nat)(v:Int):(runM X m v).1.st=X.st:=by
 unfold runM;simp only
 split<;>exact RV _ _ _
theorem GR (X:Sd)(m:Nat):(holdM X m).1.st=X.st:=by unfold holdM;split<;>rfl
theorem PT (X:Sd)(m:Nat)(v:Int):(zZ X m v).1.st=X.st:=by
 unfold zZ;split
 ·rfl
 ·split
  ·exact GR X m
  ·split
   ·exact IN X m _
   ·exact ES X m v
theorem GN (X:Sd)(i:Nat):(nearM X i).1.ms=X.ms:=by unfold nearM;split<;>(try split)<;>rfl
theorem Dm (X:Sd)(i v:Nat):(zz X i v).1.ms=X.ms:=by
 have h:=GN (yN X i) i
 unfold zz;simp only
 split
 ·exact h
 ·split
  ·split<;>exact h
  ·exact h
theorem SC:∀(l:List Int) (X:Sd) (i:Nat),(ym X i l).ms=X.ms
 | [],X,i=>rfl
 | g::t,X,i=>SC t _ i
theorem Ff (X:Sd)(m:Nat)(v:Int):(zZ X m v).1.ms.length=X.ms.length:=by
 unfold zZ;split
 ·rfl
 ·split
  ·unfold holdM;split<;>simp[Sd.zL,Sd.zH]
  ·split
   ·unfold yG
    simp only
    split
    ·simp[Sd.zL,Sd.zH]
    ·split<;>simp[Sd.zL,Sd.zH,Dm]
   ·unfold runM
    simp only
    split<;>simp[Sd.zL,Sd.zH,SC]
def RP (w0:World)(b sp:Nat)(L:Sl)(D:UR sp)(s:D.T)(X:Sd)(R:List zy)(j:Nat)(r:Ending)(w':World):Prop :=
 (∃m:Nat,∃v s1 s' ra rc,m≤X.ms.length∧D.Dv s 1 ((X.ms.length:Int)+1) (m:Int) s1∧Fit D s1 (Zd X m) v s'∧D.ok j s'∧r=.returned (Lk (ZC X m v).2 ra rc)∧zV w0 w' b sp L (ZC X m v).1 (zd 1 ra rc (ZC X m v).2.rd.length (zr (ZC X m v).2.rd)::(D.A s'++R))) ∨
 (∃ch s',r=.panicked ch∧(D.Dp s 1 ((X.ms.length:Int)+1) r s'∨∃m:Nat,∃s1 kd n,m≤X.ms.length∧D.Dv s 1 ((X.ms.length:Int)+1) (m:Int) s1∧Zd X m=some (kd,n)∧D.Dp s1 kd n r s')∧D.ok j s'∧zV w0 w' b sp L X (D.A s'++R))
theorem KH {w0 w:World}{b sp:Nat}{L:Sl}{X:Sd}{R:List zy}{D:UR sp}{s:D.T}{j B:Nat}(h:zV w0 w b sp L X (D.A s++R))(hok:D.ok (j+1) s)(wf:yM B X)(hB:B≤80000)(hen:X.W.en=0){m:Nat}(hm:m≤X.ms.length) :
  Calls Tryz.prog 51 #[.pointer (some ⟨b,0,none⟩),.int .i64 (m:Int)] w (Xc w0 b sp L D s X R j m):=by
 by_cases e:m=X.ms.length
 ·subst e;exact Pt h hok wf hB
 ·have hml:m<X.ms.length:=by omega
  by_cases hP:(X.m m).P = -1
  ·exact Mn h hok wf hB hml hP
  ·by_cases hG:(X.m m).G = -1
   ·exact Mz h hok wf hB hml hP hG
   ·exact JS h hok wf hB hml hP hG hen
theorem UZ {α:Type _}{a c r:α}{A R:List α}:List.Perm (r::(A++(a::c::R))) (a::c::r::(A++R)):=(List.Perm.cons r (List.perm_middle.trans (List.Perm.cons a List.perm_middle))).trans ((List.Perm.swap _ _ _).trans (List.Perm.cons a (List.Perm.swap _ _ _)))
theorem Kh {w0 w:World}{b sp:Nat}{L:Sl}{X:Sd}{R:List zy}{D:UR sp}{s:D.T}{j B:Nat}(h:zV w0 w b sp L X (D.A s++R))(hok:D.ok (j+2) s)(wf:yM B X)(hB:B≤80000)(hov:xC X=0)(hen:X.W.en=0) :
  Calls Tryz.prog 27 #[.pointer (some ⟨b,0,none⟩)] w (RP w0 b sp L D s X R j):=by
 have hnm:=wf.nm;have h1:=(h.box Sv 54).perm List.perm_middle.symm
 have hg1:=wf.wf.g1;have HSTAT:=Qq (Um h1 (by omega))
 rw[hov] at HSTAT;have HDR:=Qq (fun(wx:World) (n:Int) (Z:List zy) (hn:n=(X.ms.length:Int)+1) (hx:zV w0 wx b sp L X (D.A s++Z))=>(by
  subst hn;obtain⟨S,k1,k2⟩:=hx.tail;rw[List.append_assoc] at k1;refine(D.hd s 1 ((X.ms.length:Int)+1) (Z++S) (j+1) hok ⟨by omega,by omega⟩ k1).mono (fun r w' hh=>?_)
  rcases hh with⟨v,s',a1,a2,a3,a4,a5⟩|⟨ch,s',a1,a2,a3,a4⟩
  ·exact .inl ⟨v.toNat,s',by rw[a1];congr 2;omega,by omega,by rw[show((v.toNat:Nat):Int)=v by omega];exact a3,a4,k2 _ _ (by rw[List.append_assoc];exact a5)⟩
  ·exact .inr ⟨ch,s',a1,a2,D.less _ _ a3,k2 _ _ (by rw[List.append_assoc];exact a4)⟩:Calls Tryz.prog 52 #[.pointer (some ⟨sp,0,none⟩),.int .i64 1,.int .i64 n] wx fun r w' =>
   (∃m:Nat,∃s1,r=.returned (.int .i64 (m:Int))∧m≤X.ms.length∧D.Dv s 1 ((X.ms.length:Int)+1) (m:Int) s1∧D.ok (j+1) s1∧zV w0 w' b sp L X (D.A s1++Z))∨(∃ch s',r=.panicked ch∧D.Dp s 1 ((X.ms.length:Int)+1) r s'∧D.ok j s'∧zV w0 w' b sp L X (D.A s'++Z))))
 have HPK:=Qq (fun(wx:World) (s1:D.T) (m:Nat) (Z:List zy) (ho:D.ok (j+1) s1) (hm:m≤X.ms.length) (hx:zV w0 wx b sp L X (D.A s1++Z))=>KH hx ho wf hB hen hm)
 have hst:=wf.st;have HEND:Hid (∀(m:Nat) v s1 s' ra rc wx rr,m≤X.ms.length→D.Dv s 1 ((X.ms.length:Int)+1) (m:Int) s1→Fit D s1 (Zd X m) v s'→D.ok j s'→rr=Ending.returned (Lk (zZ X m v).2 ra rc)→zV w0 wx b sp L { (zZ X m v).1 with st:=(zZ X m v).1.st+1 } (zd 1 ra rc (zZ X m v).2.rd.length (zr (zZ X m v).2.rd)::(D.A s'++R))→RP w0 b sp L D s X R j rr wx):=Qq (fun m v s1 s' ra rc wx rr h1 h2 h3 h4 h5 h6=>.inl ⟨m,v,s1,s',ra,rc,h1,h2,h3,h4,h5,by rw[PT] at h6;exact h6⟩)
 have HST:Hid (∀m v,(zZ X m v).1.st≤80000):=Qq (fun m v=>by rw[PT];omega)
 have HD1:Hid (∀ch s' wx,D.Dp s 1 ((X.ms.length:Int)+1) (.panicked ch) s'→D.ok j s'→zV w0 wx b sp L X (D.A s'++R)→RP w0 b sp L D s X R j (.panicked ch) wx):=Qq (fun ch s' wx h1 h2 h3=>.inr ⟨ch,s',rfl,.inl h1,h2,h3⟩)
 have HD2:Hid (∀ch (m:Nat) s1 s' kd n wx,m≤X.ms.length→D.Dv s 1 ((X.ms.length:Int)+1) (m:Int) s1→Zd X m=some (kd,n)→D.Dp s1 kd n (.panicked ch) s'→D.ok j s'→zV w0 wx b sp L X (D.A s'++R)→RP w0 b sp L D s X R j (.panicked ch) wx):=Qq (fun ch m s1 s' kd n wx h0 h1 h2 h3 h4 h5=>.inr ⟨ch,s',rfl,.inr ⟨m,s1,kd,n,h0,h1,h2,h3⟩,h4,h5⟩)
 have HSB:Hid (∀wx (Y:Sd) Z,zV w0 wx b sp L Y Z→Y.ms.length=X.ms.length→wx.cell? ⟨b,11,none⟩=some (.pointer (some ⟨sp,0,none⟩))∧wx.cell? ⟨b,13,none⟩=some (.slice L.ma X.ms.length L.mc)):=Qq (fun wx Y Z hx e=>⟨hx.ZW,by rw[←e];exact hx.CV⟩)
 have HLM:Hid (∀m v,m≤X.ms.length→(zZ X m v).1.ms.length=X.ms.length):=Qq (fun m v hm=>Ff X m v)
 have hwr:IntKind.i64.wrap ((X.ms.length:Int)+1)=(X.ms.length:Int)+1:=by rw[IntKind.wrap_i64];omega
 obtain⟨K,hK⟩:∃K,K=X.ms.length:=⟨_,rfl⟩
 simp only[←hK] at HDR HPK HEND HD1 HD2 HSB HLM hwr hnm
 have H1:=Qq h1;have HKX:=Qq hK.symm;clear h h1 hok wf hov hen hg1 hst hK;unfold Sv at H1 HSTAT;go_enter Tryz.func27,Tryz.ntmps27
 go_upto_region 1 with fail
 generalize w.alloc (.cells [.int .i64 0,.int .i64 0,.int .i64 0,.slice none 0 0].toArray 54)=w1 at *
 generalize w.heap.size=q at *;go_wp2_with fail;refine HSTAT.out.mono ?_
 rintro r w2 ⟨rfl,hb⟩;have H2:=Qq (H1.out.step hb)
 clear H1 hb HSTAT;go_upto_region 3 with fail
 have h3:=H2.out.step (zg w2)
 refine xT (fun wx=>wx.cell? ⟨b,11,none⟩=some (.pointer (some ⟨sp,0,none⟩))∧wx.cell? ⟨b,13,none⟩=some (.slice L.ma K L.mc)) 15 (Array.replicate 15 false) (by kernel_rfl) (by kernel_rfl) ?_
 generalize w2.drew=w3 at *;refine zq 0 11 _ (Qj 15 2047) 4 (by kernel_rfl) Xp (HSB.out _ _ _ h3 HKX.out) (by kernel_rfl) ?_
 simp only[QX,QV,QJ];(repeat((first|refine Qx (h:=?_)|refine Qv (h:=?_));simp only[Act.put,QW,QY,QZ]));refine zb ?_;refine yJ 11 13 _ (Qj 15 4095) (Qj 15 10239) 3 (by kernel_rfl) (fun K hK=>?_) (fun K hK=>?_)
 ·skip
  have HKK:=Qq hK;clear hK;simp only[QQ,QJ];refine zc (by rfl) ?_;go_simp;refine(HDR.out _ _ _ rfl h3).mono ?_
  intro r w4 hp;rcases hp with⟨m,s1,rfl,hm,hdv,ho1,h4⟩|⟨ch,s',rfl,hdp,ho1,h4⟩
  ·skip
   have e4:=HSB.out _ _ _ h4 HKX.out;refine HKK.out _ _ (e4) ?_
   clear HKK K;refine yJ 12 13 _ (Qj 15 8191) (Qj 15 12287) 2 (by kernel_rfl) (fun K hK=>?_) (fun K hK=>?_)
   ·skip
    have HKK:=Qq hK;clear hK;simp only[QQ,QJ];refine zc (by rfl) ?_;go_simp;refine(HPK.out _ _ _ _ ho1 hm h4).mono ?_
    intro r w6 hp;rcases hp with⟨v,s',ra,rc,hf,ho,rfl,h6⟩|⟨ch,s',kd,n,rfl,hk,hdp,ho,h6⟩
    ·skip
     have HFF:=Qq (And.intro hm (And.intro hdv (And.intro hf ho)))
     have HE2:=Qq (fun wx rr=>HEND.out m v s1 s' ra rc wx rr)
     have hst:=HST.out m v;have hlm:=HLM.out m v hm;generalize zZ X m v=pk at *;obtain⟨Y,k0,M0,G0,rd⟩:=pk;unfold Lk at HE2 ⊢
     simp only at h6 HE2 hst hlm ⊢
     generalize rd.length=N at *;have e6:=HSB.out _ _ _ h6 hlm;refine HKK.out _ _ (e6) ?_
     clear HKK K;have h5:=h6;have h7:=((h6.perm ((List.Perm.cons _ List.perm_middle).trans (List.Perm.swap _ _ _))).box Sv 54)
     unfold Sv at h7;have e7:=HSB.out _ _ _ h7 hlm;refine zn 13 _ (Qj 15 16383) 1 (by kernel_rfl) (fun K hK=>?_)
     have HKK:=Qq hK;clear hK;simp only[QQ,QJ];refine zc (by rfl) ?_;go_simp;refine HKK.out _ _ (e7) ?_
     clear HKK K;generalize w6.alloc (.cells [.int .i64 0,.int .i64 0,.int .i64 0,.slice none 0 0].toArray 54)=w7 at *
     generalize w6.heap.size=q3 at *;obtain⟨x0,y0⟩:=h7.zo 0 _ rfl;obtain⟨x1,y1⟩:=h7.zo 1 _ rfl;obtain⟨x2,y2⟩:=h7.zo 2 _ rfl;obtain⟨x3,y3⟩:=h7.zo 3 _ rfl;have h9:=(((h7.zW 0 (.int .i64 k0)).zW 1 (.int .i64 M0)).zW 2 (.int .i64 G0)).zW 3 (.slice ra N rc)
     have e9:=HSB.out _ _ _ h9 hlm;refine zn 14 _ (Qj 15 32767) 0 (by kernel_rfl) (fun K hK=>?_)
     have HKK:=Qq hK;clear hK;simp only[QQ,QJ];refine zc (by rfl) ?_;go_simp;refine HKK.out _ _ (e9) ?_
     clear HKK K;refine wpAnyH_done (by kernel_rfl) (?_) _
     clear HEND HST HLM HD1 HD2 HPK HDR hm hdv hf ho;have HQ:=Qq h9;generalize (((w7.setCell ⟨q3,0,none⟩ (.int .i64 k0)).setCell ⟨q3,1,none⟩ (.int .i64 M0)).setCell ⟨q3,2,none⟩ (.int .i64 G0)).setCell ⟨q3,3,none⟩ (.slice ra N rc)=w8 at *
     clear h3 h4 h5 h6 h7 h9 H2;obtain⟨Ih,f16⟩:=HQ.out.Ih;have hwr2:IntKind.i64.wrap ((Y.st:Int)+1)=(Y.st:Int)+1:=by rw[IntKind.wrap_i64];omega
     have ha:=HQ.out.zQ (Y.st+1)
     rw[show((Y.st+1:Nat):Int)=(Y.st:Int)+1 by omega] at ha
     have HA:=Qq ha;clear ha HQ HSB;go_upto_region 5 with fail
     clear Ih f16;generalize w8.setCell ⟨b,16,none⟩ (.int .i64 ((Y.st:Int)+1))=w9 at *
     obtain⟨u0,-⟩:=HA.out.zo 0 _ rfl;obtain⟨u1,-⟩:=HA.out.zo 1 _ rfl;obtain⟨u2,-⟩:=HA.out.zo 2 _ rfl;obtain⟨u3,-⟩:=HA.out.zo 3 _ rfl;have hb:=HA.out.perm (List.Perm.swap _ _ _)
     obtain⟨p0,r0⟩:=hb.zo 0 _ rfl;obtain⟨p1,r1⟩:=hb.zo 1 _ rfl;obtain⟨p2,r2⟩:=hb.zo 2 _ rfl;obtain⟨p3,r3⟩:=hb.zo 3 _ rfl;have hc:=(((hb.zW 0 (.int .i64 k0)).zW 1 (.int .i64 M0)).zW 2 (.int .i64 G0)).zW 3 (.slice ra N rc)
     have EG:=Xd (hc.zo 0 _ rfl).1 (hc.zo 1 _ rfl).1 (hc.zo 2 _ rfl).1 (hc.zo 3 _ rfl).1
     have HC:=Qq hc.less.less;clear hb hc HA;go_wp2;exact bodyPost_ret (zu Tryz.results27 _ ⟨q,0,none⟩ rfl EG) rfl (HE2.out _ _ HFF.out.1 HFF.out.2.1 HFF.out.2.2.1 HFF.out.2.2.2 rfl HC.out)
    ·exact⟨rfl,HD2.out ch m s1 s' kd n _ hm hdv hk hdp ho (zV.less (h6.perm List.perm_middle))⟩
   ·skip
    have h5:=(h4.perm List.perm_middle).box Sv 54
    unfold Sv at h5;have e5:=HSB.out _ _ _ h5 HKX.out;have HKK:=Qq hK;clear hK;simp only[QQ,QJ];refine zc (by rfl) ?_;go_simp;refine HKK.out _ _ (e5) ?_
    clear HKK K;generalize w4.alloc (.cells [.int .i64 0,.int .i64 0,.int .i64 0,.slice none 0 0].toArray 54)=w5 at *
    generalize w4.heap.size=q3 at *;refine zn 12 _ (Qj 15 16383) 1 (by kernel_rfl) (fun K hK=>?_)
    have HKK:=Qq hK;clear hK;simp only[QQ,QJ];refine zc (by rfl) ?_;go_simp;refine(HPK.out _ _ _ _ ho1 hm (h5.perm Zs)).mono ?_
    intro r w7 hp;rcases hp with⟨v,s',ra,rc,hf,ho,rfl,h6⟩|⟨ch,s',kd,n,rfl,hk,hdp,ho,h6⟩
    ·skip
     have HFF:=Qq (And.intro hm (And.intro hdv (And.intro hf ho)))
     have HE2:=Qq (fun wx rr=>HEND.out m v s1 s' ra rc wx rr)
     have hst:=HST.out m v;have hlm:=HLM.out m v hm;generalize zZ X m v=pk at *;obtain⟨Y,k0,M0,G0,rd⟩:=pk;unfold Lk at HE2 ⊢
     simp only at h6 HE2 hst hlm ⊢
     generalize rd.length=N at *;have e6:=HSB.out _ _ _ h6 hlm;refine HKK.out _ _ (e6) ?_
     clear HKK K;have h7:=h6.perm UZ;obtain⟨x0,y0⟩:=h7.zo 0 _ rfl;obtain⟨x1,y1⟩:=h7.zo 1 _ rfl;obtain⟨x2,y2⟩:=h7.zo 2 _ rfl;obtain⟨x3,y3⟩:=h7.zo 3 _ rfl;have h9:=(((h7.zW 0 (.int .i64 k0)).zW 1 (.int .i64 M0)).zW 2 (.int .i64 G0)).zW 3 (.slice ra N rc)
     have e9:=HSB.out _ _ _ h9 hlm;refine zn 14 _ (Qj 15 32767) 0 (by kernel_rfl) (fun K hK=>?_)
     have HKK:=Qq hK;clear hK;simp only[QQ,QJ];refine zc (by rfl) ?_;go_simp;refine HKK.out _ _ (e9) ?_
     clear HKK K;refine wpAnyH_done (by kernel_rfl) (?_) _
     clear HEND HST HLM HD1 HD2 HPK HDR hm hdv hf ho;have HQ:=Qq h9;generalize (((w7.setCell ⟨q3,0,none⟩ (.int .i64 k0)).setCell ⟨q3,1,none⟩ (.int .i64 M0)).setCell ⟨q3,2,none⟩ (.int .i64 G0)).setCell ⟨q3,3,none⟩ (.slice ra N rc)=w8 at *
     clear h3 h4 h5 h6 h7 h9 H2;obtain⟨Ih,f16⟩:=HQ.out.Ih;have hwr2:IntKind.i64.wrap ((Y.st:Int)+1)=(Y.st:Int)+1:=by rw[IntKind.wrap_i64];omega
     have ha:=HQ.out.zQ (Y.st+1)
     rw[show((Y.st+1:Nat):Int)=(Y.st:Int)+1 by omega] at ha
     have HA:=Qq ha;clear ha HQ HSB;go_upto_region 5 with fail
     clear Ih f16;generalize w8.setCell ⟨b,16,none⟩ (.int .i64 ((Y.st:Int)+1))=w9 at *
     obtain⟨u0,-⟩:=HA.out.zo 0 _ rfl;obtain⟨u1,-⟩:=HA.out.zo 1 _ rfl;obtain⟨u2,-⟩:=HA.out.zo 2 _ rfl;obtain⟨u3,-⟩:=HA.out.zo 3 _ rfl;have hb:=HA.out.perm (List.Perm.swap _ _ _)
     obtain⟨p0,r0⟩:=hb.zo 0 _ rfl;obtain⟨p1,r1⟩:=hb.zo 1 _ rfl;obtain⟨p2,r2⟩:=hb.zo 2 _ rfl;obtain⟨p3,r3⟩:=hb.zo 3 _ rfl;have hc:=(((hb.zW 0 (.int .i64 k0)).zW 1 (.int .i64 M0)).zW 2 (.int .i64 G0)).zW 3 (.slice ra N rc)
     have EG:=Xd (hc.zo 0 _ rfl).1 (hc.zo 1 _ rfl).1 (hc.zo 2 _ rfl).1 (hc.zo 3 _ rfl).1
     have HC:=Qq hc.less.less;clear hb hc HA;go_wp2;exact bodyPost_ret (zu Tryz.results27 _ ⟨q,0,none⟩ rfl EG) rfl (HE2.out _ _ HFF.out.1 HFF.out.2.1 HFF.out.2.2.1 HFF.out.2.2.2 rfl HC.out)
    ·exact⟨rfl,HD2.out ch m s1 s' kd n _ hm hdv hk hdp ho (zV.less (zV.less (h6.perm Zs.symm)))⟩
  ·exact⟨rfl,HD1.out ch s' _ hdp ho1 (zV.less (h4.perm List.perm_middle))⟩
 ·skip
  have h4:=(h3.perm List.perm_middle).box Sv 54
  unfold Sv at h4;have e4:=HSB.out _ _ _ h4 HKX.out;have HKK:=Qq hK;clear hK;simp only[QQ,QJ];refine zc (by rfl) ?_;go_simp;refine HKK.out _ _ (e4) ?_
  clear HKK K;generalize w3.alloc (.cells [.int .i64 0,.int .i64 0,.int .i64 0,.slice none 0 0].toArray 54)=w4 at *
  generalize w3.heap.size=q3 at *;refine zn 11 _ (Qj 15 12287) 2 (by kernel_rfl) (fun K hK=>?_)
  have HKK:=Qq hK;clear hK;simp only[QQ,QJ];refine zc (by rfl) ?_;go_simp;refine(HDR.out _ _ _ rfl (h4.perm Zs)).mono ?_
  intro r w5 hp;rcases hp with⟨m,s1,rfl,hm,hdv,ho1,h5⟩|⟨ch,s',rfl,hdp,ho1,h5⟩
  ·have e5:=HSB.out _ _ _ h5 HKX.out
   refine HKK.out _ _ (e5) ?_
   clear HKK K;refine zn 12 _ (Qj 15 16383) 1 (by kernel_rfl) (fun K hK=>?_)
   have HKK:=Qq hK;clear hK;simp only[QQ,QJ];refine zc (by rfl) ?_;go_simp;refine(HPK.out _ _ _ _ ho1 hm h5).mono ?_
   intro r w7 hp;rcases hp with⟨v,s',ra,rc,hf,ho,rfl,h6⟩|⟨ch,s',kd,n,rfl,hk,hdp,ho,h6⟩
   ·skip
    have HFF:=Qq (And.intro hm (And.intro hdv (And.intro hf ho)))
    have HE2:=Qq (fun wx rr=>HEND.out m v s1 s' ra rc wx rr)
    have hst:=HST.out m v;have hlm:=HLM.out m v hm;generalize zZ X m v=pk at *;obtain⟨Y,k0,M0,G0,rd⟩:=pk;unfold Lk at HE2 ⊢
    simp only at h6 HE2 hst hlm ⊢
    generalize rd.length=N at *;have e6:=HSB.out _ _ _ h6 hlm;refine HKK.out _ _ (e6) ?_
    clear HKK K;have h7:=h6.perm UZ;obtain⟨x0,y0⟩:=h7.zo 0 _ rfl;obtain⟨x1,y1⟩:=h7.zo 1 _ rfl;obtain⟨x2,y2⟩:=h7.zo 2 _ rfl;obtain⟨x3,y3⟩:=h7.zo 3 _ rfl;have h9:=(((h7.zW 0 (.int .i64 k0)).zW 1 (.int .i64 M0)).zW 2 (.int .i64 G0)).zW 3 (.slice ra N rc)
    have e9:=HSB.out _ _ _ h9 hlm;refine zn 14 _ (Qj 15 32767) 0 (by kernel_rfl) (fun K hK=>?_)
    have HKK:=Qq hK;clear hK;simp only[QQ,QJ];refine zc (by rfl) ?_;go_simp;refine HKK.out _ _ (e9) ?_
    clear HKK K;refine wpAnyH_done (by kernel_rfl) (?_) _
    clear HEND HST HLM HD1 HD2 HPK HDR hm hdv hf ho;have HQ:=Qq h9;generalize (((w7.setCell ⟨q3,0,none⟩ (.int .i64 k0)).setCell ⟨q3,1,none⟩ (.int .i64 M0)).setCell ⟨q3,2,none⟩ (.int .i64 G0)).setCell ⟨q3,3,none⟩ (.slice ra N rc)=w8 at *
    clear h3 h4 h5 h6 h7 h9 H2;obtain⟨Ih,f16⟩:=HQ.out.Ih;have hwr2:IntKind.i64.wrap ((Y.st:Int)+1)=(Y.st:Int)+1:=by rw[IntKind.wrap_i64];omega
    have ha:=HQ.out.zQ (Y.st+1)
    rw[show((Y.st+1:Nat):Int)=(Y.st:Int)+1 by omega] at ha
    have HA:=Qq ha;clear ha HQ HSB;go_upto_region 5 with fail
    clear Ih f16;generalize w8.setCell ⟨b,16,none⟩ (.int .i64 ((Y.st:Int)+1))=w9 at *
    obtain⟨u0,-⟩:=HA.out.zo 0 _ rfl;obtain⟨u1,-⟩:=HA.out.zo 1 _ rfl;obtain⟨u2,-⟩:=HA.out.zo 2 _ rfl;obtain⟨u3,-⟩:=HA.out.zo 3 _ rfl;have hb:=HA.out.perm (List.Perm.swap _ _ _)
    obtain⟨p0,r0⟩:=hb.zo 0 _ rfl;obtain⟨p1,r1⟩:=hb.zo 1 _ rfl;obtain⟨p2,r2⟩:=hb.zo 2 _ rfl;obtain⟨p3,r3⟩:=hb.zo 3 _ rfl;have hc:=(((hb.zW 0 (.int .i64 k0)).zW 1 (.int .i64 M0)).zW 2 (.int .i64 G0)).zW 3 (.slice ra N rc)
    have EG:=Xd (hc.zo 0 _ rfl).1 (hc.zo 1 _ rfl).1 (hc.zo 2 _ rfl).1 (hc.zo 3 _ rfl).1
    have HC:=Qq hc.less.less;clear hb hc HA;go_wp2;exact bodyPost_ret (zu Tryz.results27 _ ⟨q,0,none⟩ rfl EG) rfl (HE2.out _ _ HFF.out.1 HFF.out.2.1 HFF.out.2.2.1 HFF.out.2.2.2 rfl HC.out)
   ·exact⟨rfl,HD2.out ch m s1 s' kd n _ hm hdv hk hdp ho (zV.less (zV.less (h6.perm Zs.symm)))⟩
  ·exact⟨rfl,HD1.out ch s' _ hdp ho1 (zV.less (zV.less (h5.perm Zs.symm)))⟩
theorem Q5 {w0 w:World}{b sp:Nat}{L:Sl}{X:Sd}{R:List zy}(h:zV w0 w b sp L X R):Calls Tryz.prog 20 #[.pointer (some ⟨b,0,none⟩)] w fun r w'=>r=.returned (.pointer (some ⟨b,0,none⟩))∧w'=w:=by
 have hc:=h.ZW;clear h;go_enter Tryz.func20,Tryz.ntmps20
 go_wp2;go_ret;exact⟨rfl,rfl⟩
theorem M9 {w0 w:World}{b sp:Nat}{L:Sl}{X:Sd}{R:List zy}(h:zV w0 w b sp L X R)(hl:X.gl.length≤1000000) :
  Calls Tryz.prog 42 #[.pointer (some ⟨b,14,none⟩)] w fun r w'=>∃a' c',r=.returned (.slice a' X.gl.length c')∧zV w0 w' b sp L X (zd 1 a' c' X.gl.length (zr X.gl)::R):=by
 have h0:=h;obtain⟨S,hf,e,h⟩:=h;obtain⟨F,hF,-⟩:=h.CE.head;refine(Nt w _ X.gl F hF hl).mono (fun r w' hh=>?_)
 obtain⟨a',c',h1,h2,h3,h4⟩:=hh;obtain⟨Q,k1,k2⟩:=h0.tail;exact⟨a',c',h1,k2 _ _ (Own.add k1 h4 (A:=zd 1 a' c' X.gl.length (zr X.gl)) (F:=yf a') ⟨rfl,zU.Lp h2⟩ h3)⟩
theorem Vj {w0 w:World}{b sp:Nat}{L:Sl}{X:Sd}{R:List zy}(h:zV w0 w b sp L X R)(hl:X.gl.length≤1000000) :
  Calls Tryz.prog 18 #[.pointer (some ⟨b,0,none⟩)] w fun r w'=>∃a' c',r=.returned (.slice a' X.gl.length c')∧zV w0 w' b sp L X (zd 1 a' c' X.gl.length (zr X.gl)::R):=by
 have hc:=h.ZW;have HL:=Qq (M9 h hl)
 generalize X.gl.length=N at *;clear h hl;go_enter Tryz.func18,Tryz.ntmps18
 go_wp2_with fail;refine HL.out.mono ?_
 rintro r w1 ⟨a',c',rfl,h1⟩;have H1:=Qq h1;clear h1 HL;go_wp2;go_ret;exact⟨a',c',rfl,H1.out⟩
theorem YU.below {w w':World}{fa:Option Addr}{fr:List (Option Addr×Nat)}{fs:List (List zS)}{ra:Option Addr}{rooms:List Int}{ca:Option Addr}{cc:Nat}{ks:List Zc}(h:YU w fa fr fs ra rooms ca cc ks)(hb:Below w.heap.size w w'):YU w' fa fr fs ra rooms ca cc ks :=
 ⟨h.f.below hb,h.fl,fun i r l hr hl=>by obtain⟨a,b⟩:=h.each i r l hr hl;exact⟨a.below hb,b⟩,h.c.below hb,h.k.below hb,h.kn,h.kl,h.nf,h.nc⟩
theorem Nl:(Tryz.prog.info? 125).map (fun i=>(i.zero,i.size,i.bytes))=some (some (.agg #[.pointer none,.int .i64 0,.int .i64 0]),3,24):=by kernel_rfl
theorem Nc:(Tryz.prog.info? 106).map (fun i=>(i.zero,i.size,i.bytes))=some (some (.agg #[.int .i64 0,.int .i64 0,.int .i64 0]),3,24):=by kernel_rfl
def yY (W:Wd)(i j:Nat)(ring sl:Int)(gl:List Int):Sd :=
 { W:=W,ps:=List.replicate i ⟨Zu ring,⟨none,[]⟩,0,-1⟩,ms:=List.replicate j ⟨-1,-1,0⟩,gl:=gl,sl:=sl,st:=0 }
theorem I0 {ld:List (Nat×Nat)}{ps:List Pm}(h:ld.length=ps.length)(l:Nat×Nat)(P:Pm):YK (ld++[l]) (ps++[P])=YK ld ps++FX (l,P):=by
 unfold YK;rw[List.zip_append h,List.flatMap_append];simp
theorem Ht {ld:List (Nat×Nat)}{ps:List Pm}(h:ld.length=ps.length)(l:Nat×Nat)(P:Pm):WY (ld++[l]) (ps++[P])=WY ld ps++[JJ l P]:=by
 unfold WY;rw[List.zipWith_append h];rfl
theorem GU (ms:List Mm)(M:Mm):We (ms++[M])=We ms++EM M:=by unfold We;rw[List.flatMap_append];simp
theorem Uh {w0 w:World}{R:List zy}(h:Own w0 w R)(fa:Option Addr)(fc:Nat)(fr:List (Option Addr×Nat))(fs:List (List zS))(ra:Option Addr)(rc:Nat)(rooms:List Int)(zN:Nat)(ca:Option Addr)(cc:Nat)(ks:List Zc)(hp:YU w fa fr fs ra rooms ca cc ks)(hlk:zN≤1000)(np nm:Nat)(ring sl:Int)(hnp:np≤1000)(hnm:nm≤1000)(sp:Nat) :
  Calls Tryz.prog 12 #[.agg #[.slice fa fs.length fc,.slice ra rooms.length rc,.int .i64 (zN:Int),.slice ca ks.length cc],.agg #[.int .i64 (np:Int),.int .i64 (nm:Int),.int .i64 ring,.int .i64 sl],.pointer (some ⟨sp,0,none⟩)] w fun r w'=>∃b,r=.returned (.pointer (some ⟨b,0,none⟩))∧Own w0 w' (yx b sp (xX (xu fs ks rooms zN) np nm ring sl)::R):=by
 have h1:=h.alloc [.slice fa fs.length fc,.slice ra rooms.length rc,.int .i64 (zN:Int),.slice ca ks.length cc] 65 (b:=w.heap.size) rfl
 have b1:=below_alloc1 w (.cells [.slice fa fs.length fc,.slice ra rooms.length rc,.int .i64 (zN:Int),.slice ca ks.length cc].toArray 65)
 have h2:=h1.alloc [.int .i64 (np:Int),.int .i64 (nm:Int),.int .i64 ring,.int .i64 sl] 67 (b:=w.heap.size+1) (by simp)
 have b2:=zA b1 (below_alloc1 _ (.cells [.int .i64 (np:Int),.int .i64 (nm:Int),.int .i64 ring,.int .i64 sl].toArray 67))
 have H2:=Qq h2;have HNW:=Qq (fun(wx:World) (hb:Below w.heap.size w wx)=>D7 wx fa fc fr fs ra rc rooms zN ca cc ks (hp.below hb) hlk)
 have B2:=Qq b2;generalize hW:xu fs ks rooms zN=W0 at *
 have HWhp:Hid (W0.hp=[]):=Qq (by rw[←hW];rfl)
 clear h h1 h2 b1 b2 hp hlk hW;go_enter Tryz.func12,Tryz.ntmps12
 go_upto_region 1 with fail
 generalize ((w.alloc (.cells [.slice fa fs.length fc,.slice ra rooms.length rc,.int .i64 (zN:Int),.slice ca ks.length cc].toArray 65)).alloc (.cells [.int .i64 (np:Int),.int .i64 (nm:Int),.int .i64 ring,.int .i64 sl].toArray 67))=w2 at *
 have hB2:=B2.out;have hB3:=zA hB2 (zg w2)
 generalize hqb:w.heap.size+1=qb at *
 generalize hpb:w.heap.size=pb at *
 have h3:=H2.out.step (zg w2)
 have HSB:Hid (∀(wx:World) (As:List zy),Own w0 wx (As++(zf qb [.int .i64 (np:Int),.int .i64 (nm:Int),.int .i64 ring,.int .i64 sl]::zf pb [.slice fa fs.length fc,.slice ra rooms.length rc,.int .i64 (zN:Int),.slice ca ks.length cc]::R))→wx.cell? ⟨qb,3,none⟩=some (.int .i64 sl)∧wx.cell? ⟨pb,0,none⟩=some (.slice fa fs.length fc)∧wx.cell? ⟨pb,1,none⟩=some (.slice ra rooms.length rc)∧wx.cell? ⟨pb,2,none⟩=some (.int .i64 (zN:Int))∧wx.cell? ⟨pb,3,none⟩=some (.slice ca ks.length cc)):=Qq (fun wx As hx=>by
  have h:=Own.Ze hx;exact⟨(h.zo 0 rfl 3 _ rfl).1,(h.zo 1 rfl 0 _ rfl).1,(h.zo 1 rfl 1 _ rfl).1,(h.zo 1 rfl 2 _ rfl).1,(h.zo 1 rfl 3 _ rfl).1⟩)
 clear hB2 B2;refine yd (fun wx=>wx.cell? ⟨qb,3,none⟩=some (.int .i64 sl)∧wx.cell? ⟨pb,0,none⟩=some (.slice fa fs.length fc)∧wx.cell? ⟨pb,1,none⟩=some (.slice ra rooms.length rc)∧wx.cell? ⟨pb,2,none⟩=some (.int .i64 (zN:Int))∧wx.cell? ⟨pb,3,none⟩=some (.slice ca ks.length cc)) 10 (Array.replicate 10 false) (by kernel_rfl) (by kernel_rfl) ?_
 generalize w2.drew=w3 at *;refine zq 0 1 _ (Qj 10 1) 9 (by kernel_rfl) za (HSB.out _ [] h3) (by kernel_rfl) ?_
 simp only[QX,QV,QJ];(repeat((first|refine Qx (h:=?_)|refine Qv (h:=?_));simp only[Act.put,QW,QY,QZ]));refine zb ?_;refine zq 4 3 _ (Qj 10 113) 6 (by kernel_rfl) za (HSB.out _ [] h3) (by kernel_rfl) ?_
 simp only[QX,QV,QQ,QJ];(repeat((first|refine Qx (h:=?_)|refine Qv (h:=?_));simp only[Act.put,QW,QY,QZ]));refine zb ?_;refine zn 1 _ (Qj 10 115) 5 (by kernel_rfl) (fun K hK=>?_)
 have HKK:=Qq hK;clear hK;simp only[QQ,QJ];refine zc (by rfl) ?_;go_simp;refine(HNW.out _ hB3).mono ?_
 rintro r w4 ⟨b0,rfl,hk⟩;have h4:=h3.join hk;obtain⟨D,hD,h5⟩:=h4.FO;have e5:=HSB.out _ _ h5;refine HKK.out _ _ (e5) ?_
 clear HKK K;obtain⟨Fi,⟨-,hit⟩,-⟩:=h5.fact 8 (A:=xx D.sv W0.hp) rfl
 obtain⟨a5,c5,hv5,hc5⟩:=hit.slice;rw[HWhp.out] at hv5;simp only[List.length_nil] at hv5;have y0:=(h5.zo 0 rfl 0 _ rfl).1
 have y1:=(h5.zo 0 rfl 1 _ rfl).1
 have y2:=(h5.zo 0 rfl 2 _ rfl).1
 have y3:=(h5.zo 0 rfl 3 _ rfl).1
 have y4:=(h5.zo 0 rfl 4 _ rfl).1
 have y5:=(h5.zo 0 rfl 5 _ rfl).1
 have y6:=(h5.zo 0 rfl 6 _ rfl).1
 have y7:=(h5.zo 0 rfl 7 _ rfl).1
 have y8:=(h5.zo 0 rfl 8 _ rfl).1
 have y9:=(h5.zo 0 rfl 9 _ rfl).1
 have y10:=(h5.zo 0 rfl 10 _ rfl).1
 rw[hv5] at y5;refine zn 2 _ (Qj 10 119) 4 (by kernel_rfl) (fun K hK=>?_)
 have HKK:=Qq hK;clear hK;simp only[QQ,QJ];refine zc (by rfl) ?_;go_simp;refine HKK.out _ _ (e5) ?_
 clear HKK K;refine zn 3 _ (Qj 10 127) 3 (by kernel_rfl) (fun K hK=>?_)
 have HKK:=Qq hK;clear hK;simp only[QQ,QJ];refine zc (by rfl) ?_;go_simp;refine HKK.out _ _ (e5) ?_
 clear HKK K;refine zn 7 _ (Qj 10 255) 2 (by kernel_rfl) (fun K hK=>?_)
 have HKK:=Qq hK;clear hK;simp only[QQ,QJ];refine zc (by rfl) ?_;go_simp;refine HKK.out _ _ (e5) ?_
 clear HKK K;refine zn 8 _ (Qj 10 511) 1 (by kernel_rfl) (fun K hK=>?_)
 have HKK:=Qq hK;clear hK;simp only[QQ,QJ];refine zc (by rfl) ?_;go_simp;have h6:=h5.drop;have h7:Own w0 w4 (yT (JT W0 D)::zf qb [.int .i64 (np:Int),.int .i64 (nm:Int),.int .i64 ring,.int .i64 sl]::zf pb [.slice fa fs.length fc,.slice ra rooms.length rc,.int .i64 (zN:Int),.slice ca ks.length cc]::R):=Own.MW h6
 have h8:=((((((h7.pick 2 rfl).drop).XV 1).XV 3).MW (l:=[])).XV 3).alloc [.slice D.fa W0.fs.length D.fc,.slice D.ca W0.ks.length D.cc,.slice D.aa W0.gs.length D.ac,.slice D.ha W0.Cs.length D.hc,.slice D.la W0.Ls.length D.lc,.slice a5 0 c5,.int .u64 (W0.nx:Int),.int .u64 (W0.clock:Int),.slice D.oa W0.out.length D.oc,.int .i64 W0.en,.int .i64 W0.why,.pointer (some ⟨sp,0,none⟩),.slice none 0 0,.slice none 0 0,.slice none 0 0,.int .i64 sl,.int .i64 0] 120 (b:=w4.heap.size) rfl
 have hbx:=below_alloc1 w4 (.cells [.slice D.fa W0.fs.length D.fc,.slice D.ca W0.ks.length D.cc,.slice D.aa W0.gs.length D.ac,.slice D.ha W0.Cs.length D.hc,.slice D.la W0.Ls.length D.lc,.slice a5 0 c5,.int .u64 (W0.nx:Int),.int .u64 (W0.clock:Int),.slice D.oa W0.out.length D.oc,.int .i64 W0.en,.int .i64 W0.why,.pointer (some ⟨sp,0,none⟩),.slice none 0 0,.slice none 0 0,.slice none 0 0,.int .i64 sl,.int .i64 0].toArray 120)
 have e6:=HSB.out _ _ (h5.step hbx)
 refine HKK.out _ _ (e6) ?_
 clear HKK K;refine zq 9 1 _ (Qj 10 1023) 0 (by kernel_rfl) za (e6) (by kernel_rfl) ?_
 simp only[QX,QV,QQ,QJ];(repeat((first|refine Qx (h:=?_)|refine Qv (h:=?_));simp only[Act.put,QW,QY,QZ]));refine zb ?_;refine wpAnyH_done (by kernel_rfl) (NoPanic.normal ?_) _
 obtain⟨S0,hS0⟩:∃S0:Sa,S0=⟨D,none,0,[],none,0,none,0⟩:=⟨_,rfl⟩
 have HS:Hid (S0.fits (yY W0 0 0 ring sl [])∧Own w0 (w4.alloc (.cells [.slice D.fa W0.fs.length D.fc,.slice D.ca W0.ks.length D.cc,.slice D.aa W0.gs.length D.ac,.slice D.ha W0.Cs.length D.hc,.slice D.la W0.Ls.length D.lc,.slice a5 0 c5,.int .u64 (W0.nx:Int),.int .u64 (W0.clock:Int),.slice D.oa W0.out.length D.oc,.int .i64 W0.en,.int .i64 W0.why,.pointer (some ⟨sp,0,none⟩),.slice none 0 0,.slice none 0 0,.slice none 0 0,.int .i64 sl,.int .i64 0].toArray 120)) (yV w4.heap.size sp (yY W0 0 0 ring sl []) S0++(zf qb [.int .i64 (np:Int),.int .i64 (nm:Int),.int .i64 ring,.int .i64 sl]::R))):=Qq (by
  subst hS0;refine⟨⟨hD,rfl⟩,?_⟩
  have e:[Value.slice D.fa W0.fs.length D.fc,.slice D.ca W0.ks.length D.cc,.slice D.aa W0.gs.length D.ac,.slice D.ha W0.Cs.length D.hc,.slice D.la W0.Ls.length D.lc,.slice a5 0 c5,.int .u64 (W0.nx:Int),.int .u64 (W0.clock:Int),.slice D.oa W0.out.length D.oc,.int .i64 W0.en,.int .i64 W0.why,.pointer (some ⟨sp,0,none⟩),.slice none 0 0,.slice none 0 0,.slice none 0 0,.int .i64 sl,.int .i64 0]=yD W0 D++UI sp (yY W0 0 0 ring sl []) ⟨D,none,0,[],none,0,none,0⟩:=by
   unfold yD;rw[hv5];rfl
  have h9:=h8;rw[e] at h9;rw[e];exact h9)
 generalize w4.alloc (.cells [.slice D.fa W0.fs.length D.fc,.slice D.ca W0.ks.length D.cc,.slice D.aa W0.gs.length D.ac,.slice D.ha W0.Cs.length D.hc,.slice D.la W0.Ls.length D.lc,.slice a5 0 c5,.int .u64 (W0.nx:Int),.int .u64 (W0.clock:Int),.slice D.oa W0.out.length D.oc,.int .i64 W0.en,.int .i64 W0.why,.pointer (some ⟨sp,0,none⟩),.slice none 0 0,.slice none 0 0,.slice none 0 0,.int .i64 sl,.int .i64 0].toArray 120)=w5 at *
 generalize w4.heap.size=b at *;clear hk h4 h5 h6 h7 h8 hbx e5 e6 hit hv5 hc5 y0 y1 y2 y3 y4 y5 y6 y7 y8 y9 y10 h3 hB3 HNW H2 HSB HWhp hqb hpb hS0 hD;have g0:=(HS.out.2.zo 6 rfl 0 _ rfl).1
 go_wp2_with fail;go_loopw [19] (fun iv wr=>∃i:Nat,∃S:Sa,i≤np∧iv=.int .i64 i∧Hid (S.fits (yY W0 i 0 ring sl [])∧Own w0 wr (yV b sp (yY W0 i 0 ring sl []) S++(zf qb [.int .i64 (np:Int),.int .i64 (nm:Int),.int .i64 ring,.int .i64 sl]::R)))) (fun iv _=>np-(intOf iv).toNat)
 case atStart=>exact⟨0,S0,by omega,rfl,HS⟩
 case round =>
  obtain⟨i,S,hi,rfl,hr⟩:=hrel;clear HS g0;by_cases hlt:i<np
  ·have hlt2:(i:Int)<(np:Int):=by omega
   have hi0:(0:Int)≤(i:Int):=by omega
   have HSB:Hid (∀(wx:World) (As:List zy) (k k2:Nat),Own w0 wx As→As[k]?=some (zf b (yD W0 S.D++UI sp (yY W0 i 0 ring sl []) S))→As[k2]?=some (zf qb [.int .i64 (np:Int),.int .i64 (nm:Int),.int .i64 ring,.int .i64 sl])→wx.cell? ⟨b,12,none⟩=some (.slice S.pa i S.pc)∧wx.cell? ⟨qb,2,none⟩=some (.int .i64 ring)):=Qq (fun wx As k k2 hx h1 h2=>by
    have h3:=(hx.zo k h1 12 _ rfl).1
    have e:(yY W0 i 0 ring sl []).ps.length=i:=by simp[yY]
    rw[e] at h3;exact⟨h3,(hx.zo k2 h2 2 _ rfl).1⟩)
   have HFI:=Qq hr.out.1;have o1:=hr.out.2.step (zg wr)
   have HLN:=Qq (fun wx=>Jq ring wx)
   have hpl:(YK S.ld (yY W0 i 0 ring sl []).ps).length=i*3:=by rw[VB _ _ hr.out.1.l];simp[yY]
   obtain⟨i0,hi1,hz0,hz1,hz2⟩:=info_parts Nl;have Hi:=Qq hi1;clear hi1
   have Hz0:=Qq hz0;clear hz0
   have Hz1:=Qq hz1;clear hz1
   have Hz2:=Qq hz2;clear hz2
   clear hr;go_upto_region 4 with fail
   refine xg (fun wx=>wx.cell? ⟨b,12,none⟩=some (.slice S.pa i S.pc)∧wx.cell? ⟨qb,2,none⟩=some (.int .i64 ring)) 13 14 (Array.replicate 14 false) (by kernel_rfl) (by kernel_rfl) ?_
   generalize wr.drew=w6 at *;refine yw 0 7 _ (Qj 14 127) 7 (by kernel_rfl) za (HSB.out _ _ 0 6 o1 rfl rfl) (by kernel_rfl) ?_
   simp only[QX,QV,QJ];(repeat((first|refine Qx (h:=?_)|refine Qv (h:=?_));simp only[Act.put,QW,QY,QZ]));refine zb ?_;refine yk 7 _ (Qj 14 255) 6 (by kernel_rfl) (fun K hK=>?_)
   have HKK:=Qq hK;clear hK;simp only[QQ,QJ];refine zc (by rfl) ?_;go_simp;refine(HLN.out _).mono ?_
   rintro r w7 ⟨p,g,rfl,hloc,hpp,hgg,hb7⟩;have o2:=o1.add hb7 (A:=ZA ⟨p,g,Zu ring,⟨none,[]⟩,none,0⟩) (F:=[p,g]) ⟨rfl,hloc⟩ (by intro x hx;simp at hx;rcases hx with rfl|rfl<;>assumption)
   refine HKK.out _ _ (HSB.out _ _ 1 7 o2 rfl rfl) ?_
   clear HKK K;refine yw 8 1 _ (Qj 14 511) 5 (by kernel_rfl) za (HSB.out _ _ 1 7 o2 rfl rfl) (by kernel_rfl) ?_
   simp only[QX,QV,QQ,QJ];(repeat((first|refine Qx (h:=?_)|refine Qv (h:=?_));simp only[Act.put,QW,QY,QZ]));refine zb ?_;have o3:=o2.step (below_alloc1 w7 (.cells #[.pointer (some ⟨p,0,none⟩),.int .i64 0,.int .i64 (-1)] 125))
   refine yk 9 _ (Qj 14 1023) 4 (by kernel_rfl) (fun K hK=>?_)
   have HKK:=Qq hK;clear hK;simp only[QQ,QJ];refine zc (by rfl) ?_;go_simp;refine HKK.out _ _ (HSB.out _ _ 1 7 o3 rfl rfl) ?_
   clear HKK K;refine yk 10 _ (Qj 14 2047) 3 (by kernel_rfl) (fun K hK=>?_)
   have HKK:=Qq hK;clear hK;simp only[QQ,QJ];refine zc (by rfl) ?_;have hrow3:=o3.yZ 2 rfl;rw[show(yY W0 i 0 ring sl []).ps.length=i by simp[yY]] at hrow3
   refine yP (n:=i) (m:=1) (cs:=YK S.ld (yY W0 i 0 ring sl []).ps) (ds:=[.pointer (some ⟨p,0,none⟩),.int .i64 0,.int .i64 (-1)]) _ _ 116 (by rfl) 125 i0 _ Tryz.underlying116 Hi.out Hz0.out Hz1.out Hz2.out rfl (by omega) (by omega) (by rfl) (by rfl) hrow3 (zt.new _ [.pointer (some ⟨p,0,none⟩),.int .i64 0,.int .i64 (-1)] _ rfl) rfl (by simp[Value.oneCell']) (by omega) ?_
   intro a9 c9 w9 k9 ch9 f9;have o4:=Own.xj (o3.pick 2 rfl) k9 ch9 f9
   refine HKK.out _ _ (HSB.out _ _ 2 7 o4 rfl rfl) ?_
   clear HKK K;refine xF 11 1 _ (Qj 14 4095) 2 (by kernel_rfl) za (by kernel_rfl) ?_
   simp only[QX,QV,QQ,QJ];(repeat((first|refine Qx (h:=?_)|refine Qv (h:=?_));simp only[Act.put,QW,QY,QZ]));refine zb ?_;refine yw 12 1 _ (Qj 14 8191) 1 (by kernel_rfl) za (HSB.out _ _ 2 7 o4 rfl rfl) (by kernel_rfl) ?_
   simp only[QX,QV,QQ,QJ];(repeat((first|refine Qx (h:=?_)|refine Qv (h:=?_));simp only[Act.put,QW,QY,QZ]));refine zb ?_;obtain⟨z8,f8⟩:=o4.zo 2 rfl 12 _ rfl;have o5:=((((((o4.setAt 2 rfl 12 (.slice a9 (i+1) c9)).pick 1 rfl).pick 3 rfl).pick 1 rfl).UF).pick 1 rfl).pick 2 rfl
   have H5:=Qq o5;clear o1 o2 o3 o4 o5 k9 ch9 f9 hrow3 hloc hpp hgg hb7 HSB HLN;refine xH 13 _ (Qj 14 16383) 0 (by kernel_rfl) (fun K hK=>?_)
   have HKK:=Qq hK;clear hK;simp only[QQ,QJ];refine zc (by rfl) ?_;go_simp;refine HKK.out _ _ ?_
   clear HKK K;refine xG (by kernel_rfl) (NoPanic.normal ?_) _
   have HFIN:Hid (Sa.fits { S with pa:=a9,pc:=c9,ld:=S.ld++[(p,g)] } (yY W0 (i+1) 0 ring sl [])∧Own w0 (w9.setCell ⟨b,12,none⟩ (.slice a9 (i+1) c9)) (yV b sp (yY W0 (i+1) 0 ring sl []) { S with pa:=a9,pc:=c9,ld:=S.ld++[(p,g)] }++(zf qb [.int .i64 (np:Int),.int .i64 (nm:Int),.int .i64 ring,.int .i64 sl]::R))):=Qq (by
    have hl:=HFI.out.l;have e1:(yY W0 (i+1) 0 ring sl []).ps=(yY W0 i 0 ring sl []).ps++[⟨Zu ring,⟨none,[]⟩,0,-1⟩]:=by unfold yY;exact List.replicate_succ'
    have e2:(yY W0 (i+1) 0 ring sl []).ps.length=i+1:=by simp[yY]
    refine⟨⟨HFI.out.w,by simp only[List.length_append,List.length_singleton];rw[hl,e2];simp[yY]⟩,?_⟩
    unfold yV UI;simp only
    rw[e2,e1,I0 hl,Ht hl,Y3,List.map_append];exact H5.out)
   clear H5 HFI hpl;generalize w9.setCell ⟨b,12,none⟩ (.slice a9 (i+1) c9)=w10 at *
   go_wp2;exact⟨⟨i+1,_,by omega,by go_num,HFIN⟩,by simp[intOf];omega⟩
  ·have hge:¬(i:Int)<(np:Int):=by omega
   obtain rfl:i=np:=by omega
   have g1:=(hr.out.2.zo 6 rfl 1 _ rfl).1
   go_wp2_with fail;go_loopw [37] (fun iv wr=>∃j:Nat,∃S:Sa,j≤nm∧iv=.int .i64 j∧Hid (S.fits (yY W0 i j ring sl [])∧Own w0 wr (yV b sp (yY W0 i j ring sl []) S++(zf qb [.int .i64 (i:Int),.int .i64 (nm:Int),.int .i64 ring,.int .i64 sl]::R)))) (fun iv _=>nm-(intOf iv).toNat)
   case atStart=>exact⟨0,S,by omega,rfl,hr⟩
   case round =>
    obtain⟨j,S1,hj,rfl,hq⟩:=hrel;clear hr g1;by_cases hlt2:j<nm
    ·have hlt3:(j:Int)<(nm:Int):=by omega
     have hj0:(0:Int)≤(j:Int):=by omega
     have em:(yY W0 i j ring sl []).ms.length=j:=by simp[yY]
     have z13:=(hq.out.2.zo 0 rfl 13 _ rfl).1
     rw[em] at z13;have o3:=hq.out.2.step (below_alloc1 wr (.cells #[.int .i64 (-1),.int .i64 (-1),.int .i64 0] 106))
     have z14:=(o3.zo 0 rfl 13 _ rfl)
     rw[em] at z14;have hrow3:=o3.yZ 3 rfl;rw[em] at hrow3;have hpl:(We (yY W0 i j ring sl []).ms).length=j*3:=by rw[Sn];simp[yY]
     have O3:=Qq (And.intro o3 hrow3)
     have HFI:=Qq hq.out.1;obtain⟨i0,hi1,hz0,hz1,hz2⟩:=info_parts Nc;have Hi:=Qq hi1;clear hi1
     have Hz0:=Qq hz0;clear hz0
     have Hz1:=Qq hz1;clear hz1
     have Hz2:=Qq hz2;clear hz2
     clear o3 hrow3 hq;go_wp2_with (at_builtin;go_loud (refine yr rfl _ _ 103 rfl 106 i0 _ Tryz.underlying103 Hi.out Hz0.out Hz1.out Hz2.out rfl (by decide) (by decide) (n:=j) (m:=1) (cs:=We (yY W0 i j ring sl []).ms) (ds:=[.int .i64 (-1),.int .i64 (-1),.int .i64 0]) (by rfl) (by rfl) O3.out.2 (zt.new _ [.int .i64 (-1),.int .i64 (-1),.int .i64 0] _ rfl) rfl (by simp[Value.oneCell']) (by omega) ?_))
     intro a9 c9 w9 k9 ch9 f9;have o4:=Own.xj (O3.out.1.pick 3 rfl) k9 ch9 (fun x hx=>by simpa using f9 x hx)
     obtain⟨z8,f8⟩:=o4.zo 1 rfl 13 _ rfl;have o5:=(((o4.setAt 1 rfl 13 (.slice a9 (j+1) c9)).pick 3 rfl).pick 3 rfl).pick 3 rfl
     have HFIN:Hid (Sa.fits { S1 with ma:=a9,mc:=c9 } (yY W0 i (j+1) ring sl [])∧Own w0 (w9.setCell ⟨b,13,none⟩ (.slice a9 (j+1) c9)) (yV b sp (yY W0 i (j+1) ring sl []) { S1 with ma:=a9,mc:=c9 }++(zf qb [.int .i64 (i:Int),.int .i64 (nm:Int),.int .i64 ring,.int .i64 sl]::R))):=Qq (by
      have e1:(yY W0 i (j+1) ring sl []).ms=(yY W0 i j ring sl []).ms++[⟨-1,-1,0⟩]:=by unfold yY;exact List.replicate_succ'
      have e2:(yY W0 i (j+1) ring sl []).ms.length=j+1:=by simp[yY]
      refine⟨⟨HFI.out.w,HFI.out.l⟩,?_⟩
      unfold yV UI;simp only
      rw[e2,e1,GU];exact o5)
     clear o4 o5 k9 ch9 f9 O3 HFI hpl z13 z14 em;go_wp2;exact⟨⟨j+1,_,by omega,by go_num,HFIN⟩,by simp[intOf];omega⟩
    ·have hge3:¬(j:Int)<(nm:Int):=by omega
     obtain rfl:j=nm:=by omega
     have HP:=Qq (fun(wx:World) (hx:Own w0 wx (yV b sp (yY W0 i j ring sl []) S1++(zf qb [.int .i64 (i:Int),.int .i64 (j:Int),.int .i64 ring,.int .i64 sl]::R))) (a:Option Addr) (hm:yR wx a [0])=>XE (L:=⟨S1.pa,S1.ma,S1.ld,S1.mc⟩) ⟨S1,hq.out.1,⟨rfl,⟨rfl,rfl⟩,rfl⟩,hx⟩ a 1 1 [0] rfl hm (by simp[yY]))
     have HO:=Qq (hq.out.2.step (below_alloc1 wr (.cells #[.int .i64 0] 3)))
     clear hq;go_wp2_with fail;refine(HP.out _ HO.out _ (zO.one wr 0 3 rfl).ints).mono ?_
     rintro r w9 ⟨rfl,h9⟩;have HF:Hid (Own w0 w9 (yx b sp (xX W0 i j ring sl)::R)):=Qq (h9.less.to)
     clear h9 HP HO;go_wp2;go_ret;exact⟨b,rfl,HF.out⟩
end Go.Proofs.YtlkjheheofgdgaaGreat

open Go Go.RowKit
namespace Go.Proofs.YtlkjheheofgdgaaGreat
theorem ML (w:World)(x:Int)(m n:Nat)(hm:0<m)(hm2:m≤1000)(hn:(bits BinOp.and IntKind.i64 x 255).tmod (m:Int)=(n:Int))(hn2:n≤255) :
  Calls Tryz.prog 29 #[.int .i64 x,.int .i64 (m:Int)] w fun r w'=>r=.returned (.int .i64 (n:Int))∧w'=w:=by
 have hz:(m:Int)≠0:=by omega
 have hw:IntKind.i64.wrap (n:Int)=n:=by rw[IntKind.wrap_i64];omega
 go_enter Tryz.func29,Tryz.ntmps29
 go_wp2;go_ret;exact⟨rfl,rfl⟩
def DG (x:Int)(m n:Nat):Prop:=0<m∧m≤1000∧(bits BinOp.and IntKind.i64 x 255).tmod (m:Int)=(n:Int)∧n<m∧n≤255
theorem VD {x:Int}{m n:Nat}(h:DG x m n)(w:World):Calls Tryz.prog 29 #[.int .i64 x,.int .i64 (m:Int)] w fun r w'=>r=.returned (.int .i64 (n:Int))∧w'=w :=
 ML w x m n h.1 h.2.1 h.2.2.1 h.2.2.2.2
theorem Sq (x:Int)(m:Nat)(hm:0<m)(hm2:m≤1000):∃n,DG x m n:=by
 obtain⟨n,h1,h2,h3⟩:=Ko x m hm;exact⟨n,hm,hm2,h1,h2,h3⟩
theorem GX {w:World}{q:Nat}{a b c d:Int}(e0:w.cell? ⟨q,0,none⟩=some (.int .i64 a))(e1:w.cell? ⟨q,1,none⟩=some (.int .i64 b))(e2:w.cell? ⟨q,2,none⟩=some (.int .i64 c))(e3:w.cell? ⟨q,3,none⟩=some (.int .i64 d)) :
  (loadVar 28 ⟨q,0,none⟩).run Tryz.prog w=.ok (.agg #[.int .i64 a,.int .i64 b,.int .i64 c,.int .i64 d]) w:=by
 simp[go_sem,e0,e1,e2,e3]
theorem PA (w:World)(p m r s:Int)(a b c d:Nat)(ha:DG p 5 a)(hb:DG m 5 b)(hc:DG r 5 c)(hd:DG s 12 d) :
  Calls Tryz.prog 8 #[.agg #[.int .i64 p,.int .i64 m,.int .i64 r,.int .i64 s]] w fun e w' =>
   e=.returned (.agg #[.int .i64 (1+(a:Int)),.int .i64 (1+(b:Int)),.int .i64 (2+(c:Int)),.int .i64 (1+(d:Int))])∧Below w.heap.size w w':=by
 have a5:=ha.2.2.2.1;have b5:=hb.2.2.2.1;have c5:=hc.2.2.2.1;have d5:=hd.2.2.2.1;have ka:=Qq (VD ha)
 have kb:=Qq (VD hb)
 have kc:=Qq (VD hc)
 have kd:=Qq (VD hd)
 clear ha hb hc hd;go_enter Tryz.func8,Tryz.ntmps8
 go_upto_region 2 with fail
 have o0:Own w ((w.alloc (.cells #[.int .i64 p,.int .i64 m,.int .i64 r,.int .i64 s] 28)).alloc (.cells #[.int .i64 0,.int .i64 0,.int .i64 0,.int .i64 0] 28))
   [zf (w.heap.size+1) [.int .i64 0,.int .i64 0,.int .i64 0,.int .i64 0],zf w.heap.size [.int .i64 p,.int .i64 m,.int .i64 r,.int .i64 s]]:=by
  have h:=((Own.nil (Below.refl _ w)).alloc [.int .i64 p,.int .i64 m,.int .i64 r,.int .i64 s] 28 (b:=w.heap.size) rfl).alloc [.int .i64 0,.int .i64 0,.int .i64 0,.int .i64 0] 28 (b:=w.heap.size+1) (by simp)
  exact h
 generalize ((w.alloc (.cells #[.int .i64 p,.int .i64 m,.int .i64 r,.int .i64 s] 28)).alloc (.cells #[.int .i64 0,.int .i64 0,.int .i64 0,.int .i64 0] 28))=w1 at *
 generalize w.heap.size+1=q1 at *
 generalize hq:w.heap.size=q at *
 have HQ:=Qq hq;clear hq;have o1:=o0.step (zg w1)
 clear o0;have SB:Hid (∀wx:World,Own w wx [zf q1 [.int .i64 0,.int .i64 0,.int .i64 0,.int .i64 0],zf q [.int .i64 p,.int .i64 m,.int .i64 r,.int .i64 s]]→wx.cell? ⟨q,0,none⟩=some (.int .i64 p)∧wx.cell? ⟨q,1,none⟩=some (.int .i64 m)∧wx.cell? ⟨q,2,none⟩=some (.int .i64 r)∧wx.cell? ⟨q,3,none⟩=some (.int .i64 s)) :=
  Qq (fun wx h=>⟨(h.zo 1 rfl 0 _ rfl).1,(h.zo 1 rfl 1 _ rfl).1,(h.zo 1 rfl 2 _ rfl).1,(h.zo 1 rfl 3 _ rfl).1⟩)
 refine xY (fun wx=>wx.cell? ⟨q,0,none⟩=some (.int .i64 p)∧wx.cell? ⟨q,1,none⟩=some (.int .i64 m)∧wx.cell? ⟨q,2,none⟩=some (.int .i64 r)∧wx.cell? ⟨q,3,none⟩=some (.int .i64 s)) 22 (Array.replicate 22 false) (by kernel_rfl) (by kernel_rfl) ?_
 generalize w1.drew=w2 at *;refine zY 0 3 _ (Qj 22 7) 19 (by kernel_rfl) za (SB.out _ o1) (by kernel_rfl) ?_
 simp only[QX,QV,QJ];(repeat((first|refine Qx (h:=?_)|refine Qv (h:=?_));simp only[Act.put,QW,QY,QZ]));refine zb ?_;refine zY 5 3 _ (Qj 22 231) 16 (by kernel_rfl) za (SB.out _ o1) (by kernel_rfl) ?_
 simp only[QX,QV,QQ,QJ];(repeat((first|refine Qx (h:=?_)|refine Qv (h:=?_));simp only[Act.put,QW,QY,QZ]));refine zb ?_;refine zY 10 3 _ (Qj 22 7399) 13 (by kernel_rfl) za (SB.out _ o1) (by kernel_rfl) ?_
 simp only[QX,QV,QQ,QJ];(repeat((first|refine Qx (h:=?_)|refine Qv (h:=?_));simp only[Act.put,QW,QY,QZ]));refine zb ?_;refine zY 15 3 _ (Qj 22 236775) 10 (by kernel_rfl) za (SB.out _ o1) (by kernel_rfl) ?_
 simp only[QX,QV,QQ,QJ];(repeat((first|refine Qx (h:=?_)|refine Qv (h:=?_));simp only[Act.put,QW,QY,QZ]));refine zb ?_;refine yq 3 _ (Qj 22 236783) 9 (by kernel_rfl) (fun K hK=>?_)
 have HKK:=Qq hK;clear hK;simp only[QQ,QJ];refine zc (by rfl) ?_;go_simp;refine(ka.out _).mono ?_
 rintro e w3 ⟨rfl,rfl⟩;refine HKK.out _ _ (SB.out _ o1) ?_
 clear HKK K;refine zY 4 1 _ (Qj 22 236799) 8 (by kernel_rfl) za (SB.out _ o1) (by kernel_rfl) ?_
 simp only[QX,QV,QQ,QJ];(repeat((first|refine Qx (h:=?_)|refine Qv (h:=?_));simp only[Act.put,QW,QY,QZ]));refine zb ?_;refine yq 8 _ (Qj 22 237055) 7 (by kernel_rfl) (fun K hK=>?_)
 have HKK:=Qq hK;clear hK;simp only[QQ,QJ];refine zc (by rfl) ?_;go_simp;refine(kb.out _).mono ?_
 rintro e w3 ⟨rfl,rfl⟩;refine HKK.out _ _ (SB.out _ o1) ?_
 clear HKK K;refine zY 9 1 _ (Qj 22 237567) 6 (by kernel_rfl) za (SB.out _ o1) (by kernel_rfl) ?_
 simp only[QX,QV,QQ,QJ];(repeat((first|refine Qx (h:=?_)|refine Qv (h:=?_));simp only[Act.put,QW,QY,QZ]));refine zb ?_;refine yq 13 _ (Qj 22 245759) 5 (by kernel_rfl) (fun K hK=>?_)
 have HKK:=Qq hK;clear hK;simp only[QQ,QJ];refine zc (by rfl) ?_;go_simp;refine(kc.out _).mono ?_
 rintro e w3 ⟨rfl,rfl⟩;refine HKK.out _ _ (SB.out _ o1) ?_
 clear HKK K;refine zY 14 1 _ (Qj 22 262143) 4 (by kernel_rfl) za (SB.out _ o1) (by kernel_rfl) ?_
 simp only[QX,QV,QQ,QJ];(repeat((first|refine Qx (h:=?_)|refine Qv (h:=?_));simp only[Act.put,QW,QY,QZ]));refine zb ?_;refine yq 18 _ (Qj 22 524287) 3 (by kernel_rfl) (fun K hK=>?_)
 have HKK:=Qq hK;clear hK;simp only[QQ,QJ];refine zc (by rfl) ?_;go_simp;refine(kd.out _).mono ?_
 rintro e w3 ⟨rfl,rfl⟩;refine HKK.out _ _ (SB.out _ o1) ?_
 clear HKK K;refine zY 19 2 _ (Qj 22 2097151) 1 (by kernel_rfl) za (SB.out _ o1) (by kernel_rfl) ?_
 simp only[QX,QV,QQ,QJ];(repeat((first|refine Qx (h:=?_)|refine Qv (h:=?_));simp only[Act.put,QW,QY,QZ]));refine zb ?_;obtain⟨x0,y0⟩:=o1.zo 0 rfl 0 _ rfl;obtain⟨x1,y1⟩:=o1.zo 0 rfl 1 _ rfl;obtain⟨x2,y2⟩:=o1.zo 0 rfl 2 _ rfl;obtain⟨x3,y3⟩:=o1.zo 0 rfl 3 _ rfl;have o2:=(((o1.set 0 (.int .i64 (1+(a:Int)))).set 1 (.int .i64 (1+(b:Int)))).set 2 (.int .i64 (2+(c:Int)))).set 3 (.int .i64 (1+(d:Int)))
 have z0:=(o2.zo 0 rfl 0 _ rfl).1
 have z1:=(o2.zo 0 rfl 1 _ rfl).1
 have z2:=(o2.zo 0 rfl 2 _ rfl).1
 have z3:=(o2.zo 0 rfl 3 _ rfl).1
 have O2:=Qq o2.bel;clear o1 o2 SB ka kb kc kd;refine xl 21 _ (Qj 22 4194303) (by kernel_rfl) (fun K hK=>?_)
 have HKK:=Qq hK;clear hK;simp only[QQ,QJ];refine zc (by rfl) ?_;go_simp;refine HKK.out _ _ (NoPanic.normal ?_)
 clear HKK K;have EG:=GX z0 z1 z2 z3;clear z0 z1 z2 z3;have E1:Hid (∀k:Nat,k<12→IntKind.i64.wrap (1+(k:Int))=1+k):=Qq (fun k hk=>by rw[IntKind.wrap_i64];omega)
 have E2:Hid (∀k:Nat,k<12→IntKind.i64.wrap (2+(k:Int))=2+k):=Qq (fun k hk=>by rw[IntKind.wrap_i64];omega)
 go_wp2;rw[E1.out a (by omega),E1.out b (by omega),E1.out d (by omega),E2.out c (by omega)]
 exact bodyPost_ret (zu Tryz.results8 _ ⟨q1,0,none⟩ rfl EG) rfl ⟨rfl,by rw[←HQ.out] at *;exact O2.out⟩
def pv (fa:Option Addr)(nf fc:Nat)(ca:Option Addr)(nc cc:Nat)(lk:Int)(ka:Option Addr)(nk kc:Nat):Value:=.agg #[.slice fa nf fc,.slice ca nc cc,.int .i64 lk,.slice ka nk kc]
end Go.Proofs.YtlkjheheofgdgaaGreat

open Go Go.RowKit
namespace Go.Proofs.YtlkjheheofgdgaaGreat
def xB (w:World)(a:Option Addr)(l:List zS):Prop:=∀i (h:i<l.length),∃b off,a=some ⟨b,off,none⟩∧w.cell? ⟨b,off+i*4,none⟩=some (.int .i64 l[i].1)∧w.cell? ⟨b,off+i*4+1,none⟩=some (.int .i64 l[i].2.1)∧w.cell? ⟨b,off+i*4+2,none⟩=some (.int .i64 l[i].2.2.1)∧w.cell? ⟨b,off+i*4+3,none⟩=some (.int .i64 l[i].2.2.2)
theorem xB.below {w w':World}{a:Option Addr}{l:List zS}(h:xB w a l)(hb:Below w.heap.size w w'):xB w' a l:=fun i hi=>by
 obtain⟨b,off,h1,h2,h3,h4,h5⟩:=h i hi;exact⟨b,off,h1,zj h2 hb,zj h3 hb,zj h4 hb,zj h5 hb⟩
def Z4 (w:World)(a:Option Addr)(l:List Sx):Prop:=∀i (h:i<l.length),∃b off,a=some ⟨b,off,none⟩∧w.cell? ⟨b,off+i*3,none⟩=some (.int .i64 l[i].1)∧w.cell? ⟨b,off+i*3+1,none⟩=some (.int .i64 l[i].2.1)∧w.cell? ⟨b,off+i*3+2,none⟩=some (.int .i64 l[i].2.2)
theorem Z4.below {w w':World}{a:Option Addr}{l:List Sx}(h:Z4 w a l)(hb:Below w.heap.size w w'):Z4 w' a l:=fun i hi=>by
 obtain⟨b,off,h1,h2,h3,h4⟩:=h i hi;exact⟨b,off,h1,zj h2 hb,zj h3 hb,zj h4 hb⟩
def VM (w:World)(a:Option Addr)(l:List (List zS)):Prop:=∀i (h:i<l.length),∃b off a' c',a=some ⟨b,off,none⟩∧w.cell? ⟨b,off+i,none⟩=some (.slice a' l[i].length c')∧xB w a' l[i]
theorem VM.below {w w':World}{a:Option Addr}{l:List (List zS)}(h:VM w a l)(hb:Below w.heap.size w w'):VM w' a l:=fun i hi=>by
 obtain⟨b,off,a',c',h1,h2,h3⟩:=h i hi;exact⟨b,off,a',c',h1,zj h2 hb,h3.below hb⟩
end Go.Proofs.YtlkjheheofgdgaaGreat

open Go Go.RowKit
namespace Go.Proofs.YtlkjheheofgdgaaGreat
def FG (w:World)(fa ca ka:Option Addr)(d:PD):Prop:=VM w fa d.fs∧yR w ca d.cs∧Z4 w ka d.ks
theorem FG.below {w w':World}{fa ca ka:Option Addr}{d:PD}(h:FG w fa ca ka d)(hb:Below w.heap.size w w'):FG w' fa ca ka d:=⟨h.1.below hb,h.2.1.below hb,h.2.2.below hb⟩
end Go.Proofs.YtlkjheheofgdgaaGreat





open Go Go.RowKit
namespace Go.Proofs.YtlkjheheofgdgaaGreat
def Fits (d:PD):Prop:=∀f∈d.fs,∀x∈f,yh x.2.2.1
def Wp (e:TypeId)(size:Nat)(v:Value)(n:Nat)(xs:List Value):zy where
 at_ w F:=F=v.ownBlock.toList∧w.ownsRow 0 e size v n xs
 lt:=by rintro w F ⟨rfl,h⟩ x hx;exact VA h x (by simpa using hx)
 yC:=by rintro w w' F G ⟨rfl,h⟩ c hd;exact⟨rfl,V4 h c (fun g hg=>hd g (by rw[hg];simp))⟩
theorem Own.LF {w0 w:World}{As:List zy}(h:Own w0 w As)(t:TypeId)(size:Nat){b:Nat}(hb:b=w.heap.size):Own w0 (w.alloc (.cells #[] t)) (Wp t size (.slice (some ⟨b,0,none⟩) 0 0) 0 []::As):=by
 subst hb;exact h.add (below_alloc1 _ _) (F:=[w.heap.size]) ⟨rfl,World.ownsRow_made w #[] 0 (Nat.zero_le _) (by simp) (by simp)⟩ (fun x hx=>by simp at hx;omega)
theorem Own.T2 {w0 w:World}{As:List zy}(h:Own w0 w As)(t:TypeId)(size:Nat):Own w0 w (Wp t size (.slice none 0 0) 0 []::As) :=
 h.add (Below.refl _ _) (F:=[]) ⟨rfl,World.ownsRow_nil _ _ _ _⟩ (fun x hx=>by simp at hx)
theorem Own.owned {w0 w:World}{As:List zy}(h:Own w0 w As)(i:Nat){t:TypeId}{size:Nat}{v:Value}{n:Nat}{xs:List Value}(hi:As[i]?=some (Wp t size v n xs)):w.ownsRow 0 t size v n xs:=by
 obtain⟨F,⟨_,h1⟩,_⟩:=h.fact i hi;exact h1
theorem Own.more {w0 w w2:World}{R:List zy}{t:TypeId}{size:Nat}{a:Option Addr}{n c g cap:Nat}{xs ys:List Value}{o:Obj}(h:Own w0 w (Wp t size (.slice a n c) n xs::R))
  (hown:w2.ownsRow 0 t size (.slice (some ⟨g,0,none⟩) (n+1) cap) (n+1) (xs++ys)) (hgr:(w.alloc o).grownBy w2 (Value.slice a n c).ownBlock)
  (hlies:(Value.slice a n c).ownBlock=some g∨g=w.heap.size+1):Own w0 w2 (Wp t size (.slice (some ⟨g,0,none⟩) (n+1) cap) (n+1) (xs++ys)::R):=by
 refine Own.PM (As:=[Wp t size (.slice a n c) n xs]) (As':=[Wp t size (.slice (some ⟨g,0,none⟩) (n+1) cap) (n+1) (xs++ys)]) (R:=R) h (fun F hF=>?_)
 obtain⟨rfl,h1⟩:=xo.1 hF;refine⟨[g],xo.2 ⟨rfl,hown⟩,(zI.zK (below_alloc1 _ _)).trans (yF hgr) (fun x hx=>.inl hx),fun y hy=>?_⟩
 simp at hy
 subst hy;rcases hlies with h|h
 ·left;rw[h];simp
 ·right;omega
def inc (l:List zS):List Value:=l.flatMap fun x=>[.int .i64 x.1,.int .i64 x.2.1,.int .i64 x.2.2.1,.int .i64 x.2.2.2]
def ZU (l:List Sx):List Value:=l.flatMap fun x=>[.int .i64 x.1,.int .i64 x.2.1,.int .i64 x.2.2]
theorem ON (l m:List zS):inc (l++m)=inc l++inc m:=by unfold inc;rw[List.flatMap_append]
theorem Ou (l m:List Sx):ZU (l++m)=ZU l++ZU m:=by unfold ZU;rw[List.flatMap_append]
theorem Ps:∀(l:List zS) (i:Nat) (h:i<l.length),(inc l)[i*4]?=some (.int .i64 l[i].1)∧(inc l)[i*4+1]?=some (.int .i64 l[i].2.1)∧(inc l)[i*4+2]?=some (.int .i64 l[i].2.2.1)∧(inc l)[i*4+3]?=some (.int .i64 l[i].2.2.2)
 | [],i,h=>by simp at h
 | x::l,0,h=>⟨rfl,rfl,rfl,rfl⟩
 | x::l,i+1,h=>by
  have ih:=Ps l i (by simpa using h)
  have e:inc (x::l)=[.int .i64 x.1,.int .i64 x.2.1,.int .i64 x.2.2.1,.int .i64 x.2.2.2]++inc l:=rfl
  rw[e];simp only[List.getElem_cons_succ];refine⟨?_,?_,?_,?_⟩<;>(rw[List.getElem?_append_right (by simp;omega)])
  ·rw[show(i+1)*4-List.length [Value.int .i64 x.1,.int .i64 x.2.1,.int .i64 x.2.2.1,.int .i64 x.2.2.2]=i*4 by simp;omega];exact ih.1
  ·rw[show(i+1)*4+1-List.length [Value.int .i64 x.1,.int .i64 x.2.1,.int .i64 x.2.2.1,.int .i64 x.2.2.2]=i*4+1 by simp;omega];exact ih.2.1
  ·rw[show(i+1)*4+2-List.length [Value.int .i64 x.1,.int .i64 x.2.1,.int .i64 x.2.2.1,.int .i64 x.2.2.2]=i*4+2 by simp;omega];exact ih.2.2.1
  ·rw[show(i+1)*4+3-List.length [Value.int .i64 x.1,.int .i64 x.2.1,.int .i64 x.2.2.1,.int .i64 x.2.2.2]=i*4+3 by simp;omega];exact ih.2.2.2
theorem Lb:∀(l:List Sx) (i:Nat) (h:i<l.length),(ZU l)[i*3]?=some (.int .i64 l[i].1)∧(ZU l)[i*3+1]?=some (.int .i64 l[i].2.1)∧(ZU l)[i*3+2]?=some (.int .i64 l[i].2.2)
 | [],i,h=>by simp at h
 | x::l,0,h=>⟨rfl,rfl,rfl⟩
 | x::l,i+1,h=>by
  have ih:=Lb l i (by simpa using h)
  have e:ZU (x::l)=[.int .i64 x.1,.int .i64 x.2.1,.int .i64 x.2.2]++ZU l:=rfl
  rw[e];simp only[List.getElem_cons_succ];refine⟨?_,?_,?_⟩<;>(rw[List.getElem?_append_right (by simp;omega)])
  ·rw[show(i+1)*3-List.length [Value.int .i64 x.1,.int .i64 x.2.1,.int .i64 x.2.2]=i*3 by simp;omega];exact ih.1
  ·rw[show(i+1)*3+1-List.length [Value.int .i64 x.1,.int .i64 x.2.1,.int .i64 x.2.2]=i*3+1 by simp;omega];exact ih.2.1
  ·rw[show(i+1)*3+2-List.length [Value.int .i64 x.1,.int .i64 x.2.1,.int .i64 x.2.2]=i*3+2 by simp;omega];exact ih.2.2
theorem XR {w:World}{t:TypeId}{size:Nat}{a:Option Addr}{n cap:Nat}{xs:List Value}(h:w.ownsRow 0 t size (.slice a n cap) n xs)(hn:0<n):∃g,a=some ⟨g,0,none⟩∧∀j u,xs[j]?=some u→w.cell? ⟨g,j,none⟩=some u:=by
 rcases h.2 with⟨_,h0⟩|⟨g,cap',cur,hv,_⟩
 ·omega
 ·simp only[Value.slice.injEq] at hv
  obtain⟨rfl,_,_⟩:=hv;refine⟨g,rfl,fun j u hj=>?_⟩
  have:=World.ownsRow.cells h (g:=g) rfl j u hj
  rwa [Addr.add_lit,Nat.zero_add] at this
theorem xB.xO {w:World}{t:TypeId}{a:Option Addr}{n cap:Nat}{l:List zS}(h:w.ownsRow 0 t 4 (.slice a n cap) n (inc l))(hn:n=l.length):xB w a l:=fun i hi=>by
 obtain⟨g,rfl,hc⟩:=XR h (by omega)
 obtain⟨h1,h2,h3,h4⟩:=Ps l i hi;exact⟨g,0,rfl,by simpa using hc _ _ h1,by simpa using hc _ _ h2,by simpa using hc _ _ h3,by simpa using hc _ _ h4⟩
theorem Z4.xO {w:World}{t:TypeId}{a:Option Addr}{n cap:Nat}{l:List Sx}(h:w.ownsRow 0 t 3 (.slice a n cap) n (ZU l))(hn:n=l.length):Z4 w a l:=fun i hi=>by
 obtain⟨g,rfl,hc⟩:=XR h (by omega)
 obtain⟨h1,h2,h3⟩:=Lb l i hi;exact⟨g,0,rfl,by simpa using hc _ _ h1,by simpa using hc _ _ h2,by simpa using hc _ _ h3⟩
theorem xB.yC {G:List Nat}{w w':World}{a:Option Addr}{l:List zS}(h:xB w a l)(c:zI G w w')(hd:∀x∈yf a,x∉G):xB w' a l:=fun i hi=>by
 obtain⟨b,off,rfl,h2,h3,h4,h5⟩:=h i hi;have hb:b∉G:=hd b (by simp[yf])
 exact⟨b,off,rfl,Zj h2 c hb,Zj h3 c hb,Zj h4 c hb,Zj h5 c hb⟩
def Wg (T:TypeId)(v:Value)(vs:List Value)(l:List (List zS)):zy where
 at_ w F:=∃F2,F=v.ownBlock.toList++F2∧(∀x∈v.ownBlock.toList,x∉F2)∧(∀x∈F2,x<w.heap.size)∧w.ownsRow 0 T 1 v l.length vs∧∀i (h:i<l.length),∃a' c',vs[i]?=some (.slice a' l[i].length c')∧xB w a' l[i]∧∀x∈yf a',x∈F2
 lt:=by
  rintro w F ⟨F2,rfl,_,h2,h3,_⟩ x hx
  rcases List.mem_append.1 hx with hx|hx
  ·exact VA h3 x (by simpa using hx)
  ·exact h2 x hx
 yC:=by
  rintro w w' F G ⟨F2,rfl,h1,h2,h3,h4⟩ c hd
  refine⟨F2,rfl,h1,fun x hx=>Nat.lt_of_lt_of_le (h2 x hx) c.size,V4 h3 c (fun g hg=>hd g (by rw[hg];simp)),fun i hi=>?_⟩
  obtain⟨a',c',k1,k2,k3⟩:=h4 i hi;exact⟨a',c',k1,k2.yC c (fun x hx=>hd x (by simp[k3 x hx])),k3⟩
theorem Own.Ct {w0 w:World}{As:List zy}(h:Own w0 w As)(T:TypeId):Own w0 w (Wg T (.slice none 0 0) [] []::As) :=
 h.add (Below.refl _ _) (F:=[]) ⟨[],rfl,by simp,by simp,World.ownsRow_nil _ _ _ _,fun i hi=>by simp at hi⟩ (fun x hx=>by simp at hx)
theorem Own.fun {w0 w:World}{As:List zy}(h:Own w0 w As)(i:Nat){T:TypeId}{v:Value}{vs:List Value}{l:List (List zS)}(hi:As[i]?=some (Wg T v vs l)):w.ownsRow 0 T 1 v l.length vs:=by
 obtain⟨F,⟨F2,_,_,_,h1,_⟩,_⟩:=h.fact i hi;exact h1
theorem Own.D0 {w0 w:World}{As:List zy}(h:Own w0 w As)(i:Nat){T:TypeId}{a:Option Addr}{n c:Nat}{vs:List Value}{l:List (List zS)}(hn:n=l.length)(hi:As[i]?=some (Wg T (.slice a n c) vs l)):VM w a l:=by
 obtain⟨F,⟨F2,_,_,_,h1,h2⟩,_⟩:=h.fact i hi;subst hn;intro j hj;obtain⟨g,rfl,hc⟩:=XR h1 (by omega)
 obtain⟨a',c',k1,k2,_⟩:=h2 j hj;exact⟨g,0,a',c',rfl,by simpa using hc _ _ k1,k2⟩
theorem Own.Em {w0 w w2:World}{R:List zy}{T E:TypeId}{a a6:Option Addr}{n c n6 c6 g cap:Nat}{vs:List Value}{l:List (List zS)}{f:List zS}{o:Obj}(h:Own w0 w (Wg T (.slice a n c) vs l::Wp E 4 (.slice a6 n6 c6) n6 (inc f)::R))(hn:n=l.length)(hn6:n6=f.length)
  (hown:w2.ownsRow 0 T 1 (.slice (some ⟨g,0,none⟩) (n+1) cap) (n+1) (vs++[.slice a6 n6 c6])) (hgr:(w.alloc o).grownBy w2 (Value.slice a n c).ownBlock)
  (hlies:(Value.slice a n c).ownBlock=some g∨g=w.heap.size+1):Own w0 w2 (Wg T (.slice (some ⟨g,0,none⟩) (n+1) cap) (vs++[.slice a6 n6 c6]) (l++[f])::R):=by
 refine Own.PM (As:=[Wg T (.slice a n c) vs l,Wp E 4 (.slice a6 n6 c6) n6 (inc f)]) (As':=[Wg T (.slice (some ⟨g,0,none⟩) (n+1) cap) (vs++[.slice a6 n6 c6]) (l++[f])]) (R:=R) h (fun F hF=>?_)
 obtain⟨F1,F3,rfl,⟨F2,rfl,h1,h2,h3,h4⟩,h5,h6⟩:=hF;obtain⟨rfl,h7⟩:=xo.1 h6;have hc:zI (Value.slice a n c).ownBlock.toList w w2:=(zI.zK (below_alloc1 _ _)).trans (yF hgr) (fun x hx=>.inl hx)
 have hvl:vs.length=l.length:=by have:=h3.1;simpa using this
 have h7lt:∀x∈(Value.slice a6 n6 c6).ownBlock.toList,x<w.heap.size:=fun x hx=>VA h7 x (by simpa using hx)
 refine⟨[g]++(F2++(Value.slice a6 n6 c6).ownBlock.toList),xo.2 ⟨F2++(Value.slice a6 n6 c6).ownBlock.toList,rfl,?_,?_,by rw[List.length_append,←hn];exact hown,fun i hi=>?_⟩,hc.mono (fun x hx=>by simp only[List.mem_append];exact .inl (.inl hx)),fun x hx=>?_⟩
 ·intro x hx hx2
  have hxg:x=g:=by simpa [Value.ownBlock] using hx
  subst hxg;rcases hlies with e|e
  ·rcases List.mem_append.1 hx2 with h|h
   ·exact h1 x (by rw[e];simp) h
   ·exact h5 x (by rw[e];simp) h
  ·rcases List.mem_append.1 hx2 with h|h
   ·have:=h2 x h;omega
   ·have:=h7lt x h;omega
 ·intro x hx
  rcases List.mem_append.1 hx with h|h
  ·exact Nat.lt_of_lt_of_le (h2 x h) hc.size
  ·exact Nat.lt_of_lt_of_le (h7lt x h) hc.size
 ·by_cases hil:i<l.length
  ·obtain⟨a',c',k1,k2,k3⟩:=h4 i hil
   rw[List.getElem_append_left hil];exact⟨a',c',by rw[List.getElem?_append_left (by omega)];exact k1,k2.yC hc (fun x hx hx2=>h1 x hx2 (k3 x hx)),fun x hx=>by simp[k3 x hx]⟩
  ·have hie:i=l.length:=by rw[List.length_append] at hi;simp at hi;omega
   subst hie;rw[List.getElem_append_right (Nat.le_refl _)]
   simp only[Nat.sub_self,List.getElem_cons_zero];have hbk:∀x∈yf a6,x∈(Value.slice a6 n6 c6).ownBlock.toList:=fun x hx=>by rw[Ft];exact hx
   exact⟨a6,c6,by rw[List.getElem?_append_right (by omega),hvl,Nat.sub_self,hn6];rfl,(xB.xO h7 hn6).yC hc (fun x hx hx2=>h5 x (by simp[hx2]) (hbk x hx)),fun x hx=>List.mem_append.2 (.inr (hbk x hx))⟩
 ·rcases List.mem_append.1 hx with hx|hx
  ·have hxg:x=g:=by simpa using hx
   subst hxg;rcases hlies with e|e
   ·left;simp[e]
   ·right;omega
  ·left
   rcases List.mem_append.1 hx with h|h
   ·simp[h]
   ·exact List.mem_append.2 (.inr h)
structure Fr where
 a:Option Addr
 c:Nat
 l:List zS
def JV (r:Fr):Value:=.slice r.a r.l.length r.c
def Xy (rs:List Fr):List Value:=rs.map JV
def Oc (r:Fr):zy:=zd 4 r.a r.c r.l.length (inc r.l)
def fns (rs:List Fr):List zy:=rs.map Oc
theorem Fj (rs:List Fr):(Xy rs).length=rs.length:=by unfold Xy;simp
theorem PY (rs:List Fr)(i:Nat)(r:Fr):(fns rs).set i (Oc r)=fns (rs.set i r):=by unfold fns;rw[List.map_set]
theorem I6 (rs:List Fr)(i:Nat)(r:Fr):(Xy rs).set i (JV r)=Xy (rs.set i r):=by unfold Xy;rw[List.map_set]
theorem Uy {rs:List Fr}{i:Nat}{r:Fr}(h:rs[i]?=some r):(fns rs)[i]?=some (Oc r):=by unfold fns;rw[List.getElem?_map,h];rfl
theorem TL {rs:List Fr}{i:Nat}{r:Fr}(h:rs[i]?=some r):(Xy rs)[i]?=some (.slice r.a r.l.length r.c):=by unfold Xy;rw[List.getElem?_map,h];rfl
theorem Own.Es {w0 w:World}{rs:List Fr}{R:List zy}(h:Own w0 w (fns rs++R)){i:Nat}{r:Fr}(hi:rs[i]?=some r) :
  ∃R',Own w0 w (Oc r::R')∧∀w' r',Own w0 w' (Oc r'::R')→Own w0 w' (fns (rs.set i r')++R):=by
 have hl:i<(fns rs).length:=(List.getElem?_eq_some_iff.1 (Uy hi)).1
 refine⟨_,h.pick i (by rw[List.getElem?_append_left hl];exact Uy hi),fun w' r' h'=>?_⟩
 have:=h'.back (by rw[List.length_append];omega)
 rw[List.set_append_left _ _ hl,PY] at this;exact this
theorem Own.Cd {w0 w:World}{rs:List Fr}{R:List zy}{r':Fr}(h:Own w0 w (Oc r'::(fns rs++R))){i:Nat}(hi:i<rs.length):Own w0 w (fns (rs.set i r')++R):=by
 have hl:i<(fns rs).length:=by unfold fns;simpa using hi
 have h1:(Oc r'::(fns rs++R))[i+1]?=some (Oc rs[i]):=by
  rw[List.getElem?_cons_succ,List.getElem?_append_left hl];exact Uy (List.getElem?_eq_getElem hi)
 have h2:=(h.pick (i+1) h1).drop
 rw[List.eraseIdx_cons_succ] at h2;have h3:=h2.back (by rw[List.length_append];omega)
 rw[List.set_append_left _ _ hl,PY] at h3;exact h3
theorem Own.Hv {w0 w:World}{rs:List Fr}{R:List zy}{sb so sc gn:Nat}{r':Fr}(h:Own w0 w (Oc r'::(fns rs++zd 1 (some ⟨sb,so,none⟩) sc gn (Xy rs)::R))){i:Nat}(hi:i<rs.length) :
  Own w0 (w.setCell ⟨sb,so+i,none⟩ (JV r')) (fns (rs.set i r')++zd 1 (some ⟨sb,so,none⟩) sc gn (Xy (rs.set i r'))::R):=by
 have h1:=(h.perm (List.perm_middle (l₁:=Oc r'::fns rs))).ZG i (JV r') (by rw[Fj];exact hi)
 rw[I6] at h1;exact Own.Cd (h1.perm (List.perm_middle (l₁:=Oc r'::fns rs)).symm) hi
theorem Own.J6 {w0 w:World}{A:zy}{Y Z:List zy}(h:Own w0 w (A::(Y++Z))):Own w0 w (A::Z):=Own.Ze (As:=Y) (h.perm List.perm_middle.symm)
theorem xB.Yf {w:World}{a:Option Addr}{l:List zS}(h:zt w a (inc l)):xB w a l:=fun i hi=>by
 obtain⟨b,off,rfl,hc⟩:=zt.rec (f:=fun x:zS=>[.int .i64 x.1,.int .i64 x.2.1,.int .i64 x.2.2.1,.int .i64 x.2.2.2]) (s:=4) (fun _=>rfl) h i hi (by omega)
 exact⟨b,off,rfl,hc 0 _ rfl,hc 1 _ rfl,hc 2 _ rfl,hc 3 _ rfl⟩
theorem xB.take {w:World}{a:Option Addr}{l:List zS}(h:xB w a l)(m:Nat):xB w a (l.take m):=fun i hi=>by
 have hil:i<l.length:=by rw[List.length_take] at hi;omega
 have e:(l.take m)[i]=l[i]:=by simp
 rw[e];exact h i hil
theorem Z4.Yf {w:World}{a:Option Addr}{l:List Sx}(h:zt w a (ZU l)):Z4 w a l:=fun i hi=>by
 obtain⟨b,off,rfl,hc⟩:=zt.rec (f:=fun x:Sx=>[.int .i64 x.1,.int .i64 x.2.1,.int .i64 x.2.2]) (s:=3) (fun _=>rfl) h i hi (by omega)
 exact⟨b,off,rfl,hc 0 _ rfl,hc 1 _ rfl,hc 2 _ rfl⟩
theorem yR.Yf {w:World}{a:Option Addr}{l:List Int}(h:zt w a (zr l)):yR w a l:=fun i hi=>h.int i hi
theorem Own.Da {w0 w:World}{As R:List zy}{fa:Option Addr}{fc n:Nat}{rs:List Fr}(h:Own w0 w (fns rs++R))(hs:zU 1 w fa fc n (Xy rs)):VM w fa (rs.map (·.l)):=fun i hi=>by
 have hil:i<rs.length:=by simpa using hi
 have hr:=List.getElem?_eq_getElem hil
 obtain⟨b,off,rfl,e⟩:=hs.cells i _ (TL hr)
 have hl:i<(fns rs).length:=(List.getElem?_eq_some_iff.1 (Uy hr)).1
 have hg:=Own.yZ h i (s:=4) (a:=rs[i].a) (cap:=rs[i].c) (n:=rs[i].l.length) (cs:=inc rs[i].l) (by rw[List.getElem?_append_left hl];exact Uy hr)
 have e2:(rs.map (·.l))[i]=rs[i].l:=by simp
 refine⟨b,off,rs[i].a,rs[i].c,rfl,?_,?_⟩
 ·rw[e2];exact e
 ·rw[e2];exact xB.Yf hg.cells
theorem J5 (l:List zS):(inc l).length=l.length*4:=ZP _ 4 (fun _=>rfl) l
theorem GY (l:List zS):∀v∈inc l,v.oneCell'=true:=fun v hv=>by
 unfold inc at hv;rw[List.mem_flatMap] at hv;obtain⟨x,_,hx⟩:=hv;simp at hx
 rcases hx with rfl|rfl|rfl|rfl<;>rfl
theorem Hk (l:List Sx):∀v∈ZU l,v.oneCell'=true:=fun v hv=>by
 unfold ZU at hv;rw[List.mem_flatMap] at hv;obtain⟨x,_,hx⟩:=hv;simp at hx
 rcases hx with rfl|rfl|rfl<;>rfl
def Vl (nf nc nk:Nat)(lk:Int)(m:Nat)(l:List zS):Prop:=∀x∈l,US nf nc nk lk m x=0∧yh x.2.2.1
def EL (nf nc nk:Nat)(lk:Int)(l:List zS):Prop:=1≤l.length∧l.length≤20∧Vl nf nc nk lk l.length l
def L1 (cs:List Int)(lk:Int)(ks:List Sx):Prop:=cs.length≤4∧ks.length≤8∧0≤lk∧lk≤3∧(∀c∈cs,0≤c∧c≤3)∧∀k∈ks,Lj cs.length k=true
theorem Ia:(Tryz.prog.info? 86).map (fun i=>(i.zero,i.size,i.bytes))=some (some (.agg #[.int .i64 0,.int .i64 0,.int .i64 0,.int .i64 0]),4,32):=by kernel_rfl
theorem IB:(Tryz.prog.info? 129).map (fun i=>(i.zero,i.size,i.bytes))=some (some (.agg #[.int .i64 0,.int .i64 0,.int .i64 0]),3,24):=by kernel_rfl
theorem JZ:(Tryz.prog.info? 87).map (fun i=>(i.zero,i.size,i.bytes))=some (some (.slice none 0 0),1,24):=by kernel_rfl
theorem OT:(Tryz.prog.info? 3).map (fun i=>(i.zero,i.size,i.bytes))=some (some (.int .i64 0),1,8):=by kernel_rfl
theorem Yw {P:Program}{w:World}{o:Oper}{ac:Act}{K:Act→World→Prop}{Q:Exit→Act→World→Prop}(sl x:Operand)(t:TypeId)
  (ho:o.op=.call { callee:=.builtin .append,args:=#[sl,x],argTypes:=#[t,t] }) (e:TypeId) (i:TypeInfo) (z:Value) (ht:P.underlying t=some (.slice e)) (hi:P.info? e=some i) (hz:i.zero=some z) (hsize:i.size=1) (hby:i.bytes=8) (hzs:z.cells.size=1)
  {a b:Option Addr} {cap c n k:Nat} {l m:List Int} (hs:ac.eval sl=.slice a n cap) (hx:ac.eval x=.slice b k c) (hn:n=l.length) (hk:k=m.length) (ha:zO w a cap l) (hb:yR w b m) (h47:l.length+m.length≤1000000000)
  (h:∀a' cap' w',zO w' a' cap' (l++m)→zI (yf a) w w'→(∀x∈yf a',x∈yf a∨w.heap.size≤x)→K (ac.put o.dst (.slice a' (n+k) cap')) w'):Oper.wp P o ac w K Q:=by
 subst hn hk;obtain⟨a',cap',w',hr,h2,h3,h4⟩:=XT (P:=P) (w:=w) t o.type e i z ht hi hz hsize hby hzs ha (c:=c) hb h47
 unfold Oper.wp execOp;simp only[ho,resolve,invoke,builtin,Sem.run_bind,Sem.run_pure,Result.andThen_ok,List.map_toArray,List.map_cons,List.map_nil,hs,hx,hr];exact h a' cap' w' h2 h3 h4
def UQ (W:World)(S nc:Nat)(lk:Int)(cs:List Int)(s:Value)(wx:World):Prop:=∃B a' c',s=.pointer (some ⟨B,0,none⟩)∧zF wx B [.slice none 0 0,.slice a' nc c',.int .i64 lk,.slice none 0 0]∧zO wx a' c' cs∧(∀x∈yf a',x≠B∧S≤x)∧S≤B∧Below S W wx
theorem UQ.a {W w3:World}{S nc:Nat}{lk:Int}{cs:List Int}(hS:S=W.heap.size){a':Option Addr}{c':Nat}{t:TypeId}(hr:zO w3 a' c' cs)(hge:∀x∈yf a',W.heap.size≤x)(bw:Below W.heap.size W w3) :
  UQ W S nc lk cs (.pointer (some ⟨w3.heap.size,0,none⟩)) (w3.alloc (.cells #[.slice none 0 0,.slice a' nc c',.int .i64 lk,.slice none 0 0] t)):=by
 subst hS;exact⟨_,a',c',rfl,zF.mk w3 [.slice none 0 0,.slice a' nc c',.int .i64 lk,.slice none 0 0] t _ rfl,hr.below (below_alloc1 _ _),fun x hx=>⟨by have:=hr.lt x hx;omega,hge x hx⟩,bw.size,zA bw (below_alloc1 _ _)⟩
theorem UQ.b {W w3:World}{S nc b:Nat}{lk:Int}{cs:List Int}(hS:S=W.heap.size){a':Option Addr}{c':Nat}(hz:zF w3 b [.slice none 0 0,.slice none 0 0,.int .i64 0,.slice none 0 0])(hr:zO w3 a' c' cs)(hge:∀x∈yf a',W.heap.size≤x)(hne:∀x∈yf a',x≠b)(hb:W.heap.size≤b)(bw:Below W.heap.size W w3) :
  UQ W S nc lk cs (.pointer (some ⟨b,0,none⟩)) ((((w3.setCell ⟨b,0,none⟩ (.slice none 0 0)).setCell ⟨b,1,none⟩ (.slice a' nc c')).setCell ⟨b,2,none⟩ (.int .i64 lk)).setCell ⟨b,3,none⟩ (.slice none 0 0)):=by
 subst hS;have hc:zI [b] w3 ((((w3.setCell ⟨b,0,none⟩ (.slice none 0 0)).setCell ⟨b,1,none⟩ (.slice a' nc c')).setCell ⟨b,2,none⟩ (.int .i64 lk)).setCell ⟨b,3,none⟩ (.slice none 0 0)):=((((zI.refl [b] w3).setCell _ (.inl (by simp))).setCell _ (.inl (by simp))).setCell _ (.inl (by simp))).setCell _ (.inl (by simp))
 exact⟨b,a',c',rfl,(((hz.set 0 _).set 1 _).set 2 _).set 3 _,hr.yC hc (fun x hx=>by simpa using hne x hx),fun x hx=>⟨hne x hx,hge x hx⟩,hb,zI.below bw hc (fun x hx=>by simp at hx;omega)⟩
theorem UQ.bel {W wx:World}{S nc:Nat}{lk:Int}{cs:List Int}{s:Value}(h:UQ W S nc lk cs s wx):Below S W wx:=by
 obtain⟨_,_,_,_,_,_,_,_,h⟩:=h;exact h
theorem zO.zero {w:World}{b:Nat}(hb:b<w.heap.size):zO w (some ⟨b,0,none⟩) 0 []:=⟨by simp,by simp,.inr ⟨b,0,rfl,hb,fun j hj=>by omega,fun j v hj=>by simp[zr] at hj⟩⟩
theorem Own.CX {w0 w w':World}{As:List zy}(h:Own w0 w As)(hb:Below w.heap.size w w'){A B:zy}{F G:List Nat}(hA:A.at_ w' F)(hB:B.at_ w' G)(hF:∀x∈F,w.heap.size≤x)(hG:∀x∈G,w.heap.size≤x)(hFG:∀x∈F,x∉G):Own w0 w' (A::B::As):=by
 obtain⟨h1,F2,h2,h3⟩:=h;refine⟨zA h1 hb,F++(G++F2),⟨F,G++F2,rfl,hA,fun x hx hc=>?_,G,F2,rfl,hB,fun x hx hc=>?_,h2.yC (zI.zK (F:=[]) hb) (fun _ _=>by simp)⟩,fun x hx=>?_⟩
 ·rcases List.mem_append.1 hc with hc|hc
  ·exact hFG x hx hc
  ·have:=h2.lt x hc;have:=hF x hx;omega
 ·have:=h2.lt x hc;have:=hG x hx;omega
 ·rcases List.mem_append.1 hx with h|h
  ·exact Nat.le_trans h1.size (hF x h)
  ·rcases List.mem_append.1 h with h|h
   ·exact Nat.le_trans h1.size (hG x h)
   ·exact h3 x h
theorem K8 {w:World}{b:Nat}{fa:Option Addr}{nf fc:Nat}{ca:Option Addr}{nc cc:Nat}{lk:Int}{ka:Option Addr}{nk kc:Nat}(h:zF w b [.slice fa nf fc,.slice ca nc cc,.int .i64 lk,.slice ka nk kc]):(loadVar 65 ⟨b,0,none⟩).run Tryz.prog w=.ok (.agg #[.slice fa nf fc,.slice ca nc cc,.int .i64 lk,.slice ka nk kc]) w:=by
 have e0:=(h 0 _ rfl).1
 have e1:=(h 1 _ rfl).1
 have e2:=(h 2 _ rfl).1
 have e3:=(h 3 _ rfl).1
 simp[go_sem,e0,e1,e2,e3]
theorem KZ {s:Nat}{w:World}{base n:Nat}{e:TypeId}{a:Option Addr}{c:Nat}{cs:List Value}(h:w.ownsRow base e s (.slice a n c) n cs):a=none→c=0:=by
 obtain⟨a',c',e,hr,-⟩:=zU.xO h;simp only[Value.slice.injEq] at e;obtain⟨rfl,-,rfl⟩:=e;exact hr.DN
theorem Kp (fa:Option Addr)(fc:Nat)(ca:Option Addr)(cc:Nat)(ka:Option Addr)(kc:Nat)(d:PD)(w:World)(hp:FG w fa ca ka d)(hl1:d.fs.length≤2000000)(hl2:∀f∈d.fs,f.length≤2000000)(hl3:d.cs.length≤2000000)(hl4:d.ks.length≤2000000) :
  Calls Tryz.prog 13 #[pv fa d.fs.length fc ca d.cs.length cc d.lk ka d.ks.length kc] w
   fun e w'=>∃fa' fc' ca' cc' ka' kc',e=.returned (pv fa' d.fs.length fc' ca' d.cs.length cc' d.lk ka' d.ks.length kc')∧FG w' fa' ca' ka' d∧Below w.heap.size w w'∧(ka'=none→kc'=0):=by
 obtain⟨fs,cs,lk,ks⟩:=d;obtain⟨hf,hc,hk⟩:=hp;simp only at hf hc hk hl1 hl2 hl3 hl4 ⊢
 obtain⟨nf,hnf⟩:∃n,fs.length=n:=⟨_,rfl⟩
 obtain⟨nc,hn⟩:∃n,cs.length=n:=⟨_,rfl⟩
 obtain⟨nk,hm⟩:∃n,ks.length=n:=⟨_,rfl⟩
 rw[hnf] at hl1;rw[hn] at hl3;rw[hm] at hl4;have hgoal:∀fa' fc' ca' cc' ka' kc' (w':World),VM w' fa' fs→yR w' ca' cs→Z4 w' ka' ks→Below w.heap.size w w'→(ka'=none→kc'=0)→∃fa2 fc2 ca2 cc2 ka2 kc2,Ending.returned (pv fa' nf fc' ca' nc cc' lk ka' nk kc')=.returned (pv fa2 nf fc2 ca2 nc cc2 lk ka2 nk kc2)∧FG w' fa2 ca2 ka2 ⟨fs,cs,lk,ks⟩∧Below w.heap.size w w'∧(ka2=none→kc2=0) :=
  fun fa' fc' ca' cc' ka' kc' w' h1 h2 h3 h4 h5=>⟨fa',fc',ca',cc',ka',kc',rfl,⟨h1,h2,h3⟩,h4,h5⟩
 rw[hnf,hn,hm];have HG:=Qq hgoal;unfold pv at *;obtain⟨i0,hi0,hz0,hz1,hz2⟩:=info_parts OT;have Hi:=Qq hi0;clear hi0
 have Hz0:=Qq hz0;clear hz0
 have Hz1:=Qq hz1;clear hz1
 have Hz2:=Qq hz2;clear hz2
 have HNF:=Qq hnf;have HN:=Qq hn;have HM:=Qq hm;have HL2:=Qq hl2;have HF:=Qq hf;have HC:=Qq hc;have HK:=Qq hk;obtain⟨s0,hs0⟩:∃s0,s0=w.heap.size:=⟨_,rfl⟩
 have HW:=Qq hs0;have hO:Own w ((w.alloc (.cells #[.slice fa nf fc,.slice ca nc cc,.int .i64 lk,.slice ka nk kc] 26)).alloc (.cells #[.slice none 0 0,.slice none 0 0,.int .i64 0,.slice none 0 0] 65)) [zf (s0+1) [.slice none 0 0,.slice none 0 0,.int .i64 0,.slice none 0 0],zf s0 [.slice fa nf fc,.slice ca nc cc,.int .i64 lk,.slice ka nk kc]] :=
  ((Own.nil (Below.refl _ _)).alloc [.slice fa nf fc,.slice ca nc cc,.int .i64 lk,.slice ka nk kc] _ hs0).alloc [.slice none 0 0,.slice none 0 0,.int .i64 0,.slice none 0 0] _ (by simp[hs0])
 have HO:=Qq hO;clear hO hf hc hk hnf hn hm hl2 hgoal;go_enter Tryz.func13,Tryz.ntmps13
 go_upto_region 1 with fail
 rw[←hs0];clear hs0;generalize ((w.alloc (.cells #[.slice fa nf fc,.slice ca nc cc,.int .i64 lk,.slice ka nk kc] 26)).alloc (.cells #[.slice none 0 0,.slice none 0 0,.int .i64 0,.slice none 0 0] 65))=W at *
 obtain⟨p1,-⟩:=HO.out.zo 1 rfl 1 _ rfl;obtain⟨p2,-⟩:=HO.out.zo 1 rfl 2 _ rfl;have h47:nc≤1000000000:=by omega
 obtain⟨S,hS⟩:∃S,S=W.heap.size:=⟨_,rfl⟩
 go_cut [3] (fun s wx=>UQ W S nc lk cs s wx)
 ·have hci:∀wx,Below W.heap.size W wx→yR wx ca cs:=fun wx hb=>HC.out.below (zA HO.out.bel hb)
  have HCI:=Qq hci;clear hci;have hpp:∀wx,Below W.heap.size W wx→wx.cell? ⟨s0,1,none⟩=some (.slice ca nc cc)∧wx.cell? ⟨s0,2,none⟩=some (.int .i64 lk):=fun wx hb=>⟨zj p1 hb,zj p2 hb⟩
  have HPP:=Qq hpp;have hsl:s0<W.heap.size:=World.block_lt_of_cell? W _ p1
  clear hpp;refine yd (fun wx=>wx.cell? ⟨s0,1,none⟩=some (.slice ca nc cc)∧wx.cell? ⟨s0,2,none⟩=some (.int .i64 lk)) 9 (Array.replicate 9 false) (by kernel_rfl) (by kernel_rfl) ?_
  refine zq 1 2 _ (Qj 9 6) 7 (by kernel_rfl) za (HPP.out _ (zg W)) (by kernel_rfl) ?_
  simp only[QX,QV,QQ,QJ];(repeat((first|refine Qx (h:=?_)|refine Qv (h:=?_));simp only[Act.put,QW,QY,QZ]));refine zb ?_;refine zq 4 2 _ (Qj 9 54) 5 (by kernel_rfl) za (HPP.out _ (zg W)) (by kernel_rfl) ?_
  simp only[QX,QV,QQ,QJ];(repeat((first|refine Qx (h:=?_)|refine Qv (h:=?_));simp only[Act.put,QW,QY,QZ]));refine zb ?_;refine yJ 0 7 _ (Qj 9 55) (Qj 9 182) 4 (by kernel_rfl) (fun K hK=>?_) (fun K hK=>?_)
  ·have HKK:=Qq hK
   clear hK;simp only[QJ];refine zc (by rfl) ?_;go_simp;refine HKK.out _ _ (HPP.out _ (by repeat(first|exact Below.refl _ _|refine Below.drew ?_|refine below_drewN ?_ _|refine Below.alloc ?_ (by first|(simp;done)|(simp;omega)) _))) ?_
   clear HKK K;refine yJ 3 7 _ (Qj 9 63) (Qj 9 183) 3 (by kernel_rfl) (fun K hK=>?_) (fun K hK=>?_)
   ·have HKK:=Qq hK
    clear hK;simp only[QQ,QJ];refine zc (by rfl) ?_;refine Yw (l:=[]) (m:=cs) _ _ 23 (by rfl) 3 i0 _ Tryz.underlying23 Hi.out Hz0.out Hz1.out Hz2.out rfl (by rfl) (by rfl) (by rfl) HN.out.symm (zO.zero (by first|(simp;done)|(simp;omega))) (HCI.out _ (by repeat(first|exact Below.refl _ _|refine Below.drew ?_|refine below_drewN ?_ _|refine Below.alloc ?_ (by first|(simp;done)|(simp;omega)) _))) (by simpa [HN.out] using h47) ?_
    intro a' c' w3 hr hc hd;have bw:=zI.below (w0:=W) (by repeat(first|exact Below.refl _ _|refine Below.drew ?_|refine below_drewN ?_ _|refine Below.alloc ?_ (by first|(simp;done)|(simp;omega)) _)) hc (by simp[yf])
    have hsz:=bw.size;have h3s:s0<w3.heap.size:=Nat.lt_of_lt_of_le hsl hsz
    have hrr:zO w3 a' c' cs:=hr
    have hge:∀x∈yf a',W.heap.size≤x:=fun x hx=>by have:=hd x hx;simp[yf] at this;omega
    refine HKK.out _ _ (HPP.out _ bw) ?_
    clear HKK K;refine zq 6 1 _ (Qj 9 127) 2 (by kernel_rfl) za (HPP.out _ bw) (by kernel_rfl) ?_
    simp only[QX,QV,QQ,QJ];(repeat((first|refine Qx (h:=?_)|refine Qv (h:=?_));simp only[Act.put,QW,QY,QZ]));refine zb ?_;refine zn 7 _ (Qj 9 255) 1 (by kernel_rfl) (fun K hK=>?_)
    have HKK:=Qq hK;clear hK;simp only[QQ,QJ];refine zc (by rfl) ?_;go_simp;refine HKK.out _ _ (HPP.out _ (zA bw (below_alloc1 _ _))) ?_
    clear HKK K;refine zn 8 _ (Qj 9 511) 0 (by kernel_rfl) (fun K hK=>?_)
    have HKK:=Qq hK;clear hK;simp only[QQ,QJ];refine zc (by rfl) ?_;go_simp;refine HKK.out _ _ (HPP.out _ (zA bw (below_alloc1 _ _))) ?_
    clear HKK K;refine wpAnyH_done (by kernel_rfl) (NoPanic.normal ?_) _
    go_wp2_with fail;go_meet;exact UQ.a hS hrr hge bw
   ·have HKK:=Qq hK
    clear hK;simp only[QQ,QJ];refine zc (by rfl) ?_;go_simp;refine HKK.out _ _ (HPP.out _ (by repeat(first|exact Below.refl _ _|refine Below.drew ?_|refine below_drewN ?_ _|refine Below.alloc ?_ (by first|(simp;done)|(simp;omega)) _))) ?_
    clear HKK K;refine zn 3 _ (Qj 9 191) 2 (by kernel_rfl) (fun K hK=>?_)
    have HKK:=Qq hK;clear hK;simp only[QQ,QJ];refine zc (by rfl) ?_;refine Yw (l:=[]) (m:=cs) _ _ 23 (by rfl) 3 i0 _ Tryz.underlying23 Hi.out Hz0.out Hz1.out Hz2.out rfl (by rfl) (by rfl) (by rfl) HN.out.symm (zO.zero (by first|(simp;done)|(simp;omega))) (HCI.out _ (by repeat(first|exact Below.refl _ _|refine Below.drew ?_|refine below_drewN ?_ _|refine Below.alloc ?_ (by first|(simp;done)|(simp;omega)) _))) (by simpa [HN.out] using h47) ?_
    intro a' c' w3 hr hc hd;have bw:=zI.below (w0:=W) (by repeat(first|exact Below.refl _ _|refine Below.drew ?_|refine below_drewN ?_ _|refine Below.alloc ?_ (by first|(simp;done)|(simp;omega)) _)) hc (by simp[yf])
    have hsz:=bw.size;have h3s:s0<w3.heap.size:=Nat.lt_of_lt_of_le hsl hsz
    have hrr:zO w3 a' c' cs:=hr
    have hge:∀x∈yf a',W.heap.size≤x:=fun x hx=>by have:=hd x hx;simp[yf] at this;omega
    refine HKK.out _ _ (HPP.out _ bw) ?_
    clear HKK K;have hz:zF w3 (W.heap.size+1) [.slice none 0 0,.slice none 0 0,.int .i64 0,.slice none 0 0]:=zF.yC (by first|exact zF.mk _ [.slice none 0 0,.slice none 0 0,.int .i64 0,.slice none 0 0] _ _ (by simp)|exact(zF.mk _ [.slice none 0 0,.slice none 0 0,.int .i64 0,.slice none 0 0] _ _ (by simp)).below (zg _)) hc (by simp[yf])
    obtain⟨y0,z0⟩:=hz 0 _ rfl;obtain⟨y1,z1⟩:=hz 1 _ rfl;obtain⟨y2,z2⟩:=hz 2 _ rfl;obtain⟨y3,z3⟩:=hz 3 _ rfl;have HZ:=Qq hz;clear hz;refine zq 6 1 _ (Qj 9 255) 1 (by kernel_rfl) za (HPP.out _ bw) (by kernel_rfl) ?_
    simp only[QX,QV,QQ,QJ];(repeat((first|refine Qx (h:=?_)|refine Qv (h:=?_));simp only[Act.put,QW,QY,QZ]));refine zb ?_;refine zn 8 _ (Qj 9 511) 0 (by kernel_rfl) (fun K hK=>?_)
    have HKK:=Qq hK;clear hK;simp only[QQ,QJ];refine zc (by rfl) ?_;have hne:∀x∈yf a',x≠W.heap.size+1:=fun x hx=>by have:=hd x hx;simp[yf] at this;omega
    have hfin:=UQ.b (nc:=nc) (lk:=lk) (S:=S) hS HZ.out hrr hge hne (Nat.le_succ _) bw
    have HFin:=Qq hfin;have hwx:=hfin.bel;clear hfin;go_simp;refine HKK.out _ _ (HPP.out _ (hS▸hwx)) ?_
    clear HKK K;refine wpAnyH_done (by kernel_rfl) (NoPanic.normal ?_) _
    go_wp2_with fail;go_meet;exact HFin.out
  ·have HKK:=Qq hK
   clear hK;simp only[QQ,QJ];refine zc (by rfl) ?_;go_simp;refine HKK.out _ _ (HPP.out _ (by repeat(first|exact Below.refl _ _|refine Below.drew ?_|refine below_drewN ?_ _|refine Below.alloc ?_ (by first|(simp;done)|(simp;omega)) _))) ?_
   clear HKK K;refine zn 0 _ (Qj 9 183) 3 (by kernel_rfl) (fun K hK=>?_)
   have HKK:=Qq hK;clear hK;simp only[QJ];refine zc (by rfl) ?_;go_simp;refine HKK.out _ _ (HPP.out _ (by repeat(first|exact Below.refl _ _|refine Below.drew ?_|refine below_drewN ?_ _|refine Below.alloc ?_ (by first|(simp;done)|(simp;omega)) _))) ?_
   clear HKK K;refine zn 3 _ (Qj 9 191) 2 (by kernel_rfl) (fun K hK=>?_)
   have HKK:=Qq hK;clear hK;simp only[QQ,QJ];refine zc (by rfl) ?_;refine Yw (l:=[]) (m:=cs) _ _ 23 (by rfl) 3 i0 _ Tryz.underlying23 Hi.out Hz0.out Hz1.out Hz2.out rfl (by rfl) (by rfl) (by rfl) HN.out.symm (zO.zero (by first|(simp;done)|(simp;omega))) (HCI.out _ (by repeat(first|exact Below.refl _ _|refine Below.drew ?_|refine below_drewN ?_ _|refine Below.alloc ?_ (by first|(simp;done)|(simp;omega)) _))) (by simpa [HN.out] using h47) ?_
   intro a' c' w3 hr hc hd;have bw:=zI.below (w0:=W) (by repeat(first|exact Below.refl _ _|refine Below.drew ?_|refine below_drewN ?_ _|refine Below.alloc ?_ (by first|(simp;done)|(simp;omega)) _)) hc (by simp[yf])
   have hsz:=bw.size;have h3s:s0<w3.heap.size:=Nat.lt_of_lt_of_le hsl hsz
   have hrr:zO w3 a' c' cs:=hr
   have hge:∀x∈yf a',W.heap.size≤x:=fun x hx=>by have:=hd x hx;simp[yf] at this;omega
   refine HKK.out _ _ (HPP.out _ bw) ?_
   clear HKK K;have hz:zF w3 W.heap.size [.slice none 0 0,.slice none 0 0,.int .i64 0,.slice none 0 0]:=zF.yC (by first|exact(zF.mk _ [.slice none 0 0,.slice none 0 0,.int .i64 0,.slice none 0 0] _ _ (by simp)).below (below_alloc1 _ _)|exact((zF.mk _ [.slice none 0 0,.slice none 0 0,.int .i64 0,.slice none 0 0] _ _ (by simp)).below (below_alloc1 _ _)).below (zg _)) hc (by simp[yf])
   obtain⟨y0,z0⟩:=hz 0 _ rfl;obtain⟨y1,z1⟩:=hz 1 _ rfl;obtain⟨y2,z2⟩:=hz 2 _ rfl;obtain⟨y3,z3⟩:=hz 3 _ rfl;have HZ:=Qq hz;clear hz;refine zq 6 1 _ (Qj 9 255) 1 (by kernel_rfl) za (HPP.out _ bw) (by kernel_rfl) ?_
   simp only[QX,QV,QQ,QJ];(repeat((first|refine Qx (h:=?_)|refine Qv (h:=?_));simp only[Act.put,QW,QY,QZ]));refine zb ?_;refine zn 8 _ (Qj 9 511) 0 (by kernel_rfl) (fun K hK=>?_)
   have HKK:=Qq hK;clear hK;simp only[QQ,QJ];refine zc (by rfl) ?_;have hne:∀x∈yf a',x≠W.heap.size:=fun x hx=>by have:=hd x hx;simp[yf] at this;omega
   have hfin:=UQ.b (nc:=nc) (lk:=lk) (S:=S) hS HZ.out hrr hge hne (Nat.le_refl _) bw
   have HFin:=Qq hfin;have hwx:=hfin.bel;clear hfin;go_simp;refine HKK.out _ _ (HPP.out _ (hS▸hwx)) ?_
   clear HKK K;refine wpAnyH_done (by kernel_rfl) (NoPanic.normal ?_) _
   go_wp2_with fail;go_meet;exact HFin.out
 ·obtain⟨B,a',c',rfl,q1,q2,q3,q4,q5⟩:=hcut
  have hO2:Own w wc [zf B [.slice none 0 0,.slice a' nc c',.int .i64 lk,.slice none 0 0],VR a' c' cs,zf (s0+1) [.slice none 0 0,.slice none 0 0,.int .i64 0,.slice none 0 0],zf s0 [.slice fa nf fc,.slice ca nc cc,.int .i64 lk,.slice ka nk kc]] :=
   HO.out.CX (hS▸q5) (F:=[B]) (G:=yf a') ⟨rfl,q1.lt (by simp),q1⟩ ⟨rfl,q2⟩ (fun x hx=>by simp at hx;omega) (fun x hx=>by have:=(q3 x hx).2;omega) (fun x hx hc=>by simp at hx;subst hx;exact(q3 x hc).1 rfl)
  have HO2:Hid (Own w wc [Wg 87 (.slice none 0 0) [] (fs.take 0),zf B [.slice none 0 0,.slice a' nc c',.int .i64 lk,.slice none 0 0],VR a' c' cs,zf (s0+1) [.slice none 0 0,.slice none 0 0,.int .i64 0,.slice none 0 0],zf s0 [.slice fa nf fc,.slice ca nc cc,.int .i64 lk,.slice ka nk kc]]):=Qq (hO2.Ct 87)
  obtain⟨p0,-⟩:=HO2.out.zo 4 rfl 0 _ rfl;clear q1 q2 q3 q4 q5 hO2 p1 p2 HO hS;obtain⟨i1,hi1,hz0,hz1,hz2⟩:=info_parts Ia;have Ii:=Qq hi1;clear hi1
  have Iz0:=Qq hz0;clear hz0
  have Iz1:=Qq hz1;clear hz1
  have Iz2:=Qq hz2;clear hz2
  obtain⟨i2,hi2,hz0,hz1,hz2⟩:=info_parts JZ;have Ji:=Qq hi2;clear hi2
  have Jz0:=Qq hz0;clear hz0
  have Jz1:=Qq hz1;clear hz1
  have Jz2:=Qq hz2;clear hz2
  obtain⟨i3,hi3,hz0,hz1,hz2⟩:=info_parts IB;have Ki:=Qq hi3;clear hi3
  have Kz0:=Qq hz0;clear hz0
  have Kz1:=Qq hz1;clear hz1
  have Kz2:=Qq hz2;clear hz2
  go_wp2_with fail;go_loopw [21] (fun s wr=>∃i a1 c1 vs,i≤nf∧s=.int .i64 ((i:Nat):Int)∧Hid (Own w wr [Wg 87 (.slice a1 i c1) vs (fs.take i),zf B [.slice a1 i c1,.slice a' nc c',.int .i64 lk,.slice none 0 0],VR a' c' cs,zf (s0+1) [.slice none 0 0,.slice none 0 0,.int .i64 0,.slice none 0 0],zf s0 [.slice fa nf fc,.slice ca nc cc,.int .i64 lk,.slice ka nk kc]])) (fun s _=>nf-(intOf s).toNat)
  case atStart=>exact⟨0,none,0,[],by omega,rfl,HO2⟩
  case round =>
   obtain⟨i,a1,c1,vs,hi,rfl,hr⟩:=hrel;by_cases hin:i<nf
   ·have hin':(i:Int)<(nf:Int):=by omega
    have hil:i<fs.length:=by rw[HNF.out];exact hin
    obtain⟨b,off,a2,c2,rfl,d0w,hins⟩:=HF.out i hil;have d0:=zj d0w hr.out.bel;clear d0w;have hfl:=HL2.out fs[i] (List.getElem_mem hil)
    have htake:fs.take (i+1)=fs.take i++[fs[i]]:=List.take_succ_eq_append_getElem hil
    obtain⟨f,hf⟩:∃f,fs[i]=f:=⟨_,rfl⟩
    rw[hf] at d0 hins hfl htake;obtain⟨n,hn⟩:∃n,f.length=n:=⟨_,rfl⟩
    rw[hn] at d0 hfl;have HT:=Qq htake;have HLn:=Qq hn;have HIns:=Qq hins;obtain⟨sr,hsr⟩:∃sr,sr=wr.heap.size:=⟨_,rfl⟩
    have hO3:Own w (wr.alloc (.cells #[] 86)) [Wp 86 4 (.slice (some ⟨sr,0,none⟩) 0 0) 0 (inc (f.take 0)),Wg 87 (.slice a1 i c1) vs (fs.take i),zf B [.slice a1 i c1,.slice a' nc c',.int .i64 lk,.slice none 0 0],VR a' c' cs,zf (s0+1) [.slice none 0 0,.slice none 0 0,.int .i64 0,.slice none 0 0],zf s0 [.slice (some ⟨b,off,none⟩) nf fc,.slice ca nc cc,.int .i64 lk,.slice ka nk kc]]:=hr.out.LF 86 4 hsr
    have HO3:=Qq hO3;have HSR:=Qq hsr;clear hO3 hf htake hn hins hil hsr p0;go_wp2_with fail;rw[←HSR.out];go_loopw [6,28] (fun s6 s28 wx=>∃j a6 c6,j≤n∧s28=.int .i64 ((j:Nat):Int)∧s6=.slice a6 j c6∧Hid (Own w wx [Wp 86 4 (.slice a6 j c6) j (inc (f.take j)),Wg 87 (.slice a1 i c1) vs (fs.take i),zf B [.slice a1 i c1,.slice a' nc c',.int .i64 lk,.slice none 0 0],VR a' c' cs,zf (s0+1) [.slice none 0 0,.slice none 0 0,.int .i64 0,.slice none 0 0],zf s0 [.slice (some ⟨b,off,none⟩) nf fc,.slice ca nc cc,.int .i64 lk,.slice ka nk kc]])) (fun _ s28 _=>n-(intOf s28).toNat)
    case atStart=>exact⟨0,_,_,by omega,rfl,rfl,HO3.out⟩
    case round =>
     obtain⟨j,a6,c6,hj,rfl,rfl,hq⟩:=hrel;by_cases hjn:j<n
     ·have hjn':(j:Int)<(n:Int):=by omega
      have hjl:j<f.length:=by rw[HLn.out];exact hjn
      obtain⟨b2,off2,rfl,e0,e1,e2,e3⟩:=(HIns.out.below hq.out.bel) j hjl
      have htk:inc (f.take (j+1))=inc (f.take j)++inc [f[j]]:=by rw[List.take_succ_eq_append_getElem hjl,ON]
      obtain⟨x,hx⟩:∃x,f[j]=x:=⟨_,rfl⟩
      rw[hx] at e0 e1 e2 e3 htk;obtain⟨o,xa,xb,xc⟩:=x;simp only at e0 e1 e2 e3
      have htk2:inc (f.take (j+1))=inc (f.take j)++[.int .i64 o,.int .i64 xa,.int .i64 xb,.int .i64 xc]:=htk
      have HTK:=Qq htk2;have hO4:=hq.out.step (below_alloc1 wr (.cells #[.int .i64 o,.int .i64 xa,.int .i64 xb,.int .i64 xc] 80))
      have HOWN:Hid (∀q,((wr.alloc (.cells #[.int .i64 o,.int .i64 xa,.int .i64 xb,.int .i64 xc] 80)).alloc q).ownsRow 0 86 4 (.slice a6 j c6) j (inc (f.take j))):=Qq fun q=>(hO4.step (below_alloc1 _ q)).owned 0 rfl
      have HO4:=Qq hO4;clear htk htk2 hx hjl hO4 hq;go_wp2_with (at_builtin;go_loud (refine wpList_append_lies _ rfl _ _ 87 rfl 0 86 i1 _ 4 32 Tryz.underlying87 Ii.out Iz0.out Iz1.out Iz2.out rfl (by decide) _ j (inc (f.take j)) rfl (HOWN.out _) ⟨wr.heap.size+1,0,none⟩ 1 1 [.int .i64 o,.int .i64 xa,.int .i64 xb,.int .i64 xc] rfl rfl (fun j' u hj'=>by rw[Addr.add_lit,Nat.zero_add];exact(zF.mk _ [.int .i64 o,.int .i64 xa,.int .i64 xb,.int .i64 xc] _ _ (by simp) j' u hj').1) (by simp[Value.oneCell']) (by omega) (by unfold maxLen;omega) (by omega) (Nat.zero_le _) (wr.heap.size+1+1) (by simp) ?_))
      intro g9 c9 w2 hown hgr hlies hglt;have hA:=HO4.out.more hown hgr (by simpa using hlies)
      rw[←HTK.out] at hA;have HFin:=Qq hA;clear hA hown hgr hlies hglt;go_wp2_with fail;exact⟨⟨j+1,_,_,by omega,by go_num,rfl,HFin⟩,by simp[intOf];omega⟩
     ·have hjn2:j=n:=by omega
      subst hjn2;have hft:f.take j=f:=List.take_of_length_le (by rw[HLn.out];exact Nat.le_refl _)
      have hli:(fs.take i).length=i:=by rw[List.length_take,HNF.out];omega
      have hq2:=hq.out;rw[hft] at hq2;have hO5:Own w wr [Wg 87 (.slice a1 i c1) vs (fs.take i),Wp 86 4 (.slice a6 j c6) j (inc f),zf B [.slice a1 i c1,.slice a' nc c',.int .i64 lk,.slice none 0 0],VR a' c' cs,zf (s0+1) [.slice none 0 0,.slice none 0 0,.int .i64 0,.slice none 0 0],zf s0 [.slice (some ⟨b,off,none⟩) nf fc,.slice ca nc cc,.int .i64 lk,.slice ka nk kc]]:=hq2.perm (List.Perm.swap _ _ _)
      obtain⟨y0,g0⟩:=hO5.zo 2 rfl 0 _ rfl;have hBlt:B<wr.heap.size:=World.block_lt_of_cell? wr _ y0
      have HOWN:Hid (∀q,(wr.alloc q).ownsRow 0 87 1 (.slice a1 i c1) i vs):=Qq fun q=>by
       have h:=(hO5.step (below_alloc1 _ q)).fun 0 rfl
       rw[hli] at h;exact h
      have HO5:=Qq hO5;have HLI:=Qq hli;clear hft hli hq2 hq hO5;go_wp2_with (at_builtin;go_loud (refine wpList_append_lies _ rfl _ _ 62 rfl 0 87 i2 _ 1 24 Tryz.underlying62 Ji.out Jz0.out Jz1.out Jz2.out rfl (by decide) _ i vs rfl (HOWN.out _) ⟨wr.heap.size,0,none⟩ 1 1 [.slice a6 j c6] rfl rfl (fun j' u hj'=>by rw[Addr.add_lit,Nat.zero_add];exact(zF.mk _ [.slice a6 j c6] _ _ (by simp) j' u hj').1) (by simp[Value.oneCell']) (by omega) (by unfold maxLen;omega) (by omega) (Nat.zero_le _) (wr.heap.size+1) (by simp) ?_))
      intro g9 c9 w2 hown hgr hlies hglt;have hA:=HO5.out.Em HLI.out.symm HLn.out.symm hown hgr (by simpa using hlies)
      rw[←HT.out] at hA;obtain⟨y1,g1⟩:=hA.zo 1 rfl 0 _ rfl;have HFin:=Qq (hA.setAt 1 rfl 0 (.slice (some ⟨g9,0,none⟩) (i+1) c9))
      clear hA hown hgr hlies hglt;go_wp2_with fail;exact⟨⟨i+1,_,_,_,by omega,by go_num,HFin⟩,by simp[intOf];omega⟩
   ·have hin2:i=nf:=by omega
    subst hin2;have hfs:fs.take i=fs:=List.take_of_length_le (by rw[HNF.out];exact Nat.le_refl _)
    have hr2:=hr.out;rw[hfs] at hr2;obtain⟨p3,-⟩:=hr2.zo 4 rfl 3 _ rfl;have HO3:Hid (Own w wr [Wp 129 3 (.slice none 0 0) 0 (ZU (ks.take 0)),Wg 87 (.slice a1 i c1) vs fs,zf B [.slice a1 i c1,.slice a' nc c',.int .i64 lk,.slice none 0 0],VR a' c' cs,zf (s0+1) [.slice none 0 0,.slice none 0 0,.int .i64 0,.slice none 0 0],zf s0 [.slice fa i fc,.slice ca nc cc,.int .i64 lk,.slice ka nk kc]]):=Qq (hr2.T2 129 3)
    clear hr hr2 hfs p0;go_wp2_with fail;go_loopw [55] (fun s wr=>∃j a9 c9,j≤nk∧s=.int .i64 ((j:Nat):Int)∧Hid (Own w wr [Wp 129 3 (.slice a9 j c9) j (ZU (ks.take j)),Wg 87 (.slice a1 i c1) vs fs,zf B [.slice a1 i c1,.slice a' nc c',.int .i64 lk,.slice a9 j c9],VR a' c' cs,zf (s0+1) [.slice none 0 0,.slice none 0 0,.int .i64 0,.slice none 0 0],zf s0 [.slice fa i fc,.slice ca nc cc,.int .i64 lk,.slice ka nk kc]])) (fun s _=>nk-(intOf s).toNat)
    case atStart=>exact⟨0,none,0,by omega,rfl,HO3⟩
    case round =>
     obtain⟨j,a9,c9,hj,rfl,hq⟩:=hrel;by_cases hjn:j<nk
     ·have hjn':(j:Int)<(nk:Int):=by omega
      have hjl:j<ks.length:=by rw[HM.out];exact hjn
      obtain⟨b2,off2,rfl,e0,e1,e2⟩:=(HK.out.below hq.out.bel) j hjl
      have htk:ZU (ks.take (j+1))=ZU (ks.take j)++ZU [ks[j]]:=by rw[List.take_succ_eq_append_getElem hjl,Ou]
      obtain⟨x,hx⟩:∃x,ks[j]=x:=⟨_,rfl⟩
      rw[hx] at e0 e1 e2 htk;obtain⟨xa,xb,xc⟩:=x;simp only at e0 e1 e2
      have htk2:ZU (ks.take (j+1))=ZU (ks.take j)++[.int .i64 xa,.int .i64 xb,.int .i64 xc]:=htk
      have HTK:=Qq htk2;have hO4:=hq.out.step (below_alloc1 wr (.cells #[.int .i64 xa,.int .i64 xb,.int .i64 xc] 128))
      obtain⟨y0,g0⟩:=hq.out.zo 2 rfl 3 _ rfl;have hBlt:B<wr.heap.size:=World.block_lt_of_cell? wr _ y0
      have HOWN:Hid (∀q,((wr.alloc (.cells #[.int .i64 xa,.int .i64 xb,.int .i64 xc] 128)).alloc q).ownsRow 0 129 3 (.slice a9 j c9) j (ZU (ks.take j))):=Qq fun q=>(hO4.step (below_alloc1 _ q)).owned 0 rfl
      have HO4:=Qq hO4;clear htk htk2 hx hjl hO4 hq;go_wp2_with (at_builtin;go_loud (refine wpList_append_lies _ rfl _ _ 63 rfl 0 129 i3 _ 3 24 Tryz.underlying63 Ki.out Kz0.out Kz1.out Kz2.out rfl (by decide) _ j (ZU (ks.take j)) rfl (HOWN.out _) ⟨wr.heap.size+1,0,none⟩ 1 1 [.int .i64 xa,.int .i64 xb,.int .i64 xc] rfl rfl (fun j' u hj'=>by rw[Addr.add_lit,Nat.zero_add];exact(zF.mk _ [.int .i64 xa,.int .i64 xb,.int .i64 xc] _ _ (by simp) j' u hj').1) (by simp[Value.oneCell']) (by omega) (by unfold maxLen;omega) (by omega) (Nat.zero_le _) (wr.heap.size+1+1) (by simp) ?_))
      intro g9 c9' w2 hown hgr hlies hglt;have hA:=HO4.out.more hown hgr (by simpa using hlies)
      rw[←HTK.out] at hA;obtain⟨y1,g1⟩:=hA.zo 2 rfl 3 _ rfl;have HFin:=Qq (hA.setAt 2 rfl 3 (.slice (some ⟨g9,0,none⟩) (j+1) c9'))
      clear hA hown hgr hlies hglt;go_wp2_with fail;exact⟨⟨j+1,_,_,by omega,by go_num,HFin⟩,by simp[intOf];omega⟩
     ·have hjn2:j=nk:=by omega
      subst hjn2;have hks:ks.take j=ks:=List.take_of_length_le (by rw[HM.out];exact Nat.le_refl _)
      have hq2:=hq.out;rw[hks] at hq2;obtain⟨y0,-⟩:=hq2.zo 2 rfl 0 _ rfl;obtain⟨y1,-⟩:=hq2.zo 2 rfl 1 _ rfl;obtain⟨y2,-⟩:=hq2.zo 2 rfl 2 _ rfl;obtain⟨y3,-⟩:=hq2.zo 2 rfl 3 _ rfl;obtain⟨x0,g0⟩:=hq2.zo 4 rfl 0 _ rfl;obtain⟨x1,g1⟩:=hq2.zo 4 rfl 1 _ rfl;obtain⟨x2,g2⟩:=hq2.zo 4 rfl 2 _ rfl;obtain⟨x3,g3⟩:=hq2.zo 4 rfl 3 _ rfl;have hq3:=(((hq2.setAt 4 rfl 0 (.slice a1 i c1)).setAt 4 rfl 1 (.slice a' nc c')).setAt 4 rfl 2 (.int .i64 lk)).setAt 4 rfl 3 (.slice a9 j c9)
      have HQ:=Qq hq3;clear hks hq hq2 hq3 p3;go_wp2_with fail;have e:=K8 (HQ.out.zo 4 rfl)
      exact bodyPost_ret (zu Tryz.results13 _ ⟨s0+1,0,none⟩ rfl e) rfl (HG.out a1 c1 a' c' a9 c9 _ (HQ.out.D0 1 HNF.out.symm rfl) (HQ.out.row 3 rfl).ints (Z4.xO (HQ.out.owned 0 rfl) HM.out.symm) HQ.out.bel (KZ (HQ.out.owned 0 rfl)))
end Go.Proofs.YtlkjheheofgdgaaGreat
open Go Go.RowKit
namespace Go.Proofs.YtlkjheheofgdgaaGreat
def zC (n m:Int):Int:=if m<1 then 0 else(n.tmod m+m).tmod m
theorem VZ (n m:Int)(h:1≤m):-m<n.tmod m∧n.tmod m<m:=by
 constructor
 ·rcases(by omega:n<0∨0≤n) with hn|hn
  ·have h1:=Int.tmod_nonneg m (show 0 ≤ -n by omega)
   have h2:=Int.tmod_lt_of_pos (-n) (show 0<m by omega)
   rw[Int.neg_tmod] at h1 h2;omega
  ·have:=Int.tmod_nonneg m hn;omega
 ·exact Int.tmod_lt_of_pos n (by omega)
theorem zk (n m:Int)(h:1≤m):0≤zC n m∧zC n m<m:=by
 obtain⟨h1,h2⟩:=VZ n m h;unfold zC;rw[if_neg (by omega)]
 exact⟨Int.tmod_nonneg m (by omega),Int.tmod_lt_of_pos _ (by omega)⟩
theorem zx (n m:Int)(w:World)(hm:m≤1000000):Calls Tryz.prog 44 #[.int .i64 n,.int .i64 m] w fun e w'=>e=.returned (.int .i64 (zC n m))∧w'=w:=by
 by_cases h:m<1
 ·have e:zC n m=0:=by unfold zC;rw[if_pos h]
  rw[e];clear e hm;go_enter Tryz.func44,Tryz.ntmps44
  go_wp2_with fail;go_ret;exact⟨rfl,rfl⟩
 ·obtain⟨h1,h2⟩:=VZ n m (by omega)
  have e:zC n m=(n.tmod m+m).tmod m:=by unfold zC;rw[if_neg h]
  obtain⟨h3,h4⟩:=zk n m (by omega)
  rw[e] at h3 h4 ⊢;obtain⟨x,hx⟩:∃x,n.tmod m=x:=⟨_,rfl⟩
  obtain⟨y,hy⟩:∃y,(x+m).tmod m=y:=⟨_,rfl⟩
  rw[hx] at h1 h2 h3 h4 ⊢;rw[hy] at h3 h4 ⊢;have hm0:¬m=0:=by omega
  clear e;go_enter Tryz.func44,Tryz.ntmps44
  go_wp2_with fail;go_ret;exact⟨rfl,rfl⟩
theorem yy {w:World}{b:Nat}{o x y z:Int}(h:zF w b [.int .i64 o,.int .i64 x,.int .i64 y,.int .i64 z]):(loadVar 80 ⟨b,0,none⟩).run Tryz.prog w=.ok (.agg #[.int .i64 o,.int .i64 x,.int .i64 y,.int .i64 z]) w:=by
 have e0:=(h 0 _ rfl).1
 have e1:=(h 1 _ rfl).1
 have e2:=(h 2 _ rfl).1
 have e3:=(h 3 _ rfl).1
 simp[go_sem,e0,e1,e2,e3]
def xd (nf nc nk:Nat)(lk:Int)(n:Nat)(w:World)(e:Ending)(w':World):Prop:=∃x:zS,e=.returned (.agg #[.int .i64 x.1,.int .i64 x.2.1,.int .i64 x.2.2.1,.int .i64 x.2.2.2])∧US nf nc nk lk n x=0∧yh x.2.2.1∧Below w.heap.size w w'
theorem xd.mk {nf nc nk:Nat}{lk:Int}{n:Nat}{w w':World}(o a b c:Int)(h1:US nf nc nk lk n (o,a,b,c)=0)(h2:yh b)(h3:Below w.heap.size w w'):xd nf nc nk lk n w (.returned (.agg #[.int .i64 o,.int .i64 a,.int .i64 b,.int .i64 c])) w':=⟨(o,a,b,c),rfl,h1,h2,h3⟩
theorem zX {nf nc nk:Nat}{lk:Int}{n:Nat}{o a b c:Int}(hb:yh b)(ho:0≤o∧o≤22)(hk:nk≤1000)(h:goodB nf nc nk lk n (o,a,b,c)=some true):US nf nc nk lk n (o,a,b,c)=0:=by
 obtain⟨g,h1,h2⟩:=U9 nf nc nk lk n o a b c hb ho hk;rw[h] at h1;cases h1
 rw[h2];rfl
end Go.Proofs.YtlkjheheofgdgaaGreat
