/-
  Texts put together: WCOwn, WCMod, WCFit0, WCFit1, WCFit2, WCFit3, WCFit4, WCFitA.
-/
import Derived.Test.YtlkjheheofgdgaaGreatLo1
import Derived.Test.YtlkjheheofgdgaaGreatLo7
import Derived.Deep.AppendLies
import Derived.Deep.RegionLawGrows
import Derived.StillTailTactics
set_option maxRecDepth 100000
set_option maxHeartbeats 16000000
set_option linter.unusedSimpArgs false
set_option linter.unusedVariables false
open Go Go.RowKit
namespace Go.Proofs.YtlkjheheofgdgaaGreat
theorem I1:(Tryz.prog.info? 86).map (fun i=>(i.zero,i.size,i.bytes))=some (some (.agg #[.int .i64 0,.int .i64 0,.int .i64 0,.int .i64 0]),4,32):=by kernel_rfl
theorem Jy:(Tryz.prog.info? 129).map (fun i=>(i.zero,i.size,i.bytes))=some (some (.agg #[.int .i64 0,.int .i64 0,.int .i64 0]),3,24):=by kernel_rfl
theorem JO:(Tryz.prog.info? 87).map (fun i=>(i.zero,i.size,i.bytes))=some (some (.slice none 0 0),1,24):=by kernel_rfl
theorem Oj:(Tryz.prog.info? 3).map (fun i=>(i.zero,i.size,i.bytes))=some (some (.int .i64 0),1,8):=by kernel_rfl
theorem Yp {P:Program}{w:World}{o:Oper}{ac:Act}{K:Act→World→Prop}{Q:Exit→Act→World→Prop}(sl x:Operand)(t:TypeId)
  (ho:o.op=.call { callee:=.builtin .append,args:=#[sl,x],argTypes:=#[t,t] }) (e:TypeId) (i:TypeInfo) (z:Value) (ht:P.underlying t=some (.slice e)) (hi:P.info? e=some i) (hz:i.zero=some z) (hsize:i.size=1) (hby:i.bytes=8) (hzs:z.cells.size=1)
  {a b:Option Addr} {cap c n k:Nat} {l m:List Int} (hs:ac.eval sl=.slice a n cap) (hx:ac.eval x=.slice b k c) (hn:n=l.length) (hk:k=m.length) (ha:zN w a cap l) (hb:yT w b m) (h47:l.length+m.length≤1000000000)
  (h:∀a' cap' w',zN w' a' cap' (l++m)→zK (zY a) w w'→(∀x∈zY a',x∈zY a∨w.heap.size≤x)→K (ac.put o.dst (.slice a' (n+k) cap')) w'):Oper.wp P o ac w K Q:=by
 subst hn hk;obtain⟨a',cap',w',hr,h2,h3,h4⟩:=XU (P:=P) (w:=w) t o.type e i z ht hi hz hsize hby hzs ha (c:=c) hb h47
 unfold Oper.wp execOp;simp only[ho,resolve,invoke,builtin,Sem.run_bind,Sem.run_pure,Result.andThen_ok,List.map_toArray,List.map_cons,List.map_nil,hs,hx,hr];exact h a' cap' w' h2 h3 h4
def UM (W:World)(S nc:Nat)(lk:Int)(cs:List Int)(s:Value)(wx:World):Prop:=∃B a' c',s=.pointer (some ⟨B,0,none⟩)∧zH wx B [.slice none 0 0,.slice a' nc c',.int .i64 lk,.slice none 0 0]∧zN wx a' c' cs∧(∀x∈zY a',x≠B∧S≤x)∧S≤B∧Below S W wx
theorem UM.a {W w3:World}{S nc:Nat}{lk:Int}{cs:List Int}(hS:S=W.heap.size){a':Option Addr}{c':Nat}{t:TypeId}(hr:zN w3 a' c' cs)(hge:∀x∈zY a',W.heap.size≤x)(bw:Below W.heap.size W w3) :
  UM W S nc lk cs (.pointer (some ⟨w3.heap.size,0,none⟩)) (w3.alloc (.cells #[.slice none 0 0,.slice a' nc c',.int .i64 lk,.slice none 0 0] t)):=by
 subst hS;exact⟨_,a',c',rfl,zH.mk w3 [.slice none 0 0,.slice a' nc c',.int .i64 lk,.slice none 0 0] t _ rfl,hr.below (below_alloc1 _ _),fun x hx=>⟨by have:=hr.lt x hx;omega,hge x hx⟩,bw.size,zB bw (below_alloc1 _ _)⟩
theorem UM.b {W w3:World}{S nc b:Nat}{lk:Int}{cs:List Int}(hS:S=W.heap.size){a':Option Addr}{c':Nat}(hz:zH w3 b [.slice none 0 0,.slice none 0 0,.int .i64 0,.slice none 0 0])(hr:zN w3 a' c' cs)(hge:∀x∈zY a',W.heap.size≤x)(hne:∀x∈zY a',x≠b)(hb:W.heap.size≤b)(bw:Below W.heap.size W w3) :
  UM W S nc lk cs (.pointer (some ⟨b,0,none⟩)) ((((w3.setCell ⟨b,0,none⟩ (.slice none 0 0)).setCell ⟨b,1,none⟩ (.slice a' nc c')).setCell ⟨b,2,none⟩ (.int .i64 lk)).setCell ⟨b,3,none⟩ (.slice none 0 0)):=by
 subst hS;have hc:zK [b] w3 ((((w3.setCell ⟨b,0,none⟩ (.slice none 0 0)).setCell ⟨b,1,none⟩ (.slice a' nc c')).setCell ⟨b,2,none⟩ (.int .i64 lk)).setCell ⟨b,3,none⟩ (.slice none 0 0)):=((((zK.refl [b] w3).setCell _ (.inl (by simp))).setCell _ (.inl (by simp))).setCell _ (.inl (by simp))).setCell _ (.inl (by simp))
 exact⟨b,a',c',rfl,(((hz.set 0 _).set 1 _).set 2 _).set 3 _,hr.yE hc (fun x hx=>by simpa using hne x hx),fun x hx=>⟨hne x hx,hge x hx⟩,hb,zK.below bw hc (fun x hx=>by simp at hx;omega)⟩
theorem UM.bel {W wx:World}{S nc:Nat}{lk:Int}{cs:List Int}{s:Value}(h:UM W S nc lk cs s wx):Below S W wx:=by
 obtain⟨_,_,_,_,_,_,_,_,h⟩:=h;exact h
theorem zN.zero {w:World}{b:Nat}(hb:b<w.heap.size):zN w (some ⟨b,0,none⟩) 0 []:=⟨by simp,by simp,.inr ⟨b,0,rfl,hb,fun j hj=>by omega,fun j v hj=>by simp[zt] at hj⟩⟩
theorem Own.Dc {w0 w w':World}{As:List zv}(h:Own w0 w As)(hb:Below w.heap.size w w'){A B:zv}{F G:List Nat}(hA:A.at_ w' F)(hB:B.at_ w' G)(hF:∀x∈F,w.heap.size≤x)(hG:∀x∈G,w.heap.size≤x)(hFG:∀x∈F,x∉G):Own w0 w' (A::B::As):=by
 obtain⟨h1,F2,h2,h3⟩:=h;refine⟨zB h1 hb,F++(G++F2),⟨F,G++F2,rfl,hA,fun x hx hc=>?_,G,F2,rfl,hB,fun x hx hc=>?_,h2.yE (zK.zO (F:=[]) hb) (fun _ _=>by simp)⟩,fun x hx=>?_⟩
 ·rcases List.mem_append.1 hc with hc|hc
  ·exact hFG x hx hc
  ·have:=h2.lt x hc;have:=hF x hx;omega
 ·have:=h2.lt x hc;have:=hG x hx;omega
 ·rcases List.mem_append.1 hx with h|h
  ·exact Nat.le_trans h1.size (hF x h)
  ·rcases List.mem_append.1 h with h|h
   ·exact Nat.le_trans h1.size (hG x h)
   ·exact h3 x h
theorem KJ {w:World}{b:Nat}{fa:Option Addr}{nf fc:Nat}{ca:Option Addr}{nc cc:Nat}{lk:Int}{ka:Option Addr}{nk kc:Nat}(h:zH w b [.slice fa nf fc,.slice ca nc cc,.int .i64 lk,.slice ka nk kc]):(loadVar 65 ⟨b,0,none⟩).run Tryz.prog w=.ok (.agg #[.slice fa nf fc,.slice ca nc cc,.int .i64 lk,.slice ka nk kc]) w:=by
 have e0:=(h 0 _ rfl).1
 have e1:=(h 1 _ rfl).1
 have e2:=(h 2 _ rfl).1
 have e3:=(h 3 _ rfl).1
 simp[go_sem,e0,e1,e2,e3]
theorem MX {s:Nat}{w:World}{base n:Nat}{e:TypeId}{a:Option Addr}{c:Nat}{cs:List Value}(h:w.ownsRow base e s (.slice a n c) n cs):a=none→c=0:=by
 obtain⟨a',c',e,hr,-⟩:=zT.xH h;simp only[Value.slice.injEq] at e;obtain⟨rfl,-,rfl⟩:=e;exact hr.Es
theorem Mz (fa:Option Addr)(fc:Nat)(ca:Option Addr)(cc:Nat)(ka:Option Addr)(kc:Nat)(d:PD)(w:World)(hp:JZ w fa ca ka d)(hl1:d.fs.length≤2000000)(hl2:∀f∈d.fs,f.length≤2000000)(hl3:d.cs.length≤2000000)(hl4:d.ks.length≤2000000) :
  Calls Tryz.prog 13 #[pv fa d.fs.length fc ca d.cs.length cc d.lk ka d.ks.length kc] w
   fun e w'=>∃fa' fc' ca' cc' ka' kc',e=.returned (pv fa' d.fs.length fc' ca' d.cs.length cc' d.lk ka' d.ks.length kc')∧JZ w' fa' ca' ka' d∧Below w.heap.size w w'∧(ka'=none→kc'=0):=by
 obtain⟨fs,cs,lk,ks⟩:=d;obtain⟨hf,hc,hk⟩:=hp;simp only at hf hc hk hl1 hl2 hl3 hl4 ⊢
 obtain⟨nf,hnf⟩:∃n,fs.length=n:=⟨_,rfl⟩
 obtain⟨nc,hn⟩:∃n,cs.length=n:=⟨_,rfl⟩
 obtain⟨nk,hm⟩:∃n,ks.length=n:=⟨_,rfl⟩
 rw[hnf] at hl1;rw[hn] at hl3;rw[hm] at hl4;have hgoal:∀fa' fc' ca' cc' ka' kc' (w':World),Ow w' fa' fs→yT w' ca' cs→Yc w' ka' ks→Below w.heap.size w w'→(ka'=none→kc'=0)→∃fa2 fc2 ca2 cc2 ka2 kc2,Ending.returned (pv fa' nf fc' ca' nc cc' lk ka' nk kc')=.returned (pv fa2 nf fc2 ca2 nc cc2 lk ka2 nk kc2)∧JZ w' fa2 ca2 ka2 ⟨fs,cs,lk,ks⟩∧Below w.heap.size w w'∧(ka2=none→kc2=0) :=
  fun fa' fc' ca' cc' ka' kc' w' h1 h2 h3 h4 h5=>⟨fa',fc',ca',cc',ka',kc',rfl,⟨h1,h2,h3⟩,h4,h5⟩
 rw[hnf,hn,hm];have HG:=Qq hgoal;unfold pv at *;obtain⟨i0,hi0,hz0,hz1,hz2⟩:=info_parts Oj;have Hi:=Qq hi0;clear hi0
 have Hz0:=Qq hz0;clear hz0
 have Hz1:=Qq hz1;clear hz1
 have Hz2:=Qq hz2;clear hz2
 have HNF:=Qq hnf;have HN:=Qq hn;have HM:=Qq hm;have HL2:=Qq hl2;have HF:=Qq hf;have HC:=Qq hc;have HK:=Qq hk;obtain⟨s0,hs0⟩:∃s0,s0=w.heap.size:=⟨_,rfl⟩
 have HW:=Qq hs0;have hO:Own w ((w.alloc (.cells #[.slice fa nf fc,.slice ca nc cc,.int .i64 lk,.slice ka nk kc] 26)).alloc (.cells #[.slice none 0 0,.slice none 0 0,.int .i64 0,.slice none 0 0] 65)) [ze (s0+1) [.slice none 0 0,.slice none 0 0,.int .i64 0,.slice none 0 0],ze s0 [.slice fa nf fc,.slice ca nc cc,.int .i64 lk,.slice ka nk kc]] :=
  ((Own.nil (Below.refl _ _)).alloc [.slice fa nf fc,.slice ca nc cc,.int .i64 lk,.slice ka nk kc] _ hs0).alloc [.slice none 0 0,.slice none 0 0,.int .i64 0,.slice none 0 0] _ (by simp[hs0])
 have HO:=Qq hO;clear hO hf hc hk hnf hn hm hl2 hgoal;go_enter Tryz.func13,Tryz.ntmps13
 go_upto_region 1 with fail
 rw[←hs0];clear hs0;generalize ((w.alloc (.cells #[.slice fa nf fc,.slice ca nc cc,.int .i64 lk,.slice ka nk kc] 26)).alloc (.cells #[.slice none 0 0,.slice none 0 0,.int .i64 0,.slice none 0 0] 65))=W at *
 obtain⟨p1,-⟩:=HO.out.zi 1 rfl 1 _ rfl;obtain⟨p2,-⟩:=HO.out.zi 1 rfl 2 _ rfl;have h47:nc≤1000000000:=by omega
 obtain⟨S,hS⟩:∃S,S=W.heap.size:=⟨_,rfl⟩
 go_cut [3] (fun s wx=>UM W S nc lk cs s wx)
 ·have hci:∀wx,Below W.heap.size W wx→yT wx ca cs:=fun wx hb=>HC.out.below (zB HO.out.bel hb)
  have HCI:=Qq hci;clear hci;have hpp:∀wx,Below W.heap.size W wx→wx.cell? ⟨s0,1,none⟩=some (.slice ca nc cc)∧wx.cell? ⟨s0,2,none⟩=some (.int .i64 lk):=fun wx hb=>⟨zq p1 hb,zq p2 hb⟩
  have HPP:=Qq hpp;have hsl:s0<W.heap.size:=World.block_lt_of_cell? W _ p1
  clear hpp;refine zV (fun wx=>wx.cell? ⟨s0,1,none⟩=some (.slice ca nc cc)∧wx.cell? ⟨s0,2,none⟩=some (.int .i64 lk)) 9 (Array.replicate 9 false) (by kernel_rfl) (by kernel_rfl) ?_
  refine zm 1 2 _ (Qj 9 6) 7 (by kernel_rfl) za (HPP.out _ (zg W)) (by kernel_rfl) ?_
  simp only[QX,QV,QQ,QJ];(repeat((first|refine Qx (h:=?_)|refine Qv (h:=?_));simp only[Act.put,QW,QY,QZ]));refine zb ?_;refine zm 4 2 _ (Qj 9 54) 5 (by kernel_rfl) za (HPP.out _ (zg W)) (by kernel_rfl) ?_
  simp only[QX,QV,QQ,QJ];(repeat((first|refine Qx (h:=?_)|refine Qv (h:=?_));simp only[Act.put,QW,QY,QZ]));refine zb ?_;refine yz 0 7 _ (Qj 9 55) (Qj 9 182) 4 (by kernel_rfl) (fun K hK=>?_) (fun K hK=>?_)
  ·have HKK:=Qq hK
   clear hK;simp only[QJ];refine zc (by rfl) ?_;go_simp;refine HKK.out _ _ (HPP.out _ (by repeat(first|exact Below.refl _ _|refine Below.drew ?_|refine below_drewN ?_ _|refine Below.alloc ?_ (by first|(simp;done)|(simp;omega)) _))) ?_
   clear HKK K;refine yz 3 7 _ (Qj 9 63) (Qj 9 183) 3 (by kernel_rfl) (fun K hK=>?_) (fun K hK=>?_)
   ·have HKK:=Qq hK
    clear hK;simp only[QQ,QJ];refine zc (by rfl) ?_;refine Yp (l:=[]) (m:=cs) _ _ 23 (by rfl) 3 i0 _ Tryz.underlying23 Hi.out Hz0.out Hz1.out Hz2.out rfl (by rfl) (by rfl) (by rfl) HN.out.symm (zN.zero (by first|(simp;done)|(simp;omega))) (HCI.out _ (by repeat(first|exact Below.refl _ _|refine Below.drew ?_|refine below_drewN ?_ _|refine Below.alloc ?_ (by first|(simp;done)|(simp;omega)) _))) (by simpa [HN.out] using h47) ?_
    intro a' c' w3 hr hc hd;have bw:=zK.below (w0:=W) (by repeat(first|exact Below.refl _ _|refine Below.drew ?_|refine below_drewN ?_ _|refine Below.alloc ?_ (by first|(simp;done)|(simp;omega)) _)) hc (by simp[zY])
    have hsz:=bw.size;have h3s:s0<w3.heap.size:=Nat.lt_of_lt_of_le hsl hsz
    have hrr:zN w3 a' c' cs:=hr
    have hge:∀x∈zY a',W.heap.size≤x:=fun x hx=>by have:=hd x hx;simp[zY] at this;omega
    refine HKK.out _ _ (HPP.out _ bw) ?_
    clear HKK K;refine zm 6 1 _ (Qj 9 127) 2 (by kernel_rfl) za (HPP.out _ bw) (by kernel_rfl) ?_
    simp only[QX,QV,QQ,QJ];(repeat((first|refine Qx (h:=?_)|refine Qv (h:=?_));simp only[Act.put,QW,QY,QZ]));refine zb ?_;refine zh 7 _ (Qj 9 255) 1 (by kernel_rfl) (fun K hK=>?_)
    have HKK:=Qq hK;clear hK;simp only[QQ,QJ];refine zc (by rfl) ?_;go_simp;refine HKK.out _ _ (HPP.out _ (zB bw (below_alloc1 _ _))) ?_
    clear HKK K;refine zh 8 _ (Qj 9 511) 0 (by kernel_rfl) (fun K hK=>?_)
    have HKK:=Qq hK;clear hK;simp only[QQ,QJ];refine zc (by rfl) ?_;go_simp;refine HKK.out _ _ (HPP.out _ (zB bw (below_alloc1 _ _))) ?_
    clear HKK K;refine wpAnyH_done (by kernel_rfl) (NoPanic.normal ?_) _
    go_wp2_with fail;go_meet;exact UM.a hS hrr hge bw
   ·have HKK:=Qq hK
    clear hK;simp only[QQ,QJ];refine zc (by rfl) ?_;go_simp;refine HKK.out _ _ (HPP.out _ (by repeat(first|exact Below.refl _ _|refine Below.drew ?_|refine below_drewN ?_ _|refine Below.alloc ?_ (by first|(simp;done)|(simp;omega)) _))) ?_
    clear HKK K;refine zh 3 _ (Qj 9 191) 2 (by kernel_rfl) (fun K hK=>?_)
    have HKK:=Qq hK;clear hK;simp only[QQ,QJ];refine zc (by rfl) ?_;refine Yp (l:=[]) (m:=cs) _ _ 23 (by rfl) 3 i0 _ Tryz.underlying23 Hi.out Hz0.out Hz1.out Hz2.out rfl (by rfl) (by rfl) (by rfl) HN.out.symm (zN.zero (by first|(simp;done)|(simp;omega))) (HCI.out _ (by repeat(first|exact Below.refl _ _|refine Below.drew ?_|refine below_drewN ?_ _|refine Below.alloc ?_ (by first|(simp;done)|(simp;omega)) _))) (by simpa [HN.out] using h47) ?_
    intro a' c' w3 hr hc hd;have bw:=zK.below (w0:=W) (by repeat(first|exact Below.refl _ _|refine Below.drew ?_|refine below_drewN ?_ _|refine Below.alloc ?_ (by first|(simp;done)|(simp;omega)) _)) hc (by simp[zY])
    have hsz:=bw.size;have h3s:s0<w3.heap.size:=Nat.lt_of_lt_of_le hsl hsz
    have hrr:zN w3 a' c' cs:=hr
    have hge:∀x∈zY a',W.heap.size≤x:=fun x hx=>by have:=hd x hx;simp[zY] at this;omega
    refine HKK.out _ _ (HPP.out _ bw) ?_
    clear HKK K;have hz:zH w3 (W.heap.size+1) [.slice none 0 0,.slice none 0 0,.int .i64 0,.slice none 0 0]:=zH.yE (by first|exact zH.mk _ [.slice none 0 0,.slice none 0 0,.int .i64 0,.slice none 0 0] _ _ (by simp)|exact(zH.mk _ [.slice none 0 0,.slice none 0 0,.int .i64 0,.slice none 0 0] _ _ (by simp)).below (zg _)) hc (by simp[zY])
    obtain⟨y0,z0⟩:=hz 0 _ rfl;obtain⟨y1,z1⟩:=hz 1 _ rfl;obtain⟨y2,z2⟩:=hz 2 _ rfl;obtain⟨y3,z3⟩:=hz 3 _ rfl;have HZ:=Qq hz;clear hz;refine zm 6 1 _ (Qj 9 255) 1 (by kernel_rfl) za (HPP.out _ bw) (by kernel_rfl) ?_
    simp only[QX,QV,QQ,QJ];(repeat((first|refine Qx (h:=?_)|refine Qv (h:=?_));simp only[Act.put,QW,QY,QZ]));refine zb ?_;refine zh 8 _ (Qj 9 511) 0 (by kernel_rfl) (fun K hK=>?_)
    have HKK:=Qq hK;clear hK;simp only[QQ,QJ];refine zc (by rfl) ?_;have hne:∀x∈zY a',x≠W.heap.size+1:=fun x hx=>by have:=hd x hx;simp[zY] at this;omega
    have hfin:=UM.b (nc:=nc) (lk:=lk) (S:=S) hS HZ.out hrr hge hne (Nat.le_succ _) bw
    have HFin:=Qq hfin;have hwx:=hfin.bel;clear hfin;go_simp;refine HKK.out _ _ (HPP.out _ (hS▸hwx)) ?_
    clear HKK K;refine wpAnyH_done (by kernel_rfl) (NoPanic.normal ?_) _
    go_wp2_with fail;go_meet;exact HFin.out
  ·have HKK:=Qq hK
   clear hK;simp only[QQ,QJ];refine zc (by rfl) ?_;go_simp;refine HKK.out _ _ (HPP.out _ (by repeat(first|exact Below.refl _ _|refine Below.drew ?_|refine below_drewN ?_ _|refine Below.alloc ?_ (by first|(simp;done)|(simp;omega)) _))) ?_
   clear HKK K;refine zh 0 _ (Qj 9 183) 3 (by kernel_rfl) (fun K hK=>?_)
   have HKK:=Qq hK;clear hK;simp only[QJ];refine zc (by rfl) ?_;go_simp;refine HKK.out _ _ (HPP.out _ (by repeat(first|exact Below.refl _ _|refine Below.drew ?_|refine below_drewN ?_ _|refine Below.alloc ?_ (by first|(simp;done)|(simp;omega)) _))) ?_
   clear HKK K;refine zh 3 _ (Qj 9 191) 2 (by kernel_rfl) (fun K hK=>?_)
   have HKK:=Qq hK;clear hK;simp only[QQ,QJ];refine zc (by rfl) ?_;refine Yp (l:=[]) (m:=cs) _ _ 23 (by rfl) 3 i0 _ Tryz.underlying23 Hi.out Hz0.out Hz1.out Hz2.out rfl (by rfl) (by rfl) (by rfl) HN.out.symm (zN.zero (by first|(simp;done)|(simp;omega))) (HCI.out _ (by repeat(first|exact Below.refl _ _|refine Below.drew ?_|refine below_drewN ?_ _|refine Below.alloc ?_ (by first|(simp;done)|(simp;omega)) _))) (by simpa [HN.out] using h47) ?_
   intro a' c' w3 hr hc hd;have bw:=zK.below (w0:=W) (by repeat(first|exact Below.refl _ _|refine Below.drew ?_|refine below_drewN ?_ _|refine Below.alloc ?_ (by first|(simp;done)|(simp;omega)) _)) hc (by simp[zY])
   have hsz:=bw.size;have h3s:s0<w3.heap.size:=Nat.lt_of_lt_of_le hsl hsz
   have hrr:zN w3 a' c' cs:=hr
   have hge:∀x∈zY a',W.heap.size≤x:=fun x hx=>by have:=hd x hx;simp[zY] at this;omega
   refine HKK.out _ _ (HPP.out _ bw) ?_
   clear HKK K;have hz:zH w3 W.heap.size [.slice none 0 0,.slice none 0 0,.int .i64 0,.slice none 0 0]:=zH.yE (by first|exact(zH.mk _ [.slice none 0 0,.slice none 0 0,.int .i64 0,.slice none 0 0] _ _ (by simp)).below (below_alloc1 _ _)|exact((zH.mk _ [.slice none 0 0,.slice none 0 0,.int .i64 0,.slice none 0 0] _ _ (by simp)).below (below_alloc1 _ _)).below (zg _)) hc (by simp[zY])
   obtain⟨y0,z0⟩:=hz 0 _ rfl;obtain⟨y1,z1⟩:=hz 1 _ rfl;obtain⟨y2,z2⟩:=hz 2 _ rfl;obtain⟨y3,z3⟩:=hz 3 _ rfl;have HZ:=Qq hz;clear hz;refine zm 6 1 _ (Qj 9 255) 1 (by kernel_rfl) za (HPP.out _ bw) (by kernel_rfl) ?_
   simp only[QX,QV,QQ,QJ];(repeat((first|refine Qx (h:=?_)|refine Qv (h:=?_));simp only[Act.put,QW,QY,QZ]));refine zb ?_;refine zh 8 _ (Qj 9 511) 0 (by kernel_rfl) (fun K hK=>?_)
   have HKK:=Qq hK;clear hK;simp only[QQ,QJ];refine zc (by rfl) ?_;have hne:∀x∈zY a',x≠W.heap.size:=fun x hx=>by have:=hd x hx;simp[zY] at this;omega
   have hfin:=UM.b (nc:=nc) (lk:=lk) (S:=S) hS HZ.out hrr hge hne (Nat.le_refl _) bw
   have HFin:=Qq hfin;have hwx:=hfin.bel;clear hfin;go_simp;refine HKK.out _ _ (HPP.out _ (hS▸hwx)) ?_
   clear HKK K;refine wpAnyH_done (by kernel_rfl) (NoPanic.normal ?_) _
   go_wp2_with fail;go_meet;exact HFin.out
 ·obtain⟨B,a',c',rfl,q1,q2,q3,q4,q5⟩:=hcut
  have hO2:Own w wc [ze B [.slice none 0 0,.slice a' nc c',.int .i64 lk,.slice none 0 0],Y3 a' c' cs,ze (s0+1) [.slice none 0 0,.slice none 0 0,.int .i64 0,.slice none 0 0],ze s0 [.slice fa nf fc,.slice ca nc cc,.int .i64 lk,.slice ka nk kc]] :=
   HO.out.Dc (hS▸q5) (F:=[B]) (G:=zY a') ⟨rfl,q1.lt (by simp),q1⟩ ⟨rfl,q2⟩ (fun x hx=>by simp at hx;omega) (fun x hx=>by have:=(q3 x hx).2;omega) (fun x hx hc=>by simp at hx;subst hx;exact(q3 x hc).1 rfl)
  have HO2:Hid (Own w wc [Wv 87 (.slice none 0 0) [] (fs.take 0),ze B [.slice none 0 0,.slice a' nc c',.int .i64 lk,.slice none 0 0],Y3 a' c' cs,ze (s0+1) [.slice none 0 0,.slice none 0 0,.int .i64 0,.slice none 0 0],ze s0 [.slice fa nf fc,.slice ca nc cc,.int .i64 lk,.slice ka nk kc]]):=Qq (hO2.Ea 87)
  obtain⟨p0,-⟩:=HO2.out.zi 4 rfl 0 _ rfl;clear q1 q2 q3 q4 q5 hO2 p1 p2 HO hS;obtain⟨i1,hi1,hz0,hz1,hz2⟩:=info_parts I1;have Ii:=Qq hi1;clear hi1
  have Iz0:=Qq hz0;clear hz0
  have Iz1:=Qq hz1;clear hz1
  have Iz2:=Qq hz2;clear hz2
  obtain⟨i2,hi2,hz0,hz1,hz2⟩:=info_parts JO;have Ji:=Qq hi2;clear hi2
  have Jz0:=Qq hz0;clear hz0
  have Jz1:=Qq hz1;clear hz1
  have Jz2:=Qq hz2;clear hz2
  obtain⟨i3,hi3,hz0,hz1,hz2⟩:=info_parts Jy;have Ki:=Qq hi3;clear hi3
  have Kz0:=Qq hz0;clear hz0
  have Kz1:=Qq hz1;clear hz1
  have Kz2:=Qq hz2;clear hz2
  go_wp2_with fail;go_loopw [21] (fun s wr=>∃i a1 c1 vs,i≤nf∧s=.int .i64 ((i:Nat):Int)∧Hid (Own w wr [Wv 87 (.slice a1 i c1) vs (fs.take i),ze B [.slice a1 i c1,.slice a' nc c',.int .i64 lk,.slice none 0 0],Y3 a' c' cs,ze (s0+1) [.slice none 0 0,.slice none 0 0,.int .i64 0,.slice none 0 0],ze s0 [.slice fa nf fc,.slice ca nc cc,.int .i64 lk,.slice ka nk kc]])) (fun s _=>nf-(intOf s).toNat)
  case atStart=>exact⟨0,none,0,[],by omega,rfl,HO2⟩
  case round =>
   obtain⟨i,a1,c1,vs,hi,rfl,hr⟩:=hrel;by_cases hin:i<nf
   ·have hin':(i:Int)<(nf:Int):=by omega
    have hil:i<fs.length:=by rw[HNF.out];exact hin
    obtain⟨b,off,a2,c2,rfl,d0w,hins⟩:=HF.out i hil;have d0:=zq d0w hr.out.bel;clear d0w;have hfl:=HL2.out fs[i] (List.getElem_mem hil)
    have htake:fs.take (i+1)=fs.take i++[fs[i]]:=List.take_succ_eq_append_getElem hil
    obtain⟨f,hf⟩:∃f,fs[i]=f:=⟨_,rfl⟩
    rw[hf] at d0 hins hfl htake;obtain⟨n,hn⟩:∃n,f.length=n:=⟨_,rfl⟩
    rw[hn] at d0 hfl;have HT:=Qq htake;have HLn:=Qq hn;have HIns:=Qq hins;obtain⟨sr,hsr⟩:∃sr,sr=wr.heap.size:=⟨_,rfl⟩
    have hO3:Own w (wr.alloc (.cells #[] 86)) [WH 86 4 (.slice (some ⟨sr,0,none⟩) 0 0) 0 (inc (f.take 0)),Wv 87 (.slice a1 i c1) vs (fs.take i),ze B [.slice a1 i c1,.slice a' nc c',.int .i64 lk,.slice none 0 0],Y3 a' c' cs,ze (s0+1) [.slice none 0 0,.slice none 0 0,.int .i64 0,.slice none 0 0],ze s0 [.slice (some ⟨b,off,none⟩) nf fc,.slice ca nc cc,.int .i64 lk,.slice ka nk kc]]:=hr.out.La 86 4 hsr
    have HO3:=Qq hO3;have HSR:=Qq hsr;clear hO3 hf htake hn hins hil hsr p0;go_wp2_with fail;rw[←HSR.out];go_loopw [6,28] (fun s6 s28 wx=>∃j a6 c6,j≤n∧s28=.int .i64 ((j:Nat):Int)∧s6=.slice a6 j c6∧Hid (Own w wx [WH 86 4 (.slice a6 j c6) j (inc (f.take j)),Wv 87 (.slice a1 i c1) vs (fs.take i),ze B [.slice a1 i c1,.slice a' nc c',.int .i64 lk,.slice none 0 0],Y3 a' c' cs,ze (s0+1) [.slice none 0 0,.slice none 0 0,.int .i64 0,.slice none 0 0],ze s0 [.slice (some ⟨b,off,none⟩) nf fc,.slice ca nc cc,.int .i64 lk,.slice ka nk kc]])) (fun _ s28 _=>n-(intOf s28).toNat)
    case atStart=>exact⟨0,_,_,by omega,rfl,rfl,HO3.out⟩
    case round =>
     obtain⟨j,a6,c6,hj,rfl,rfl,hq⟩:=hrel;by_cases hjn:j<n
     ·have hjn':(j:Int)<(n:Int):=by omega
      have hjl:j<f.length:=by rw[HLn.out];exact hjn
      obtain⟨b2,off2,rfl,e0,e1,e2,e3⟩:=(HIns.out.below hq.out.bel) j hjl
      have htk:inc (f.take (j+1))=inc (f.take j)++inc [f[j]]:=by rw[List.take_succ_eq_append_getElem hjl,OA]
      obtain⟨x,hx⟩:∃x,f[j]=x:=⟨_,rfl⟩
      rw[hx] at e0 e1 e2 e3 htk;obtain⟨o,xa,xb,xc⟩:=x;simp only at e0 e1 e2 e3
      have htk2:inc (f.take (j+1))=inc (f.take j)++[.int .i64 o,.int .i64 xa,.int .i64 xb,.int .i64 xc]:=htk
      have HTK:=Qq htk2;have hO4:=hq.out.step (below_alloc1 wr (.cells #[.int .i64 o,.int .i64 xa,.int .i64 xb,.int .i64 xc] 80))
      have HOWN:Hid (∀q,((wr.alloc (.cells #[.int .i64 o,.int .i64 xa,.int .i64 xb,.int .i64 xc] 80)).alloc q).ownsRow 0 86 4 (.slice a6 j c6) j (inc (f.take j))):=Qq fun q=>(hO4.step (below_alloc1 _ q)).owned 0 rfl
      have HO4:=Qq hO4;clear htk htk2 hx hjl hO4 hq;go_wp2_with (at_builtin;go_loud (refine wpList_append_lies _ rfl _ _ 87 rfl 0 86 i1 _ 4 32 Tryz.underlying87 Ii.out Iz0.out Iz1.out Iz2.out rfl (by decide) _ j (inc (f.take j)) rfl (HOWN.out _) ⟨wr.heap.size+1,0,none⟩ 1 1 [.int .i64 o,.int .i64 xa,.int .i64 xb,.int .i64 xc] rfl rfl (fun j' u hj'=>by rw[Addr.add_lit,Nat.zero_add];exact(zH.mk _ [.int .i64 o,.int .i64 xa,.int .i64 xb,.int .i64 xc] _ _ (by simp) j' u hj').1) (by simp[Value.oneCell']) (by omega) (by unfold maxLen;omega) (by omega) (Nat.zero_le _) (wr.heap.size+1+1) (by simp) ?_))
      intro g9 c9 w2 hown hgr hlies hglt;have hA:=HO4.out.more hown hgr (by simpa using hlies)
      rw[←HTK.out] at hA;have HFin:=Qq hA;clear hA hown hgr hlies hglt;go_wp2_with fail;exact⟨⟨j+1,_,_,by omega,by go_num,rfl,HFin⟩,by simp[intOf];omega⟩
     ·have hjn2:j=n:=by omega
      subst hjn2;have hft:f.take j=f:=List.take_of_length_le (by rw[HLn.out];exact Nat.le_refl _)
      have hli:(fs.take i).length=i:=by rw[List.length_take,HNF.out];omega
      have hq2:=hq.out;rw[hft] at hq2;have hO5:Own w wr [Wv 87 (.slice a1 i c1) vs (fs.take i),WH 86 4 (.slice a6 j c6) j (inc f),ze B [.slice a1 i c1,.slice a' nc c',.int .i64 lk,.slice none 0 0],Y3 a' c' cs,ze (s0+1) [.slice none 0 0,.slice none 0 0,.int .i64 0,.slice none 0 0],ze s0 [.slice (some ⟨b,off,none⟩) nf fc,.slice ca nc cc,.int .i64 lk,.slice ka nk kc]]:=hq2.perm (List.Perm.swap _ _ _)
      obtain⟨y0,g0⟩:=hO5.zi 2 rfl 0 _ rfl;have hBlt:B<wr.heap.size:=World.block_lt_of_cell? wr _ y0
      have HOWN:Hid (∀q,(wr.alloc q).ownsRow 0 87 1 (.slice a1 i c1) i vs):=Qq fun q=>by
       have h:=(hO5.step (below_alloc1 _ q)).fun 0 rfl
       rw[hli] at h;exact h
      have HO5:=Qq hO5;have HLI:=Qq hli;clear hft hli hq2 hq hO5;go_wp2_with (at_builtin;go_loud (refine wpList_append_lies _ rfl _ _ 62 rfl 0 87 i2 _ 1 24 Tryz.underlying62 Ji.out Jz0.out Jz1.out Jz2.out rfl (by decide) _ i vs rfl (HOWN.out _) ⟨wr.heap.size,0,none⟩ 1 1 [.slice a6 j c6] rfl rfl (fun j' u hj'=>by rw[Addr.add_lit,Nat.zero_add];exact(zH.mk _ [.slice a6 j c6] _ _ (by simp) j' u hj').1) (by simp[Value.oneCell']) (by omega) (by unfold maxLen;omega) (by omega) (Nat.zero_le _) (wr.heap.size+1) (by simp) ?_))
      intro g9 c9 w2 hown hgr hlies hglt;have hA:=HO5.out.GI HLI.out.symm HLn.out.symm hown hgr (by simpa using hlies)
      rw[←HT.out] at hA;obtain⟨y1,g1⟩:=hA.zi 1 rfl 0 _ rfl;have HFin:=Qq (hA.setAt 1 rfl 0 (.slice (some ⟨g9,0,none⟩) (i+1) c9))
      clear hA hown hgr hlies hglt;go_wp2_with fail;exact⟨⟨i+1,_,_,_,by omega,by go_num,HFin⟩,by simp[intOf];omega⟩
   ·have hin2:i=nf:=by omega
    subst hin2;have hfs:fs.take i=fs:=List.take_of_length_le (by rw[HNF.out];exact Nat.le_refl _)
    have hr2:=hr.out;rw[hfs] at hr2;obtain⟨p3,-⟩:=hr2.zi 4 rfl 3 _ rfl;have HO3:Hid (Own w wr [WH 129 3 (.slice none 0 0) 0 (ZW (ks.take 0)),Wv 87 (.slice a1 i c1) vs fs,ze B [.slice a1 i c1,.slice a' nc c',.int .i64 lk,.slice none 0 0],Y3 a' c' cs,ze (s0+1) [.slice none 0 0,.slice none 0 0,.int .i64 0,.slice none 0 0],ze s0 [.slice fa i fc,.slice ca nc cc,.int .i64 lk,.slice ka nk kc]]):=Qq (hr2.Vc 129 3)
    clear hr hr2 hfs p0;go_wp2_with fail;go_loopw [55] (fun s wr=>∃j a9 c9,j≤nk∧s=.int .i64 ((j:Nat):Int)∧Hid (Own w wr [WH 129 3 (.slice a9 j c9) j (ZW (ks.take j)),Wv 87 (.slice a1 i c1) vs fs,ze B [.slice a1 i c1,.slice a' nc c',.int .i64 lk,.slice a9 j c9],Y3 a' c' cs,ze (s0+1) [.slice none 0 0,.slice none 0 0,.int .i64 0,.slice none 0 0],ze s0 [.slice fa i fc,.slice ca nc cc,.int .i64 lk,.slice ka nk kc]])) (fun s _=>nk-(intOf s).toNat)
    case atStart=>exact⟨0,none,0,by omega,rfl,HO3⟩
    case round =>
     obtain⟨j,a9,c9,hj,rfl,hq⟩:=hrel;by_cases hjn:j<nk
     ·have hjn':(j:Int)<(nk:Int):=by omega
      have hjl:j<ks.length:=by rw[HM.out];exact hjn
      obtain⟨b2,off2,rfl,e0,e1,e2⟩:=(HK.out.below hq.out.bel) j hjl
      have htk:ZW (ks.take (j+1))=ZW (ks.take j)++ZW [ks[j]]:=by rw[List.take_succ_eq_append_getElem hjl,Ok]
      obtain⟨x,hx⟩:∃x,ks[j]=x:=⟨_,rfl⟩
      rw[hx] at e0 e1 e2 htk;obtain⟨xa,xb,xc⟩:=x;simp only at e0 e1 e2
      have htk2:ZW (ks.take (j+1))=ZW (ks.take j)++[.int .i64 xa,.int .i64 xb,.int .i64 xc]:=htk
      have HTK:=Qq htk2;have hO4:=hq.out.step (below_alloc1 wr (.cells #[.int .i64 xa,.int .i64 xb,.int .i64 xc] 128))
      obtain⟨y0,g0⟩:=hq.out.zi 2 rfl 3 _ rfl;have hBlt:B<wr.heap.size:=World.block_lt_of_cell? wr _ y0
      have HOWN:Hid (∀q,((wr.alloc (.cells #[.int .i64 xa,.int .i64 xb,.int .i64 xc] 128)).alloc q).ownsRow 0 129 3 (.slice a9 j c9) j (ZW (ks.take j))):=Qq fun q=>(hO4.step (below_alloc1 _ q)).owned 0 rfl
      have HO4:=Qq hO4;clear htk htk2 hx hjl hO4 hq;go_wp2_with (at_builtin;go_loud (refine wpList_append_lies _ rfl _ _ 63 rfl 0 129 i3 _ 3 24 Tryz.underlying63 Ki.out Kz0.out Kz1.out Kz2.out rfl (by decide) _ j (ZW (ks.take j)) rfl (HOWN.out _) ⟨wr.heap.size+1,0,none⟩ 1 1 [.int .i64 xa,.int .i64 xb,.int .i64 xc] rfl rfl (fun j' u hj'=>by rw[Addr.add_lit,Nat.zero_add];exact(zH.mk _ [.int .i64 xa,.int .i64 xb,.int .i64 xc] _ _ (by simp) j' u hj').1) (by simp[Value.oneCell']) (by omega) (by unfold maxLen;omega) (by omega) (Nat.zero_le _) (wr.heap.size+1+1) (by simp) ?_))
      intro g9 c9' w2 hown hgr hlies hglt;have hA:=HO4.out.more hown hgr (by simpa using hlies)
      rw[←HTK.out] at hA;obtain⟨y1,g1⟩:=hA.zi 2 rfl 3 _ rfl;have HFin:=Qq (hA.setAt 2 rfl 3 (.slice (some ⟨g9,0,none⟩) (j+1) c9'))
      clear hA hown hgr hlies hglt;go_wp2_with fail;exact⟨⟨j+1,_,_,by omega,by go_num,HFin⟩,by simp[intOf];omega⟩
     ·have hjn2:j=nk:=by omega
      subst hjn2;have hks:ks.take j=ks:=List.take_of_length_le (by rw[HM.out];exact Nat.le_refl _)
      have hq2:=hq.out;rw[hks] at hq2;obtain⟨y0,-⟩:=hq2.zi 2 rfl 0 _ rfl;obtain⟨y1,-⟩:=hq2.zi 2 rfl 1 _ rfl;obtain⟨y2,-⟩:=hq2.zi 2 rfl 2 _ rfl;obtain⟨y3,-⟩:=hq2.zi 2 rfl 3 _ rfl;obtain⟨x0,g0⟩:=hq2.zi 4 rfl 0 _ rfl;obtain⟨x1,g1⟩:=hq2.zi 4 rfl 1 _ rfl;obtain⟨x2,g2⟩:=hq2.zi 4 rfl 2 _ rfl;obtain⟨x3,g3⟩:=hq2.zi 4 rfl 3 _ rfl;have hq3:=(((hq2.setAt 4 rfl 0 (.slice a1 i c1)).setAt 4 rfl 1 (.slice a' nc c')).setAt 4 rfl 2 (.int .i64 lk)).setAt 4 rfl 3 (.slice a9 j c9)
      have HQ:=Qq hq3;clear hks hq hq2 hq3 p3;go_wp2_with fail;have e:=KJ (HQ.out.zi 4 rfl)
      exact bodyPost_ret (zu Tryz.results13 _ ⟨s0+1,0,none⟩ rfl e) rfl (HG.out a1 c1 a' c' a9 c9 _ (HQ.out.Ez 1 HNF.out.symm rfl) (HQ.out.row 3 rfl).ints (Yc.xH (HQ.out.owned 0 rfl) HM.out.symm) HQ.out.bel (MX (HQ.out.owned 0 rfl)))
end Go.Proofs.YtlkjheheofgdgaaGreat
open Go Go.RowKit
namespace Go.Proofs.YtlkjheheofgdgaaGreat
def zC (n m:Int):Int:=if m<1 then 0 else(n.tmod m+m).tmod m
theorem Ui (n m:Int)(h:1≤m):-m<n.tmod m∧n.tmod m<m:=by
 constructor
 ·rcases(by omega:n<0∨0≤n) with hn|hn
  ·have h1:=Int.tmod_nonneg m (show 0 ≤ -n by omega)
   have h2:=Int.tmod_lt_of_pos (-n) (show 0<m by omega)
   rw[Int.neg_tmod] at h1 h2;omega
  ·have:=Int.tmod_nonneg m hn;omega
 ·exact Int.tmod_lt_of_pos n (by omega)
theorem zn (n m:Int)(h:1≤m):0≤zC n m∧zC n m<m:=by
 obtain⟨h1,h2⟩:=Ui n m h;unfold zC;rw[if_neg (by omega)]
 exact⟨Int.tmod_nonneg m (by omega),Int.tmod_lt_of_pos _ (by omega)⟩
theorem zy (n m:Int)(w:World)(hm:m≤1000000):Calls Tryz.prog 44 #[.int .i64 n,.int .i64 m] w fun e w'=>e=.returned (.int .i64 (zC n m))∧w'=w:=by
 by_cases h:m<1
 ·have e:zC n m=0:=by unfold zC;rw[if_pos h]
  rw[e];clear e hm;go_enter Tryz.func44,Tryz.ntmps44
  go_wp2_with fail;go_ret;exact⟨rfl,rfl⟩
 ·obtain⟨h1,h2⟩:=Ui n m (by omega)
  have e:zC n m=(n.tmod m+m).tmod m:=by unfold zC;rw[if_neg h]
  obtain⟨h3,h4⟩:=zn n m (by omega)
  rw[e] at h3 h4 ⊢;obtain⟨x,hx⟩:∃x,n.tmod m=x:=⟨_,rfl⟩
  obtain⟨y,hy⟩:∃y,(x+m).tmod m=y:=⟨_,rfl⟩
  rw[hx] at h1 h2 h3 h4 ⊢;rw[hy] at h3 h4 ⊢;have hm0:¬m=0:=by omega
  clear e;go_enter Tryz.func44,Tryz.ntmps44
  go_wp2_with fail;go_ret;exact⟨rfl,rfl⟩
theorem yB {w:World}{b:Nat}{o x y z:Int}(h:zH w b [.int .i64 o,.int .i64 x,.int .i64 y,.int .i64 z]):(loadVar 80 ⟨b,0,none⟩).run Tryz.prog w=.ok (.agg #[.int .i64 o,.int .i64 x,.int .i64 y,.int .i64 z]) w:=by
 have e0:=(h 0 _ rfl).1
 have e1:=(h 1 _ rfl).1
 have e2:=(h 2 _ rfl).1
 have e3:=(h 3 _ rfl).1
 simp[go_sem,e0,e1,e2,e3]
def xd (nf nc nk:Nat)(lk:Int)(n:Nat)(w:World)(e:Ending)(w':World):Prop:=∃x:yq,e=.returned (.agg #[.int .i64 x.1,.int .i64 x.2.1,.int .i64 x.2.2.1,.int .i64 x.2.2.2])∧SN nf nc nk lk n x=0∧yh x.2.2.1∧Below w.heap.size w w'
theorem xd.mk {nf nc nk:Nat}{lk:Int}{n:Nat}{w w':World}(o a b c:Int)(h1:SN nf nc nk lk n (o,a,b,c)=0)(h2:yh b)(h3:Below w.heap.size w w'):xd nf nc nk lk n w (.returned (.agg #[.int .i64 o,.int .i64 a,.int .i64 b,.int .i64 c])) w':=⟨(o,a,b,c),rfl,h1,h2,h3⟩
theorem zX {nf nc nk:Nat}{lk:Int}{n:Nat}{o a b c:Int}(hb:yh b)(ho:0≤o∧o≤22)(hk:nk≤1000)(h:goodB nf nc nk lk n (o,a,b,c)=some true):SN nf nc nk lk n (o,a,b,c)=0:=by
 obtain⟨g,h1,h2⟩:=Td nf nc nk lk n o a b c hb ho hk;rw[h] at h1;cases h1
 rw[h2];rfl
theorem FR (fa:Option Addr)(nf fc:Nat)(ca:Option Addr)(nc cc:Nat)(lk:Int)(ka:Option Addr)(nk kc:Nat)(a0:Option Addr)(n cap:Nat)(o a b c:Int)(w:World)(hk:zC o 23=0)(hb:yh b)(h1:1≤nf∧nf≤100)(h2:nc≤100)(h3:nk≤100)(h4:0≤lk∧lk≤100)(h5:1≤n∧n≤100) :
  Calls Tryz.prog 45 #[pv fa nf fc ca nc cc lk ka nk kc,.slice a0 n cap,.agg #[.int .i64 o,.int .i64 a,.int .i64 b,.int .i64 c]] w fun e w'=>xd nf nc nk lk n w e w':=by
 have ra:=zn a 8 (by omega)
 have rb:=zn b 8 (by omega)
 have rc:=zn c 8 (by omega)
 have HKK:=Qq hk;unfold pv;clear hk;go_enter Tryz.func45,Tryz.ntmps45
 go_wp2_with fail;refine(zy _ _ _ (by omega)).mono ?_
 rintro e w1 ⟨rfl,rfl⟩;rw[HKK.out];go_wp2_with fail;go_quiet ((go_at_call 44;exact Calls.quiet_of_same (zy _ _ _ (by omega))))
 generalize zC a 8=A8 at *;generalize zC b 8=B8 at *;generalize zC c 8=C8 at *;go_wp2_with fail;go_quiet (fail)
 generalize hW9:World.drewN _ _=W9
 have b0:zH W9 w.heap.size [.slice fa nf fc,.slice ca nc cc,.int .i64 lk,.slice ka nk kc]:=by rw[←hW9];exact(((zH.mk w [.slice fa nf fc,.slice ca nc cc,.int .i64 lk,.slice ka nk kc] _ _ rfl).below (below_alloc1 _ _)).below (below_alloc1 _ _)).below (by repeat(first|exact Below.refl _ _|refine below_drewN ?_ _|refine Below.drew ?_))
 have b1:zH W9 (w.heap.size+1) [.int .i64 0,.int .i64 a,.int .i64 b,.int .i64 c]:=by rw[←hW9];exact((zH.mk (w.alloc (.cells #[.slice fa nf fc,.slice ca nc cc,.int .i64 lk,.slice ka nk kc] 26)) [.int .i64 0,.int .i64 a,.int .i64 b,.int .i64 c] 80 (w.heap.size+1) (by simp)).below (below_alloc1 _ _)).below (by repeat(first|exact Below.refl _ _|refine below_drewN ?_ _|refine Below.drew ?_))
 have b2:zH W9 (w.heap.size+1+1) [.int .i64 0,.int .i64 0,.int .i64 0,.int .i64 0]:=by rw[←hW9];exact(zH.mk ((w.alloc (.cells #[.slice fa nf fc,.slice ca nc cc,.int .i64 lk,.slice ka nk kc] 26)).alloc (.cells #[.int .i64 0,.int .i64 a,.int .i64 b,.int .i64 c] 80)) [.int .i64 0,.int .i64 0,.int .i64 0,.int .i64 0] 80 (w.heap.size+1+1) (by simp)).below (by repeat(first|exact Below.refl _ _|refine below_drewN ?_ _|refine Below.drew ?_))
 have b3:Below w.heap.size w W9:=by rw[←hW9];repeat(first|exact Below.refl _ _|refine below_drewN ?_ _|refine Below.drew ?_|refine Below.alloc ?_ (by first|(simp;done)|(simp;omega)) _)
 clear hW9;obtain⟨c00,-⟩:=b0 0 _ rfl;obtain⟨c01,-⟩:=b0 1 _ rfl;obtain⟨c02,-⟩:=b0 2 _ rfl;obtain⟨c03,-⟩:=b0 3 _ rfl;obtain⟨c10,-⟩:=b1 0 _ rfl;obtain⟨ZP,-⟩:=b1 1 _ rfl;obtain⟨Zw,-⟩:=b1 2 _ rfl;obtain⟨xS,-⟩:=b1 3 _ rfl;obtain⟨c20,d20⟩:=b2 0 _ rfl;obtain⟨c21,d21⟩:=b2 1 _ rfl;obtain⟨c22,d22⟩:=b2 2 _ rfl;obtain⟨c23,d23⟩:=b2 3 _ rfl;have HZ9:=Qq b2;have HB9:=Qq b3;clear b0 b1 b2 b3;go_wp2_with fail;have e:=yB ((((((HZ9.out)).set 0 (.int .i64 (0))).set 1 (.int .i64 (0))).set 2 (.int .i64 (0))).set 3 (.int .i64 (0)))
 exact bodyPost_ret (zu Tryz.results45 _ ⟨w.heap.size+1+1,0,none⟩ rfl e) rfl (xd.mk (0) (0) (0) (0) (zX (by unfold yh;omega) (by omega) (by omega) (by first|(simp[goodB];done)|(simp[goodB,xz];done)|(simp[goodB,xz];omega))) (by unfold yh;omega) (HB9.out.trans (by repeat(first|exact Below.refl _ _|refine Below.setCell ?_ (by simp;omega) _|refine Below.drew ?_|refine below_drewN ?_ _))))
theorem EC (fa:Option Addr)(nf fc:Nat)(ca:Option Addr)(nc cc:Nat)(lk:Int)(ka:Option Addr)(nk kc:Nat)(a0:Option Addr)(n cap:Nat)(o a b c:Int)(w:World)(hk:zC o 23=1)(hb:yh b)(h1:1≤nf∧nf≤100)(h2:nc≤100)(h3:nk≤100)(h4:0≤lk∧lk≤100)(h5:1≤n∧n≤100) :
  Calls Tryz.prog 45 #[pv fa nf fc ca nc cc lk ka nk kc,.slice a0 n cap,.agg #[.int .i64 o,.int .i64 a,.int .i64 b,.int .i64 c]] w fun e w'=>xd nf nc nk lk n w e w':=by
 have ra:=zn a 8 (by omega)
 have rb:=zn b 8 (by omega)
 have rc:=zn c 8 (by omega)
 have HKK:=Qq hk;unfold pv;clear hk;go_enter Tryz.func45,Tryz.ntmps45
 go_wp2_with fail;refine(zy _ _ _ (by omega)).mono ?_
 rintro e w1 ⟨rfl,rfl⟩;rw[HKK.out];go_wp2_with fail;go_quiet ((go_at_call 44;exact Calls.quiet_of_same (zy _ _ _ (by omega))))
 generalize zC a 8=A8 at *;generalize zC b 8=B8 at *;generalize zC c 8=C8 at *;go_wp2_with fail;go_quiet (fail)
 generalize hW9:World.drewN _ _=W9
 have b0:zH W9 w.heap.size [.slice fa nf fc,.slice ca nc cc,.int .i64 lk,.slice ka nk kc]:=by rw[←hW9];exact(((zH.mk w [.slice fa nf fc,.slice ca nc cc,.int .i64 lk,.slice ka nk kc] _ _ rfl).below (below_alloc1 _ _)).below (below_alloc1 _ _)).below (by repeat(first|exact Below.refl _ _|refine below_drewN ?_ _|refine Below.drew ?_))
 have b1:zH W9 (w.heap.size+1) [.int .i64 1,.int .i64 a,.int .i64 b,.int .i64 c]:=by rw[←hW9];exact((zH.mk (w.alloc (.cells #[.slice fa nf fc,.slice ca nc cc,.int .i64 lk,.slice ka nk kc] 26)) [.int .i64 1,.int .i64 a,.int .i64 b,.int .i64 c] 80 (w.heap.size+1) (by simp)).below (below_alloc1 _ _)).below (by repeat(first|exact Below.refl _ _|refine below_drewN ?_ _|refine Below.drew ?_))
 have b2:zH W9 (w.heap.size+1+1) [.int .i64 0,.int .i64 0,.int .i64 0,.int .i64 0]:=by rw[←hW9];exact(zH.mk ((w.alloc (.cells #[.slice fa nf fc,.slice ca nc cc,.int .i64 lk,.slice ka nk kc] 26)).alloc (.cells #[.int .i64 1,.int .i64 a,.int .i64 b,.int .i64 c] 80)) [.int .i64 0,.int .i64 0,.int .i64 0,.int .i64 0] 80 (w.heap.size+1+1) (by simp)).below (by repeat(first|exact Below.refl _ _|refine below_drewN ?_ _|refine Below.drew ?_))
 have b3:Below w.heap.size w W9:=by rw[←hW9];repeat(first|exact Below.refl _ _|refine below_drewN ?_ _|refine Below.drew ?_|refine Below.alloc ?_ (by first|(simp;done)|(simp;omega)) _)
 clear hW9;obtain⟨c00,-⟩:=b0 0 _ rfl;obtain⟨c01,-⟩:=b0 1 _ rfl;obtain⟨c02,-⟩:=b0 2 _ rfl;obtain⟨c03,-⟩:=b0 3 _ rfl;obtain⟨c10,-⟩:=b1 0 _ rfl;obtain⟨ZP,-⟩:=b1 1 _ rfl;obtain⟨Zw,-⟩:=b1 2 _ rfl;obtain⟨xS,-⟩:=b1 3 _ rfl;obtain⟨c20,d20⟩:=b2 0 _ rfl;obtain⟨c21,d21⟩:=b2 1 _ rfl;obtain⟨c22,d22⟩:=b2 2 _ rfl;obtain⟨c23,d23⟩:=b2 3 _ rfl;have HZ9:=Qq b2;have HB9:=Qq b3;clear b0 b1 b2 b3;go_wp2_with fail;have e:=yB ((((((HZ9.out)).set 0 (.int .i64 (1))).set 1 (.int .i64 (A8))).set 2 (.int .i64 (b))).set 3 (.int .i64 (0)))
 exact bodyPost_ret (zu Tryz.results45 _ ⟨w.heap.size+1+1,0,none⟩ rfl e) rfl (xd.mk (1) (A8) (b) (0) (zX hb (by omega) (by omega) (by first|(simp[goodB];done)|(simp[goodB,xz];done)|(simp[goodB,xz];omega))) hb (HB9.out.trans (by repeat(first|exact Below.refl _ _|refine Below.setCell ?_ (by simp;omega) _|refine Below.drew ?_|refine below_drewN ?_ _))))
theorem FV (fa:Option Addr)(nf fc:Nat)(ca:Option Addr)(nc cc:Nat)(lk:Int)(ka:Option Addr)(nk kc:Nat)(a0:Option Addr)(n cap:Nat)(o a b c:Int)(w:World)(hk:zC o 23=2)(hb:yh b)(h1:1≤nf∧nf≤100)(h2:nc≤100)(h3:nk≤100)(h4:0≤lk∧lk≤100)(h5:1≤n∧n≤100) :
  Calls Tryz.prog 45 #[pv fa nf fc ca nc cc lk ka nk kc,.slice a0 n cap,.agg #[.int .i64 o,.int .i64 a,.int .i64 b,.int .i64 c]] w fun e w'=>xd nf nc nk lk n w e w':=by
 have ra:=zn a 8 (by omega)
 have rb:=zn b 8 (by omega)
 have rc:=zn c 8 (by omega)
 have HKK:=Qq hk;unfold pv;clear hk;go_enter Tryz.func45,Tryz.ntmps45
 go_wp2_with fail;refine(zy _ _ _ (by omega)).mono ?_
 rintro e w1 ⟨rfl,rfl⟩;rw[HKK.out];go_wp2_with fail;go_quiet ((go_at_call 44;exact Calls.quiet_of_same (zy _ _ _ (by omega))))
 generalize zC a 8=A8 at *;generalize zC b 8=B8 at *;generalize zC c 8=C8 at *;go_wp2_with fail;go_quiet (fail)
 generalize hW9:World.drewN _ _=W9
 have b0:zH W9 w.heap.size [.slice fa nf fc,.slice ca nc cc,.int .i64 lk,.slice ka nk kc]:=by rw[←hW9];exact(((zH.mk w [.slice fa nf fc,.slice ca nc cc,.int .i64 lk,.slice ka nk kc] _ _ rfl).below (below_alloc1 _ _)).below (below_alloc1 _ _)).below (by repeat(first|exact Below.refl _ _|refine below_drewN ?_ _|refine Below.drew ?_))
 have b1:zH W9 (w.heap.size+1) [.int .i64 2,.int .i64 a,.int .i64 b,.int .i64 c]:=by rw[←hW9];exact((zH.mk (w.alloc (.cells #[.slice fa nf fc,.slice ca nc cc,.int .i64 lk,.slice ka nk kc] 26)) [.int .i64 2,.int .i64 a,.int .i64 b,.int .i64 c] 80 (w.heap.size+1) (by simp)).below (below_alloc1 _ _)).below (by repeat(first|exact Below.refl _ _|refine below_drewN ?_ _|refine Below.drew ?_))
 have b2:zH W9 (w.heap.size+1+1) [.int .i64 0,.int .i64 0,.int .i64 0,.int .i64 0]:=by rw[←hW9];exact(zH.mk ((w.alloc (.cells #[.slice fa nf fc,.slice ca nc cc,.int .i64 lk,.slice ka nk kc] 26)).alloc (.cells #[.int .i64 2,.int .i64 a,.int .i64 b,.int .i64 c] 80)) [.int .i64 0,.int .i64 0,.int .i64 0,.int .i64 0] 80 (w.heap.size+1+1) (by simp)).below (by repeat(first|exact Below.refl _ _|refine below_drewN ?_ _|refine Below.drew ?_))
 have b3:Below w.heap.size w W9:=by rw[←hW9];repeat(first|exact Below.refl _ _|refine below_drewN ?_ _|refine Below.drew ?_|refine Below.alloc ?_ (by first|(simp;done)|(simp;omega)) _)
 clear hW9;obtain⟨c00,-⟩:=b0 0 _ rfl;obtain⟨c01,-⟩:=b0 1 _ rfl;obtain⟨c02,-⟩:=b0 2 _ rfl;obtain⟨c03,-⟩:=b0 3 _ rfl;obtain⟨c10,-⟩:=b1 0 _ rfl;obtain⟨ZP,-⟩:=b1 1 _ rfl;obtain⟨Zw,-⟩:=b1 2 _ rfl;obtain⟨xS,-⟩:=b1 3 _ rfl;obtain⟨c20,d20⟩:=b2 0 _ rfl;obtain⟨c21,d21⟩:=b2 1 _ rfl;obtain⟨c22,d22⟩:=b2 2 _ rfl;obtain⟨c23,d23⟩:=b2 3 _ rfl;have HZ9:=Qq b2;have HB9:=Qq b3;clear b0 b1 b2 b3;go_wp2_with fail;have e:=yB ((((((HZ9.out)).set 0 (.int .i64 (2))).set 1 (.int .i64 (A8))).set 2 (.int .i64 (B8))).set 3 (.int .i64 (0)))
 exact bodyPost_ret (zu Tryz.results45 _ ⟨w.heap.size+1+1,0,none⟩ rfl e) rfl (xd.mk (2) (A8) (B8) (0) (zX (by unfold yh;omega) (by omega) (by omega) (by first|(simp[goodB];done)|(simp[goodB,xz];done)|(simp[goodB,xz];omega))) (by unfold yh;omega) (HB9.out.trans (by repeat(first|exact Below.refl _ _|refine Below.setCell ?_ (by simp;omega) _|refine Below.drew ?_|refine below_drewN ?_ _))))
theorem EF (fa:Option Addr)(nf fc:Nat)(ca:Option Addr)(nc cc:Nat)(lk:Int)(ka:Option Addr)(nk kc:Nat)(a0:Option Addr)(n cap:Nat)(o a b c:Int)(w:World)(hk:zC o 23=3)(hb:yh b)(h1:1≤nf∧nf≤100)(h2:nc≤100)(h3:nk≤100)(h4:0≤lk∧lk≤100)(h5:1≤n∧n≤100) :
  Calls Tryz.prog 45 #[pv fa nf fc ca nc cc lk ka nk kc,.slice a0 n cap,.agg #[.int .i64 o,.int .i64 a,.int .i64 b,.int .i64 c]] w fun e w'=>xd nf nc nk lk n w e w':=by
 have ra:=zn a 8 (by omega)
 have rb:=zn b 8 (by omega)
 have rc:=zn c 8 (by omega)
 have HKK:=Qq hk;unfold pv;clear hk;go_enter Tryz.func45,Tryz.ntmps45
 go_wp2_with fail;refine(zy _ _ _ (by omega)).mono ?_
 rintro e w1 ⟨rfl,rfl⟩;rw[HKK.out];go_wp2_with fail;go_quiet ((go_at_call 44;exact Calls.quiet_of_same (zy _ _ _ (by omega))))
 generalize zC a 8=A8 at *;generalize zC b 8=B8 at *;generalize zC c 8=C8 at *;go_wp2_with fail;go_quiet (fail)
 generalize hW9:World.drewN _ _=W9
 have b0:zH W9 w.heap.size [.slice fa nf fc,.slice ca nc cc,.int .i64 lk,.slice ka nk kc]:=by rw[←hW9];exact(((zH.mk w [.slice fa nf fc,.slice ca nc cc,.int .i64 lk,.slice ka nk kc] _ _ rfl).below (below_alloc1 _ _)).below (below_alloc1 _ _)).below (by repeat(first|exact Below.refl _ _|refine below_drewN ?_ _|refine Below.drew ?_))
 have b1:zH W9 (w.heap.size+1) [.int .i64 3,.int .i64 a,.int .i64 b,.int .i64 c]:=by rw[←hW9];exact((zH.mk (w.alloc (.cells #[.slice fa nf fc,.slice ca nc cc,.int .i64 lk,.slice ka nk kc] 26)) [.int .i64 3,.int .i64 a,.int .i64 b,.int .i64 c] 80 (w.heap.size+1) (by simp)).below (below_alloc1 _ _)).below (by repeat(first|exact Below.refl _ _|refine below_drewN ?_ _|refine Below.drew ?_))
 have b2:zH W9 (w.heap.size+1+1) [.int .i64 0,.int .i64 0,.int .i64 0,.int .i64 0]:=by rw[←hW9];exact(zH.mk ((w.alloc (.cells #[.slice fa nf fc,.slice ca nc cc,.int .i64 lk,.slice ka nk kc] 26)).alloc (.cells #[.int .i64 3,.int .i64 a,.int .i64 b,.int .i64 c] 80)) [.int .i64 0,.int .i64 0,.int .i64 0,.int .i64 0] 80 (w.heap.size+1+1) (by simp)).below (by repeat(first|exact Below.refl _ _|refine below_drewN ?_ _|refine Below.drew ?_))
 have b3:Below w.heap.size w W9:=by rw[←hW9];repeat(first|exact Below.refl _ _|refine below_drewN ?_ _|refine Below.drew ?_|refine Below.alloc ?_ (by first|(simp;done)|(simp;omega)) _)
 clear hW9;obtain⟨c00,-⟩:=b0 0 _ rfl;obtain⟨c01,-⟩:=b0 1 _ rfl;obtain⟨c02,-⟩:=b0 2 _ rfl;obtain⟨c03,-⟩:=b0 3 _ rfl;obtain⟨c10,-⟩:=b1 0 _ rfl;obtain⟨ZP,-⟩:=b1 1 _ rfl;obtain⟨Zw,-⟩:=b1 2 _ rfl;obtain⟨xS,-⟩:=b1 3 _ rfl;obtain⟨c20,d20⟩:=b2 0 _ rfl;obtain⟨c21,d21⟩:=b2 1 _ rfl;obtain⟨c22,d22⟩:=b2 2 _ rfl;obtain⟨c23,d23⟩:=b2 3 _ rfl;have HZ9:=Qq b2;have HB9:=Qq b3;clear b0 b1 b2 b3;go_wp2_with fail;have e:=yB ((((((HZ9.out)).set 0 (.int .i64 (3))).set 1 (.int .i64 (A8))).set 2 (.int .i64 (B8))).set 3 (.int .i64 (C8)))
 exact bodyPost_ret (zu Tryz.results45 _ ⟨w.heap.size+1+1,0,none⟩ rfl e) rfl (xd.mk (3) (A8) (B8) (C8) (zX (by unfold yh;omega) (by omega) (by omega) (by first|(simp[goodB];done)|(simp[goodB,xz];done)|(simp[goodB,xz];omega))) (by unfold yh;omega) (HB9.out.trans (by repeat(first|exact Below.refl _ _|refine Below.setCell ?_ (by simp;omega) _|refine Below.drew ?_|refine below_drewN ?_ _))))
theorem FZ (fa:Option Addr)(nf fc:Nat)(ca:Option Addr)(nc cc:Nat)(lk:Int)(ka:Option Addr)(nk kc:Nat)(a0:Option Addr)(n cap:Nat)(o a b c:Int)(w:World)(hk:zC o 23=4)(hb:yh b)(h1:1≤nf∧nf≤100)(h2:nc≤100)(h3:nk≤100)(h4:0≤lk∧lk≤100)(h5:1≤n∧n≤100) :
  Calls Tryz.prog 45 #[pv fa nf fc ca nc cc lk ka nk kc,.slice a0 n cap,.agg #[.int .i64 o,.int .i64 a,.int .i64 b,.int .i64 c]] w fun e w'=>xd nf nc nk lk n w e w':=by
 have ra:=zn a 8 (by omega)
 have rb:=zn b 8 (by omega)
 have rc:=zn c 8 (by omega)
 have HKK:=Qq hk;unfold pv;clear hk;go_enter Tryz.func45,Tryz.ntmps45
 go_wp2_with fail;refine(zy _ _ _ (by omega)).mono ?_
 rintro e w1 ⟨rfl,rfl⟩;rw[HKK.out];go_wp2_with fail;go_quiet ((go_at_call 44;exact Calls.quiet_of_same (zy _ _ _ (by omega))))
 generalize zC a 8=A8 at *;generalize zC b 8=B8 at *;generalize zC c 8=C8 at *;go_wp2_with fail;go_quiet (fail)
 generalize hW9:World.drewN _ _=W9
 have b0:zH W9 w.heap.size [.slice fa nf fc,.slice ca nc cc,.int .i64 lk,.slice ka nk kc]:=by rw[←hW9];exact(((zH.mk w [.slice fa nf fc,.slice ca nc cc,.int .i64 lk,.slice ka nk kc] _ _ rfl).below (below_alloc1 _ _)).below (below_alloc1 _ _)).below (by repeat(first|exact Below.refl _ _|refine below_drewN ?_ _|refine Below.drew ?_))
 have b1:zH W9 (w.heap.size+1) [.int .i64 4,.int .i64 a,.int .i64 b,.int .i64 c]:=by rw[←hW9];exact((zH.mk (w.alloc (.cells #[.slice fa nf fc,.slice ca nc cc,.int .i64 lk,.slice ka nk kc] 26)) [.int .i64 4,.int .i64 a,.int .i64 b,.int .i64 c] 80 (w.heap.size+1) (by simp)).below (below_alloc1 _ _)).below (by repeat(first|exact Below.refl _ _|refine below_drewN ?_ _|refine Below.drew ?_))
 have b2:zH W9 (w.heap.size+1+1) [.int .i64 0,.int .i64 0,.int .i64 0,.int .i64 0]:=by rw[←hW9];exact(zH.mk ((w.alloc (.cells #[.slice fa nf fc,.slice ca nc cc,.int .i64 lk,.slice ka nk kc] 26)).alloc (.cells #[.int .i64 4,.int .i64 a,.int .i64 b,.int .i64 c] 80)) [.int .i64 0,.int .i64 0,.int .i64 0,.int .i64 0] 80 (w.heap.size+1+1) (by simp)).below (by repeat(first|exact Below.refl _ _|refine below_drewN ?_ _|refine Below.drew ?_))
 have b3:Below w.heap.size w W9:=by rw[←hW9];repeat(first|exact Below.refl _ _|refine below_drewN ?_ _|refine Below.drew ?_|refine Below.alloc ?_ (by first|(simp;done)|(simp;omega)) _)
 clear hW9;obtain⟨c00,-⟩:=b0 0 _ rfl;obtain⟨c01,-⟩:=b0 1 _ rfl;obtain⟨c02,-⟩:=b0 2 _ rfl;obtain⟨c03,-⟩:=b0 3 _ rfl;obtain⟨c10,-⟩:=b1 0 _ rfl;obtain⟨ZP,-⟩:=b1 1 _ rfl;obtain⟨Zw,-⟩:=b1 2 _ rfl;obtain⟨xS,-⟩:=b1 3 _ rfl;obtain⟨c20,d20⟩:=b2 0 _ rfl;obtain⟨c21,d21⟩:=b2 1 _ rfl;obtain⟨c22,d22⟩:=b2 2 _ rfl;obtain⟨c23,d23⟩:=b2 3 _ rfl;have HZ9:=Qq b2;have HB9:=Qq b3;clear b0 b1 b2 b3;go_wp2_with fail;have e:=yB ((((((HZ9.out)).set 0 (.int .i64 (4))).set 1 (.int .i64 (A8))).set 2 (.int .i64 (B8))).set 3 (.int .i64 (C8)))
 exact bodyPost_ret (zu Tryz.results45 _ ⟨w.heap.size+1+1,0,none⟩ rfl e) rfl (xd.mk (4) (A8) (B8) (C8) (zX (by unfold yh;omega) (by omega) (by omega) (by first|(simp[goodB];done)|(simp[goodB,xz];done)|(simp[goodB,xz];omega))) (by unfold yh;omega) (HB9.out.trans (by repeat(first|exact Below.refl _ _|refine Below.setCell ?_ (by simp;omega) _|refine Below.drew ?_|refine below_drewN ?_ _))))
theorem Ek (fa:Option Addr)(nf fc:Nat)(ca:Option Addr)(nc cc:Nat)(lk:Int)(ka:Option Addr)(nk kc:Nat)(a0:Option Addr)(n cap:Nat)(o a b c:Int)(w:World)(hk:zC o 23=5)(hb:yh b)(h1:1≤nf∧nf≤100)(h2:nc≤100)(h3:nk≤100)(h4:0≤lk∧lk≤100)(h5:1≤n∧n≤100) :
  Calls Tryz.prog 45 #[pv fa nf fc ca nc cc lk ka nk kc,.slice a0 n cap,.agg #[.int .i64 o,.int .i64 a,.int .i64 b,.int .i64 c]] w fun e w'=>xd nf nc nk lk n w e w':=by
 have ra:=zn a 8 (by omega)
 have rb:=zn b 8 (by omega)
 have rc:=zn c 8 (by omega)
 have HKK:=Qq hk;unfold pv;clear hk;go_enter Tryz.func45,Tryz.ntmps45
 go_wp2_with fail;refine(zy _ _ _ (by omega)).mono ?_
 rintro e w1 ⟨rfl,rfl⟩;rw[HKK.out];go_wp2_with fail;go_quiet ((go_at_call 44;exact Calls.quiet_of_same (zy _ _ _ (by omega))))
 generalize zC a 8=A8 at *;generalize zC b 8=B8 at *;generalize zC c 8=C8 at *;go_wp2_with fail;go_quiet (fail)
 generalize hW9:World.drewN _ _=W9
 have b0:zH W9 w.heap.size [.slice fa nf fc,.slice ca nc cc,.int .i64 lk,.slice ka nk kc]:=by rw[←hW9];exact(((zH.mk w [.slice fa nf fc,.slice ca nc cc,.int .i64 lk,.slice ka nk kc] _ _ rfl).below (below_alloc1 _ _)).below (below_alloc1 _ _)).below (by repeat(first|exact Below.refl _ _|refine below_drewN ?_ _|refine Below.drew ?_))
 have b1:zH W9 (w.heap.size+1) [.int .i64 5,.int .i64 a,.int .i64 b,.int .i64 c]:=by rw[←hW9];exact((zH.mk (w.alloc (.cells #[.slice fa nf fc,.slice ca nc cc,.int .i64 lk,.slice ka nk kc] 26)) [.int .i64 5,.int .i64 a,.int .i64 b,.int .i64 c] 80 (w.heap.size+1) (by simp)).below (below_alloc1 _ _)).below (by repeat(first|exact Below.refl _ _|refine below_drewN ?_ _|refine Below.drew ?_))
 have b2:zH W9 (w.heap.size+1+1) [.int .i64 0,.int .i64 0,.int .i64 0,.int .i64 0]:=by rw[←hW9];exact(zH.mk ((w.alloc (.cells #[.slice fa nf fc,.slice ca nc cc,.int .i64 lk,.slice ka nk kc] 26)).alloc (.cells #[.int .i64 5,.int .i64 a,.int .i64 b,.int .i64 c] 80)) [.int .i64 0,.int .i64 0,.int .i64 0,.int .i64 0] 80 (w.heap.size+1+1) (by simp)).below (by repeat(first|exact Below.refl _ _|refine below_drewN ?_ _|refine Below.drew ?_))
 have b3:Below w.heap.size w W9:=by rw[←hW9];repeat(first|exact Below.refl _ _|refine below_drewN ?_ _|refine Below.drew ?_|refine Below.alloc ?_ (by first|(simp;done)|(simp;omega)) _)
 clear hW9;obtain⟨c00,-⟩:=b0 0 _ rfl;obtain⟨c01,-⟩:=b0 1 _ rfl;obtain⟨c02,-⟩:=b0 2 _ rfl;obtain⟨c03,-⟩:=b0 3 _ rfl;obtain⟨c10,-⟩:=b1 0 _ rfl;obtain⟨ZP,-⟩:=b1 1 _ rfl;obtain⟨Zw,-⟩:=b1 2 _ rfl;obtain⟨xS,-⟩:=b1 3 _ rfl;obtain⟨c20,d20⟩:=b2 0 _ rfl;obtain⟨c21,d21⟩:=b2 1 _ rfl;obtain⟨c22,d22⟩:=b2 2 _ rfl;obtain⟨c23,d23⟩:=b2 3 _ rfl;have HZ9:=Qq b2;have HB9:=Qq b3;clear b0 b1 b2 b3;go_wp2_with fail;have e:=yB ((((((HZ9.out)).set 0 (.int .i64 (5))).set 1 (.int .i64 (A8))).set 2 (.int .i64 (B8))).set 3 (.int .i64 (C8)))
 exact bodyPost_ret (zu Tryz.results45 _ ⟨w.heap.size+1+1,0,none⟩ rfl e) rfl (xd.mk (5) (A8) (B8) (C8) (zX (by unfold yh;omega) (by omega) (by omega) (by first|(simp[goodB];done)|(simp[goodB,xz];done)|(simp[goodB,xz];omega))) (by unfold yh;omega) (HB9.out.trans (by repeat(first|exact Below.refl _ _|refine Below.setCell ?_ (by simp;omega) _|refine Below.drew ?_|refine below_drewN ?_ _))))
theorem Eu (fa:Option Addr)(nf fc:Nat)(ca:Option Addr)(nc cc:Nat)(lk:Int)(ka:Option Addr)(nk kc:Nat)(a0:Option Addr)(n cap:Nat)(o a b c:Int)(w:World)(hk:zC o 23=6)(hb:yh b)(h1:1≤nf∧nf≤100)(h2:nc≤100)(h3:nk≤100)(h4:0≤lk∧lk≤100)(h5:1≤n∧n≤100) :
  Calls Tryz.prog 45 #[pv fa nf fc ca nc cc lk ka nk kc,.slice a0 n cap,.agg #[.int .i64 o,.int .i64 a,.int .i64 b,.int .i64 c]] w fun e w'=>xd nf nc nk lk n w e w':=by
 have ra:=zn a 8 (by omega)
 have rb:=zn b 8 (by omega)
 have rc:=zn c 8 (by omega)
 have HKK:=Qq hk;unfold pv;clear hk;go_enter Tryz.func45,Tryz.ntmps45
 go_wp2_with fail;refine(zy _ _ _ (by omega)).mono ?_
 rintro e w1 ⟨rfl,rfl⟩;rw[HKK.out];go_wp2_with fail;go_quiet ((go_at_call 44;exact Calls.quiet_of_same (zy _ _ _ (by omega))))
 generalize zC a 8=A8 at *;generalize zC b 8=B8 at *;generalize zC c 8=C8 at *;go_wp2_with fail;go_quiet (fail)
 generalize hW9:World.drewN _ _=W9
 have b0:zH W9 w.heap.size [.slice fa nf fc,.slice ca nc cc,.int .i64 lk,.slice ka nk kc]:=by rw[←hW9];exact(((zH.mk w [.slice fa nf fc,.slice ca nc cc,.int .i64 lk,.slice ka nk kc] _ _ rfl).below (below_alloc1 _ _)).below (below_alloc1 _ _)).below (by repeat(first|exact Below.refl _ _|refine below_drewN ?_ _|refine Below.drew ?_))
 have b1:zH W9 (w.heap.size+1) [.int .i64 6,.int .i64 a,.int .i64 b,.int .i64 c]:=by rw[←hW9];exact((zH.mk (w.alloc (.cells #[.slice fa nf fc,.slice ca nc cc,.int .i64 lk,.slice ka nk kc] 26)) [.int .i64 6,.int .i64 a,.int .i64 b,.int .i64 c] 80 (w.heap.size+1) (by simp)).below (below_alloc1 _ _)).below (by repeat(first|exact Below.refl _ _|refine below_drewN ?_ _|refine Below.drew ?_))
 have b2:zH W9 (w.heap.size+1+1) [.int .i64 0,.int .i64 0,.int .i64 0,.int .i64 0]:=by rw[←hW9];exact(zH.mk ((w.alloc (.cells #[.slice fa nf fc,.slice ca nc cc,.int .i64 lk,.slice ka nk kc] 26)).alloc (.cells #[.int .i64 6,.int .i64 a,.int .i64 b,.int .i64 c] 80)) [.int .i64 0,.int .i64 0,.int .i64 0,.int .i64 0] 80 (w.heap.size+1+1) (by simp)).below (by repeat(first|exact Below.refl _ _|refine below_drewN ?_ _|refine Below.drew ?_))
 have b3:Below w.heap.size w W9:=by rw[←hW9];repeat(first|exact Below.refl _ _|refine below_drewN ?_ _|refine Below.drew ?_|refine Below.alloc ?_ (by first|(simp;done)|(simp;omega)) _)
 clear hW9;obtain⟨c00,-⟩:=b0 0 _ rfl;obtain⟨c01,-⟩:=b0 1 _ rfl;obtain⟨c02,-⟩:=b0 2 _ rfl;obtain⟨c03,-⟩:=b0 3 _ rfl;obtain⟨c10,-⟩:=b1 0 _ rfl;obtain⟨ZP,-⟩:=b1 1 _ rfl;obtain⟨Zw,-⟩:=b1 2 _ rfl;obtain⟨xS,-⟩:=b1 3 _ rfl;obtain⟨c20,d20⟩:=b2 0 _ rfl;obtain⟨c21,d21⟩:=b2 1 _ rfl;obtain⟨c22,d22⟩:=b2 2 _ rfl;obtain⟨c23,d23⟩:=b2 3 _ rfl;have HZ9:=Qq b2;have HB9:=Qq b3;clear b0 b1 b2 b3;go_wp2_with fail;have e:=yB ((((((HZ9.out)).set 0 (.int .i64 (6))).set 1 (.int .i64 (A8))).set 2 (.int .i64 (B8))).set 3 (.int .i64 (C8)))
 exact bodyPost_ret (zu Tryz.results45 _ ⟨w.heap.size+1+1,0,none⟩ rfl e) rfl (xd.mk (6) (A8) (B8) (C8) (zX (by unfold yh;omega) (by omega) (by omega) (by first|(simp[goodB];done)|(simp[goodB,xz];done)|(simp[goodB,xz];omega))) (by unfold yh;omega) (HB9.out.trans (by repeat(first|exact Below.refl _ _|refine Below.setCell ?_ (by simp;omega) _|refine Below.drew ?_|refine below_drewN ?_ _))))
theorem FW (fa:Option Addr)(nf fc:Nat)(ca:Option Addr)(nc cc:Nat)(lk:Int)(ka:Option Addr)(nk kc:Nat)(a0:Option Addr)(n cap:Nat)(o a b c:Int)(w:World)(hk:zC o 23=7)(hb:yh b)(h1:1≤nf∧nf≤100)(h2:nc≤100)(h3:nk≤100)(h4:0≤lk∧lk≤100)(h5:1≤n∧n≤100) :
  Calls Tryz.prog 45 #[pv fa nf fc ca nc cc lk ka nk kc,.slice a0 n cap,.agg #[.int .i64 o,.int .i64 a,.int .i64 b,.int .i64 c]] w fun e w'=>xd nf nc nk lk n w e w':=by
 have ra:=zn a 8 (by omega)
 have rb:=zn b 8 (by omega)
 have rc:=zn c 8 (by omega)
 have HKK:=Qq hk;unfold pv;clear hk;have rx:=zn a n (by omega)
 go_enter Tryz.func45,Tryz.ntmps45
 go_wp2_with fail;refine(zy _ _ _ (by omega)).mono ?_
 rintro e w1 ⟨rfl,rfl⟩;rw[HKK.out];go_wp2_with fail;go_quiet ((go_at_call 44;exact Calls.quiet_of_same (zy _ _ _ (by omega))))
 generalize zC a 8=A8 at *;generalize zC b 8=B8 at *;generalize zC c 8=C8 at *;go_wp2_with fail;go_quiet (fail)
 generalize hW9:World.drewN _ _=W9
 have b0:zH W9 w.heap.size [.slice fa nf fc,.slice ca nc cc,.int .i64 lk,.slice ka nk kc]:=by rw[←hW9];exact(((zH.mk w [.slice fa nf fc,.slice ca nc cc,.int .i64 lk,.slice ka nk kc] _ _ rfl).below (below_alloc1 _ _)).below (below_alloc1 _ _)).below (by repeat(first|exact Below.refl _ _|refine below_drewN ?_ _|refine Below.drew ?_))
 have b1:zH W9 (w.heap.size+1) [.int .i64 7,.int .i64 a,.int .i64 b,.int .i64 c]:=by rw[←hW9];exact((zH.mk (w.alloc (.cells #[.slice fa nf fc,.slice ca nc cc,.int .i64 lk,.slice ka nk kc] 26)) [.int .i64 7,.int .i64 a,.int .i64 b,.int .i64 c] 80 (w.heap.size+1) (by simp)).below (below_alloc1 _ _)).below (by repeat(first|exact Below.refl _ _|refine below_drewN ?_ _|refine Below.drew ?_))
 have b2:zH W9 (w.heap.size+1+1) [.int .i64 0,.int .i64 0,.int .i64 0,.int .i64 0]:=by rw[←hW9];exact(zH.mk ((w.alloc (.cells #[.slice fa nf fc,.slice ca nc cc,.int .i64 lk,.slice ka nk kc] 26)).alloc (.cells #[.int .i64 7,.int .i64 a,.int .i64 b,.int .i64 c] 80)) [.int .i64 0,.int .i64 0,.int .i64 0,.int .i64 0] 80 (w.heap.size+1+1) (by simp)).below (by repeat(first|exact Below.refl _ _|refine below_drewN ?_ _|refine Below.drew ?_))
 have b3:Below w.heap.size w W9:=by rw[←hW9];repeat(first|exact Below.refl _ _|refine below_drewN ?_ _|refine Below.drew ?_|refine Below.alloc ?_ (by first|(simp;done)|(simp;omega)) _)
 clear hW9;obtain⟨c00,-⟩:=b0 0 _ rfl;obtain⟨c01,-⟩:=b0 1 _ rfl;obtain⟨c02,-⟩:=b0 2 _ rfl;obtain⟨c03,-⟩:=b0 3 _ rfl;obtain⟨c10,-⟩:=b1 0 _ rfl;obtain⟨ZP,-⟩:=b1 1 _ rfl;obtain⟨Zw,-⟩:=b1 2 _ rfl;obtain⟨xS,-⟩:=b1 3 _ rfl;obtain⟨c20,d20⟩:=b2 0 _ rfl;obtain⟨c21,d21⟩:=b2 1 _ rfl;obtain⟨c22,d22⟩:=b2 2 _ rfl;obtain⟨c23,d23⟩:=b2 3 _ rfl;have HZ9:=Qq b2;have HB9:=Qq b3;clear b0 b1 b2 b3;go_wp2_with fail;refine(zy _ _ _ (by omega)).mono ?_
 rintro e w1 ⟨rfl,rfl⟩;generalize zC a ↑n=X at *
 go_wp2_with fail;have e:=yB ((((((HZ9.out)).set 0 (.int .i64 (7))).set 1 (.int .i64 (X))).set 2 (.int .i64 (0))).set 3 (.int .i64 (0)))
 exact bodyPost_ret (zu Tryz.results45 _ ⟨w.heap.size+1+1,0,none⟩ rfl e) rfl (xd.mk (7) (X) (0) (0) (zX (by unfold yh;omega) (by omega) (by omega) (by first|(simp[goodB];done)|(simp[goodB,xz];done)|(simp[goodB,xz];omega))) (by unfold yh;omega) (HB9.out.trans (by repeat(first|exact Below.refl _ _|refine Below.setCell ?_ (by simp;omega) _|refine Below.drew ?_|refine below_drewN ?_ _))))
theorem EH (fa:Option Addr)(nf fc:Nat)(ca:Option Addr)(nc cc:Nat)(lk:Int)(ka:Option Addr)(nk kc:Nat)(a0:Option Addr)(n cap:Nat)(o a b c:Int)(w:World)(hk:zC o 23=8)(hb:yh b)(h1:1≤nf∧nf≤100)(h2:nc≤100)(h3:nk≤100)(h4:0≤lk∧lk≤100)(h5:1≤n∧n≤100) :
  Calls Tryz.prog 45 #[pv fa nf fc ca nc cc lk ka nk kc,.slice a0 n cap,.agg #[.int .i64 o,.int .i64 a,.int .i64 b,.int .i64 c]] w fun e w'=>xd nf nc nk lk n w e w':=by
 have ra:=zn a 8 (by omega)
 have rb:=zn b 8 (by omega)
 have rc:=zn c 8 (by omega)
 have HKK:=Qq hk;unfold pv;clear hk;have rx:=zn b n (by omega)
 go_enter Tryz.func45,Tryz.ntmps45
 go_wp2_with fail;refine(zy _ _ _ (by omega)).mono ?_
 rintro e w1 ⟨rfl,rfl⟩;rw[HKK.out];go_wp2_with fail;go_quiet ((go_at_call 44;exact Calls.quiet_of_same (zy _ _ _ (by omega))))
 generalize zC a 8=A8 at *;generalize zC b 8=B8 at *;generalize zC c 8=C8 at *;go_wp2_with fail;go_quiet (fail)
 generalize hW9:World.drewN _ _=W9
 have b0:zH W9 w.heap.size [.slice fa nf fc,.slice ca nc cc,.int .i64 lk,.slice ka nk kc]:=by rw[←hW9];exact(((zH.mk w [.slice fa nf fc,.slice ca nc cc,.int .i64 lk,.slice ka nk kc] _ _ rfl).below (below_alloc1 _ _)).below (below_alloc1 _ _)).below (by repeat(first|exact Below.refl _ _|refine below_drewN ?_ _|refine Below.drew ?_))
 have b1:zH W9 (w.heap.size+1) [.int .i64 8,.int .i64 a,.int .i64 b,.int .i64 c]:=by rw[←hW9];exact((zH.mk (w.alloc (.cells #[.slice fa nf fc,.slice ca nc cc,.int .i64 lk,.slice ka nk kc] 26)) [.int .i64 8,.int .i64 a,.int .i64 b,.int .i64 c] 80 (w.heap.size+1) (by simp)).below (below_alloc1 _ _)).below (by repeat(first|exact Below.refl _ _|refine below_drewN ?_ _|refine Below.drew ?_))
 have b2:zH W9 (w.heap.size+1+1) [.int .i64 0,.int .i64 0,.int .i64 0,.int .i64 0]:=by rw[←hW9];exact(zH.mk ((w.alloc (.cells #[.slice fa nf fc,.slice ca nc cc,.int .i64 lk,.slice ka nk kc] 26)).alloc (.cells #[.int .i64 8,.int .i64 a,.int .i64 b,.int .i64 c] 80)) [.int .i64 0,.int .i64 0,.int .i64 0,.int .i64 0] 80 (w.heap.size+1+1) (by simp)).below (by repeat(first|exact Below.refl _ _|refine below_drewN ?_ _|refine Below.drew ?_))
 have b3:Below w.heap.size w W9:=by rw[←hW9];repeat(first|exact Below.refl _ _|refine below_drewN ?_ _|refine Below.drew ?_|refine Below.alloc ?_ (by first|(simp;done)|(simp;omega)) _)
 clear hW9;obtain⟨c00,-⟩:=b0 0 _ rfl;obtain⟨c01,-⟩:=b0 1 _ rfl;obtain⟨c02,-⟩:=b0 2 _ rfl;obtain⟨c03,-⟩:=b0 3 _ rfl;obtain⟨c10,-⟩:=b1 0 _ rfl;obtain⟨ZP,-⟩:=b1 1 _ rfl;obtain⟨Zw,-⟩:=b1 2 _ rfl;obtain⟨xS,-⟩:=b1 3 _ rfl;obtain⟨c20,d20⟩:=b2 0 _ rfl;obtain⟨c21,d21⟩:=b2 1 _ rfl;obtain⟨c22,d22⟩:=b2 2 _ rfl;obtain⟨c23,d23⟩:=b2 3 _ rfl;have HZ9:=Qq b2;have HB9:=Qq b3;clear b0 b1 b2 b3;go_wp2_with fail;refine(zy _ _ _ (by omega)).mono ?_
 rintro e w1 ⟨rfl,rfl⟩;generalize zC b ↑n=X at *
 go_wp2_with fail;have e:=yB ((((((HZ9.out)).set 0 (.int .i64 (8))).set 1 (.int .i64 (A8))).set 2 (.int .i64 (X))).set 3 (.int .i64 (0)))
 exact bodyPost_ret (zu Tryz.results45 _ ⟨w.heap.size+1+1,0,none⟩ rfl e) rfl (xd.mk (8) (A8) (X) (0) (zX (by unfold yh;omega) (by omega) (by omega) (by first|(simp[goodB];done)|(simp[goodB,xz];done)|(simp[goodB,xz];omega))) (by unfold yh;omega) (HB9.out.trans (by repeat(first|exact Below.refl _ _|refine Below.setCell ?_ (by simp;omega) _|refine Below.drew ?_|refine below_drewN ?_ _))))
theorem EE (fa:Option Addr)(nf fc:Nat)(ca:Option Addr)(nc cc:Nat)(lk:Int)(ka:Option Addr)(nk kc:Nat)(a0:Option Addr)(n cap:Nat)(o a b c:Int)(w:World)(hk:zC o 23=9)(hb:yh b)(h1:1≤nf∧nf≤100)(h2:nc≤100)(h3:nk≤100)(h4:0≤lk∧lk≤100)(h5:1≤n∧n≤100) :
  Calls Tryz.prog 45 #[pv fa nf fc ca nc cc lk ka nk kc,.slice a0 n cap,.agg #[.int .i64 o,.int .i64 a,.int .i64 b,.int .i64 c]] w fun e w'=>xd nf nc nk lk n w e w':=by
 have ra:=zn a 8 (by omega)
 have rb:=zn b 8 (by omega)
 have rc:=zn c 8 (by omega)
 have HKK:=Qq hk;unfold pv;clear hk;have rx:=zn a nf (by omega)
 go_enter Tryz.func45,Tryz.ntmps45
 go_wp2_with fail;refine(zy _ _ _ (by omega)).mono ?_
 rintro e w1 ⟨rfl,rfl⟩;rw[HKK.out];go_wp2_with fail;go_quiet ((go_at_call 44;exact Calls.quiet_of_same (zy _ _ _ (by omega))))
 generalize zC a 8=A8 at *;generalize zC b 8=B8 at *;generalize zC c 8=C8 at *;go_wp2_with fail;go_quiet (fail)
 generalize hW9:World.drewN _ _=W9
 have b0:zH W9 w.heap.size [.slice fa nf fc,.slice ca nc cc,.int .i64 lk,.slice ka nk kc]:=by rw[←hW9];exact(((zH.mk w [.slice fa nf fc,.slice ca nc cc,.int .i64 lk,.slice ka nk kc] _ _ rfl).below (below_alloc1 _ _)).below (below_alloc1 _ _)).below (by repeat(first|exact Below.refl _ _|refine below_drewN ?_ _|refine Below.drew ?_))
 have b1:zH W9 (w.heap.size+1) [.int .i64 9,.int .i64 a,.int .i64 b,.int .i64 c]:=by rw[←hW9];exact((zH.mk (w.alloc (.cells #[.slice fa nf fc,.slice ca nc cc,.int .i64 lk,.slice ka nk kc] 26)) [.int .i64 9,.int .i64 a,.int .i64 b,.int .i64 c] 80 (w.heap.size+1) (by simp)).below (below_alloc1 _ _)).below (by repeat(first|exact Below.refl _ _|refine below_drewN ?_ _|refine Below.drew ?_))
 have b2:zH W9 (w.heap.size+1+1) [.int .i64 0,.int .i64 0,.int .i64 0,.int .i64 0]:=by rw[←hW9];exact(zH.mk ((w.alloc (.cells #[.slice fa nf fc,.slice ca nc cc,.int .i64 lk,.slice ka nk kc] 26)).alloc (.cells #[.int .i64 9,.int .i64 a,.int .i64 b,.int .i64 c] 80)) [.int .i64 0,.int .i64 0,.int .i64 0,.int .i64 0] 80 (w.heap.size+1+1) (by simp)).below (by repeat(first|exact Below.refl _ _|refine below_drewN ?_ _|refine Below.drew ?_))
 have b3:Below w.heap.size w W9:=by rw[←hW9];repeat(first|exact Below.refl _ _|refine below_drewN ?_ _|refine Below.drew ?_|refine Below.alloc ?_ (by first|(simp;done)|(simp;omega)) _)
 clear hW9;obtain⟨c00,-⟩:=b0 0 _ rfl;obtain⟨c01,-⟩:=b0 1 _ rfl;obtain⟨c02,-⟩:=b0 2 _ rfl;obtain⟨c03,-⟩:=b0 3 _ rfl;obtain⟨c10,-⟩:=b1 0 _ rfl;obtain⟨ZP,-⟩:=b1 1 _ rfl;obtain⟨Zw,-⟩:=b1 2 _ rfl;obtain⟨xS,-⟩:=b1 3 _ rfl;obtain⟨c20,d20⟩:=b2 0 _ rfl;obtain⟨c21,d21⟩:=b2 1 _ rfl;obtain⟨c22,d22⟩:=b2 2 _ rfl;obtain⟨c23,d23⟩:=b2 3 _ rfl;have HZ9:=Qq b2;have HB9:=Qq b3;clear b0 b1 b2 b3;go_wp2_with fail;refine wp_region_still_tail 9 (by kernel_rfl) (by kernel_rfl) ?_
 simp only[QX,QV,QQ,QJ];repeat(first|still_step|still_call (zy _ _ _ (by omega)))
 refine wpStill_nil ?_;generalize zC a ↑nf=X at *
 go_wp2_with fail;have e:=yB ((((((HZ9.out).below (zg _)).set 0 (.int .i64 (9))).set 1 (.int .i64 (X))).set 2 (.int .i64 (B8))).set 3 (.int .i64 (C8)))
 exact bodyPost_ret (zu Tryz.results45 _ ⟨w.heap.size+1+1,0,none⟩ rfl e) rfl (xd.mk (9) (X) (B8) (C8) (zX (by unfold yh;omega) (by omega) (by omega) (by first|(simp[goodB];done)|(simp[goodB,xz];done)|(simp[goodB,xz];omega))) (by unfold yh;omega) (HB9.out.trans (by repeat(first|exact Below.refl _ _|refine Below.setCell ?_ (by simp;omega) _|refine Below.drew ?_|refine below_drewN ?_ _))))
theorem Fh (fa:Option Addr)(nf fc:Nat)(ca:Option Addr)(nc cc:Nat)(lk:Int)(ka:Option Addr)(nk kc:Nat)(a0:Option Addr)(n cap:Nat)(o a b c:Int)(w:World)(hk:zC o 23=10)(hb:yh b)(h1:1≤nf∧nf≤100)(h2:nc≤100)(h3:nk≤100)(h4:0≤lk∧lk≤100)(h5:1≤n∧n≤100) :
  Calls Tryz.prog 45 #[pv fa nf fc ca nc cc lk ka nk kc,.slice a0 n cap,.agg #[.int .i64 o,.int .i64 a,.int .i64 b,.int .i64 c]] w fun e w'=>xd nf nc nk lk n w e w':=by
 have ra:=zn a 8 (by omega)
 have rb:=zn b 8 (by omega)
 have rc:=zn c 8 (by omega)
 have HKK:=Qq hk;unfold pv;clear hk;go_enter Tryz.func45,Tryz.ntmps45
 go_wp2_with fail;refine(zy _ _ _ (by omega)).mono ?_
 rintro e w1 ⟨rfl,rfl⟩;rw[HKK.out];go_wp2_with fail;go_quiet ((go_at_call 44;exact Calls.quiet_of_same (zy _ _ _ (by omega))))
 generalize zC a 8=A8 at *;generalize zC b 8=B8 at *;generalize zC c 8=C8 at *;go_wp2_with fail;go_quiet (fail)
 generalize hW9:World.drewN _ _=W9
 have b0:zH W9 w.heap.size [.slice fa nf fc,.slice ca nc cc,.int .i64 lk,.slice ka nk kc]:=by rw[←hW9];exact(((zH.mk w [.slice fa nf fc,.slice ca nc cc,.int .i64 lk,.slice ka nk kc] _ _ rfl).below (below_alloc1 _ _)).below (below_alloc1 _ _)).below (by repeat(first|exact Below.refl _ _|refine below_drewN ?_ _|refine Below.drew ?_))
 have b1:zH W9 (w.heap.size+1) [.int .i64 10,.int .i64 a,.int .i64 b,.int .i64 c]:=by rw[←hW9];exact((zH.mk (w.alloc (.cells #[.slice fa nf fc,.slice ca nc cc,.int .i64 lk,.slice ka nk kc] 26)) [.int .i64 10,.int .i64 a,.int .i64 b,.int .i64 c] 80 (w.heap.size+1) (by simp)).below (below_alloc1 _ _)).below (by repeat(first|exact Below.refl _ _|refine below_drewN ?_ _|refine Below.drew ?_))
 have b2:zH W9 (w.heap.size+1+1) [.int .i64 0,.int .i64 0,.int .i64 0,.int .i64 0]:=by rw[←hW9];exact(zH.mk ((w.alloc (.cells #[.slice fa nf fc,.slice ca nc cc,.int .i64 lk,.slice ka nk kc] 26)).alloc (.cells #[.int .i64 10,.int .i64 a,.int .i64 b,.int .i64 c] 80)) [.int .i64 0,.int .i64 0,.int .i64 0,.int .i64 0] 80 (w.heap.size+1+1) (by simp)).below (by repeat(first|exact Below.refl _ _|refine below_drewN ?_ _|refine Below.drew ?_))
 have b3:Below w.heap.size w W9:=by rw[←hW9];repeat(first|exact Below.refl _ _|refine below_drewN ?_ _|refine Below.drew ?_|refine Below.alloc ?_ (by first|(simp;done)|(simp;omega)) _)
 clear hW9;obtain⟨c00,-⟩:=b0 0 _ rfl;obtain⟨c01,-⟩:=b0 1 _ rfl;obtain⟨c02,-⟩:=b0 2 _ rfl;obtain⟨c03,-⟩:=b0 3 _ rfl;obtain⟨c10,-⟩:=b1 0 _ rfl;obtain⟨ZP,-⟩:=b1 1 _ rfl;obtain⟨Zw,-⟩:=b1 2 _ rfl;obtain⟨xS,-⟩:=b1 3 _ rfl;obtain⟨c20,d20⟩:=b2 0 _ rfl;obtain⟨c21,d21⟩:=b2 1 _ rfl;obtain⟨c22,d22⟩:=b2 2 _ rfl;obtain⟨c23,d23⟩:=b2 3 _ rfl;have HZ9:=Qq b2;have HB9:=Qq b3;clear b0 b1 b2 b3;go_wp2_with fail;have e:=yB ((((((HZ9.out)).set 0 (.int .i64 (10))).set 1 (.int .i64 (A8))).set 2 (.int .i64 (0))).set 3 (.int .i64 (0)))
 exact bodyPost_ret (zu Tryz.results45 _ ⟨w.heap.size+1+1,0,none⟩ rfl e) rfl (xd.mk (10) (A8) (0) (0) (zX (by unfold yh;omega) (by omega) (by omega) (by first|(simp[goodB];done)|(simp[goodB,xz];done)|(simp[goodB,xz];omega))) (by unfold yh;omega) (HB9.out.trans (by repeat(first|exact Below.refl _ _|refine Below.setCell ?_ (by simp;omega) _|refine Below.drew ?_|refine below_drewN ?_ _))))
theorem Fk (fa:Option Addr)(nf fc:Nat)(ca:Option Addr)(nc cc:Nat)(lk:Int)(ka:Option Addr)(nk kc:Nat)(a0:Option Addr)(n cap:Nat)(o a b c:Int)(w:World)(hk:zC o 23=11)(hb:yh b)(h1:1≤nf∧nf≤100)(h2:nc≤100)(h3:nk≤100)(h4:0≤lk∧lk≤100)(h5:1≤n∧n≤100) :
  Calls Tryz.prog 45 #[pv fa nf fc ca nc cc lk ka nk kc,.slice a0 n cap,.agg #[.int .i64 o,.int .i64 a,.int .i64 b,.int .i64 c]] w fun e w'=>xd nf nc nk lk n w e w':=by
 have ra:=zn a 8 (by omega)
 have rb:=zn b 8 (by omega)
 have rc:=zn c 8 (by omega)
 have HKK:=Qq hk;unfold pv;clear hk;have rx:=zn a nf (by omega)
 go_enter Tryz.func45,Tryz.ntmps45
 go_wp2_with fail;refine(zy _ _ _ (by omega)).mono ?_
 rintro e w1 ⟨rfl,rfl⟩;rw[HKK.out];go_wp2_with fail;go_quiet ((go_at_call 44;exact Calls.quiet_of_same (zy _ _ _ (by omega))))
 generalize zC a 8=A8 at *;generalize zC b 8=B8 at *;generalize zC c 8=C8 at *;go_wp2_with fail;go_quiet (fail)
 generalize hW9:World.drewN _ _=W9
 have b0:zH W9 w.heap.size [.slice fa nf fc,.slice ca nc cc,.int .i64 lk,.slice ka nk kc]:=by rw[←hW9];exact(((zH.mk w [.slice fa nf fc,.slice ca nc cc,.int .i64 lk,.slice ka nk kc] _ _ rfl).below (below_alloc1 _ _)).below (below_alloc1 _ _)).below (by repeat(first|exact Below.refl _ _|refine below_drewN ?_ _|refine Below.drew ?_))
 have b1:zH W9 (w.heap.size+1) [.int .i64 11,.int .i64 a,.int .i64 b,.int .i64 c]:=by rw[←hW9];exact((zH.mk (w.alloc (.cells #[.slice fa nf fc,.slice ca nc cc,.int .i64 lk,.slice ka nk kc] 26)) [.int .i64 11,.int .i64 a,.int .i64 b,.int .i64 c] 80 (w.heap.size+1) (by simp)).below (below_alloc1 _ _)).below (by repeat(first|exact Below.refl _ _|refine below_drewN ?_ _|refine Below.drew ?_))
 have b2:zH W9 (w.heap.size+1+1) [.int .i64 0,.int .i64 0,.int .i64 0,.int .i64 0]:=by rw[←hW9];exact(zH.mk ((w.alloc (.cells #[.slice fa nf fc,.slice ca nc cc,.int .i64 lk,.slice ka nk kc] 26)).alloc (.cells #[.int .i64 11,.int .i64 a,.int .i64 b,.int .i64 c] 80)) [.int .i64 0,.int .i64 0,.int .i64 0,.int .i64 0] 80 (w.heap.size+1+1) (by simp)).below (by repeat(first|exact Below.refl _ _|refine below_drewN ?_ _|refine Below.drew ?_))
 have b3:Below w.heap.size w W9:=by rw[←hW9];repeat(first|exact Below.refl _ _|refine below_drewN ?_ _|refine Below.drew ?_|refine Below.alloc ?_ (by first|(simp;done)|(simp;omega)) _)
 clear hW9;obtain⟨c00,-⟩:=b0 0 _ rfl;obtain⟨c01,-⟩:=b0 1 _ rfl;obtain⟨c02,-⟩:=b0 2 _ rfl;obtain⟨c03,-⟩:=b0 3 _ rfl;obtain⟨c10,-⟩:=b1 0 _ rfl;obtain⟨ZP,-⟩:=b1 1 _ rfl;obtain⟨Zw,-⟩:=b1 2 _ rfl;obtain⟨xS,-⟩:=b1 3 _ rfl;obtain⟨c20,d20⟩:=b2 0 _ rfl;obtain⟨c21,d21⟩:=b2 1 _ rfl;obtain⟨c22,d22⟩:=b2 2 _ rfl;obtain⟨c23,d23⟩:=b2 3 _ rfl;have HZ9:=Qq b2;have HB9:=Qq b3;clear b0 b1 b2 b3;go_wp2_with fail;refine wp_region_still_tail 9 (by kernel_rfl) (by kernel_rfl) ?_
 simp only[QX,QV,QQ,QJ];repeat(first|still_step|still_call (zy _ _ _ (by omega)))
 refine wpStill_nil ?_;generalize zC a ↑nf=X at *
 go_wp2_with fail;have e:=yB ((((((HZ9.out).below (zg _)).set 0 (.int .i64 (11))).set 1 (.int .i64 (X))).set 2 (.int .i64 (B8))).set 3 (.int .i64 (C8)))
 exact bodyPost_ret (zu Tryz.results45 _ ⟨w.heap.size+1+1,0,none⟩ rfl e) rfl (xd.mk (11) (X) (B8) (C8) (zX (by unfold yh;omega) (by omega) (by omega) (by first|(simp[goodB];done)|(simp[goodB,xz];done)|(simp[goodB,xz];omega))) (by unfold yh;omega) (HB9.out.trans (by repeat(first|exact Below.refl _ _|refine Below.setCell ?_ (by simp;omega) _|refine Below.drew ?_|refine below_drewN ?_ _))))
theorem Ga (fa:Option Addr)(nf fc:Nat)(ca:Option Addr)(nc cc:Nat)(lk:Int)(ka:Option Addr)(nk kc:Nat)(a0:Option Addr)(n cap:Nat)(o a b c:Int)(w:World)(hk:zC o 23=12)(hb:yh b)(h1:1≤nf∧nf≤100)(h2:nc≤100)(h3:nk≤100)(h4:0≤lk∧lk≤100)(h5:1≤n∧n≤100) :
  Calls Tryz.prog 45 #[pv fa nf fc ca nc cc lk ka nk kc,.slice a0 n cap,.agg #[.int .i64 o,.int .i64 a,.int .i64 b,.int .i64 c]] w fun e w'=>xd nf nc nk lk n w e w':=by
 have ra:=zn a 8 (by omega)
 have rb:=zn b 8 (by omega)
 have rc:=zn c 8 (by omega)
 have HKK:=Qq hk;unfold pv;clear hk;go_enter Tryz.func45,Tryz.ntmps45
 go_wp2_with fail;refine(zy _ _ _ (by omega)).mono ?_
 rintro e w1 ⟨rfl,rfl⟩;rw[HKK.out];go_wp2_with fail;go_quiet ((go_at_call 44;exact Calls.quiet_of_same (zy _ _ _ (by omega))))
 generalize zC a 8=A8 at *;generalize zC b 8=B8 at *;generalize zC c 8=C8 at *;go_wp2_with fail;go_quiet (fail)
 generalize hW9:World.drewN _ _=W9
 have b0:zH W9 w.heap.size [.slice fa nf fc,.slice ca nc cc,.int .i64 lk,.slice ka nk kc]:=by rw[←hW9];exact(((zH.mk w [.slice fa nf fc,.slice ca nc cc,.int .i64 lk,.slice ka nk kc] _ _ rfl).below (below_alloc1 _ _)).below (below_alloc1 _ _)).below (by repeat(first|exact Below.refl _ _|refine below_drewN ?_ _|refine Below.drew ?_))
 have b1:zH W9 (w.heap.size+1) [.int .i64 12,.int .i64 a,.int .i64 b,.int .i64 c]:=by rw[←hW9];exact((zH.mk (w.alloc (.cells #[.slice fa nf fc,.slice ca nc cc,.int .i64 lk,.slice ka nk kc] 26)) [.int .i64 12,.int .i64 a,.int .i64 b,.int .i64 c] 80 (w.heap.size+1) (by simp)).below (below_alloc1 _ _)).below (by repeat(first|exact Below.refl _ _|refine below_drewN ?_ _|refine Below.drew ?_))
 have b2:zH W9 (w.heap.size+1+1) [.int .i64 0,.int .i64 0,.int .i64 0,.int .i64 0]:=by rw[←hW9];exact(zH.mk ((w.alloc (.cells #[.slice fa nf fc,.slice ca nc cc,.int .i64 lk,.slice ka nk kc] 26)).alloc (.cells #[.int .i64 12,.int .i64 a,.int .i64 b,.int .i64 c] 80)) [.int .i64 0,.int .i64 0,.int .i64 0,.int .i64 0] 80 (w.heap.size+1+1) (by simp)).below (by repeat(first|exact Below.refl _ _|refine below_drewN ?_ _|refine Below.drew ?_))
 have b3:Below w.heap.size w W9:=by rw[←hW9];repeat(first|exact Below.refl _ _|refine below_drewN ?_ _|refine Below.drew ?_|refine Below.alloc ?_ (by first|(simp;done)|(simp;omega)) _)
 clear hW9;obtain⟨c00,-⟩:=b0 0 _ rfl;obtain⟨c01,-⟩:=b0 1 _ rfl;obtain⟨c02,-⟩:=b0 2 _ rfl;obtain⟨c03,-⟩:=b0 3 _ rfl;obtain⟨c10,-⟩:=b1 0 _ rfl;obtain⟨ZP,-⟩:=b1 1 _ rfl;obtain⟨Zw,-⟩:=b1 2 _ rfl;obtain⟨xS,-⟩:=b1 3 _ rfl;obtain⟨c20,d20⟩:=b2 0 _ rfl;obtain⟨c21,d21⟩:=b2 1 _ rfl;obtain⟨c22,d22⟩:=b2 2 _ rfl;obtain⟨c23,d23⟩:=b2 3 _ rfl;have HZ9:=Qq b2;have HB9:=Qq b3;clear b0 b1 b2 b3;go_wp2_with fail;have e:=yB ((((((HZ9.out)).set 0 (.int .i64 (12))).set 1 (.int .i64 (0))).set 2 (.int .i64 (0))).set 3 (.int .i64 (0)))
 exact bodyPost_ret (zu Tryz.results45 _ ⟨w.heap.size+1+1,0,none⟩ rfl e) rfl (xd.mk (12) (0) (0) (0) (zX (by unfold yh;omega) (by omega) (by omega) (by first|(simp[goodB];done)|(simp[goodB,xz];done)|(simp[goodB,xz];omega))) (by unfold yh;omega) (HB9.out.trans (by repeat(first|exact Below.refl _ _|refine Below.setCell ?_ (by simp;omega) _|refine Below.drew ?_|refine below_drewN ?_ _))))
theorem Fl (fa:Option Addr)(nf fc:Nat)(ca:Option Addr)(nc cc:Nat)(lk:Int)(ka:Option Addr)(nk kc:Nat)(a0:Option Addr)(n cap:Nat)(o a b c:Int)(w:World)(hk:zC o 23=16)(hb:yh b)(h1:1≤nf∧nf≤100)(h2:nc≤100)(h3:nk≤100)(h4:0≤lk∧lk≤100)(h5:1≤n∧n≤100) :
  Calls Tryz.prog 45 #[pv fa nf fc ca nc cc lk ka nk kc,.slice a0 n cap,.agg #[.int .i64 o,.int .i64 a,.int .i64 b,.int .i64 c]] w fun e w'=>xd nf nc nk lk n w e w':=by
 have ra:=zn a 8 (by omega)
 have rb:=zn b 8 (by omega)
 have rc:=zn c 8 (by omega)
 have HKK:=Qq hk;unfold pv;clear hk;by_cases hz:nk=0
 ·subst hz
  go_enter Tryz.func45,Tryz.ntmps45
  go_wp2_with fail;refine(zy _ _ _ (by omega)).mono ?_
  rintro e w1 ⟨rfl,rfl⟩;rw[HKK.out];go_wp2_with fail;go_quiet ((go_at_call 44;exact Calls.quiet_of_same (zy _ _ _ (by omega))))
  generalize zC a 8=A8 at *;generalize zC b 8=B8 at *;generalize zC c 8=C8 at *;go_wp2_with fail;go_quiet (fail)
  generalize hW9:World.drewN _ _=W9
  have b0:zH W9 w.heap.size [.slice fa nf fc,.slice ca nc cc,.int .i64 lk,.slice ka 0 kc]:=by rw[←hW9];exact(((zH.mk w [.slice fa nf fc,.slice ca nc cc,.int .i64 lk,.slice ka 0 kc] _ _ rfl).below (below_alloc1 _ _)).below (below_alloc1 _ _)).below (by repeat(first|exact Below.refl _ _|refine below_drewN ?_ _|refine Below.drew ?_))
  have b1:zH W9 (w.heap.size+1) [.int .i64 16,.int .i64 a,.int .i64 b,.int .i64 c]:=by rw[←hW9];exact((zH.mk (w.alloc (.cells #[.slice fa nf fc,.slice ca nc cc,.int .i64 lk,.slice ka 0 kc] 26)) [.int .i64 16,.int .i64 a,.int .i64 b,.int .i64 c] 80 (w.heap.size+1) (by simp)).below (below_alloc1 _ _)).below (by repeat(first|exact Below.refl _ _|refine below_drewN ?_ _|refine Below.drew ?_))
  have b2:zH W9 (w.heap.size+1+1) [.int .i64 0,.int .i64 0,.int .i64 0,.int .i64 0]:=by rw[←hW9];exact(zH.mk ((w.alloc (.cells #[.slice fa nf fc,.slice ca nc cc,.int .i64 lk,.slice ka 0 kc] 26)).alloc (.cells #[.int .i64 16,.int .i64 a,.int .i64 b,.int .i64 c] 80)) [.int .i64 0,.int .i64 0,.int .i64 0,.int .i64 0] 80 (w.heap.size+1+1) (by simp)).below (by repeat(first|exact Below.refl _ _|refine below_drewN ?_ _|refine Below.drew ?_))
  have b3:Below w.heap.size w W9:=by rw[←hW9];repeat(first|exact Below.refl _ _|refine below_drewN ?_ _|refine Below.drew ?_|refine Below.alloc ?_ (by first|(simp;done)|(simp;omega)) _)
  clear hW9;obtain⟨c00,-⟩:=b0 0 _ rfl;obtain⟨c01,-⟩:=b0 1 _ rfl;obtain⟨c02,-⟩:=b0 2 _ rfl;obtain⟨c03,-⟩:=b0 3 _ rfl;obtain⟨c10,-⟩:=b1 0 _ rfl;obtain⟨ZP,-⟩:=b1 1 _ rfl;obtain⟨Zw,-⟩:=b1 2 _ rfl;obtain⟨xS,-⟩:=b1 3 _ rfl;obtain⟨c20,d20⟩:=b2 0 _ rfl;obtain⟨c21,d21⟩:=b2 1 _ rfl;obtain⟨c22,d22⟩:=b2 2 _ rfl;obtain⟨c23,d23⟩:=b2 3 _ rfl;have HZ9:=Qq b2;have HB9:=Qq b3;clear b0 b1 b2 b3;go_wp2_with fail;have e:=yB ((((((HZ9.out)).set 0 (.int .i64 (0))).set 1 (.int .i64 (0))).set 2 (.int .i64 (0))).set 3 (.int .i64 (0)))
  exact bodyPost_ret (zu Tryz.results45 _ ⟨w.heap.size+1+1,0,none⟩ rfl e) rfl (xd.mk (0) (0) (0) (0) (zX (by unfold yh;omega) (by omega) (by omega) (by first|(simp[goodB];done)|(simp[goodB,xz];done)|(simp[goodB,xz];omega))) (by unfold yh;omega) (HB9.out.trans (by repeat(first|exact Below.refl _ _|refine Below.setCell ?_ (by simp;omega) _|refine Below.drew ?_|refine below_drewN ?_ _))))
 ·skip
  have rx:=zn a nk (by omega)
  have ry:=zn b (nk-zC a nk) (by omega)
  have hz2:¬(nk:Int)=0:=by omega
  go_enter Tryz.func45,Tryz.ntmps45
  go_wp2_with fail;refine(zy _ _ _ (by omega)).mono ?_
  rintro e w1 ⟨rfl,rfl⟩;rw[HKK.out];go_wp2_with fail;go_quiet ((go_at_call 44;exact Calls.quiet_of_same (zy _ _ _ (by omega))))
  generalize zC a 8=A8 at *;generalize zC b 8=B8 at *;generalize zC c 8=C8 at *;go_wp2_with fail;go_quiet (fail)
  generalize hW9:World.drewN _ _=W9
  have b0:zH W9 w.heap.size [.slice fa nf fc,.slice ca nc cc,.int .i64 lk,.slice ka nk kc]:=by rw[←hW9];exact(((zH.mk w [.slice fa nf fc,.slice ca nc cc,.int .i64 lk,.slice ka nk kc] _ _ rfl).below (below_alloc1 _ _)).below (below_alloc1 _ _)).below (by repeat(first|exact Below.refl _ _|refine below_drewN ?_ _|refine Below.drew ?_))
  have b1:zH W9 (w.heap.size+1) [.int .i64 16,.int .i64 a,.int .i64 b,.int .i64 c]:=by rw[←hW9];exact((zH.mk (w.alloc (.cells #[.slice fa nf fc,.slice ca nc cc,.int .i64 lk,.slice ka nk kc] 26)) [.int .i64 16,.int .i64 a,.int .i64 b,.int .i64 c] 80 (w.heap.size+1) (by simp)).below (below_alloc1 _ _)).below (by repeat(first|exact Below.refl _ _|refine below_drewN ?_ _|refine Below.drew ?_))
  have b2:zH W9 (w.heap.size+1+1) [.int .i64 0,.int .i64 0,.int .i64 0,.int .i64 0]:=by rw[←hW9];exact(zH.mk ((w.alloc (.cells #[.slice fa nf fc,.slice ca nc cc,.int .i64 lk,.slice ka nk kc] 26)).alloc (.cells #[.int .i64 16,.int .i64 a,.int .i64 b,.int .i64 c] 80)) [.int .i64 0,.int .i64 0,.int .i64 0,.int .i64 0] 80 (w.heap.size+1+1) (by simp)).below (by repeat(first|exact Below.refl _ _|refine below_drewN ?_ _|refine Below.drew ?_))
  have b3:Below w.heap.size w W9:=by rw[←hW9];repeat(first|exact Below.refl _ _|refine below_drewN ?_ _|refine Below.drew ?_|refine Below.alloc ?_ (by first|(simp;done)|(simp;omega)) _)
  clear hW9;obtain⟨c00,-⟩:=b0 0 _ rfl;obtain⟨c01,-⟩:=b0 1 _ rfl;obtain⟨c02,-⟩:=b0 2 _ rfl;obtain⟨c03,-⟩:=b0 3 _ rfl;obtain⟨c10,-⟩:=b1 0 _ rfl;obtain⟨ZP,-⟩:=b1 1 _ rfl;obtain⟨Zw,-⟩:=b1 2 _ rfl;obtain⟨xS,-⟩:=b1 3 _ rfl;obtain⟨c20,d20⟩:=b2 0 _ rfl;obtain⟨c21,d21⟩:=b2 1 _ rfl;obtain⟨c22,d22⟩:=b2 2 _ rfl;obtain⟨c23,d23⟩:=b2 3 _ rfl;have HZ9:=Qq b2;have HB9:=Qq b3;clear b0 b1 b2 b3;go_wp2_with fail;refine(zy _ _ _ (by omega)).mono ?_
  rintro e w1 ⟨rfl,rfl⟩;generalize zC a ↑nk=X at *
  go_wp2_with fail;refine(zy _ _ _ (by omega)).mono ?_
  rintro e w1 ⟨rfl,rfl⟩;generalize zC b (↑nk-X)=Y at *
  go_wp2_with fail;have e:=yB ((((((HZ9.out)).set 0 (.int .i64 (16))).set 1 (.int .i64 (X))).set 2 (.int .i64 (1+Y))).set 3 (.int .i64 (C8)))
  exact bodyPost_ret (zu Tryz.results45 _ ⟨w.heap.size+1+1,0,none⟩ rfl e) rfl (xd.mk (16) (X) (1+Y) (C8) (zX (by unfold yh;omega) (by omega) (by omega) (by first|(simp[goodB];done)|(simp[goodB,xz];done)|(simp[goodB,xz];omega))) (by unfold yh;omega) (HB9.out.trans (by repeat(first|exact Below.refl _ _|refine Below.setCell ?_ (by simp;omega) _|refine Below.drew ?_|refine below_drewN ?_ _))))
theorem GR (fa:Option Addr)(nf fc:Nat)(ca:Option Addr)(nc cc:Nat)(lk:Int)(ka:Option Addr)(nk kc:Nat)(a0:Option Addr)(n cap:Nat)(o a b c:Int)(w:World)(hk:zC o 23=17)(hb:yh b)(h1:1≤nf∧nf≤100)(h2:nc≤100)(h3:nk≤100)(h4:0≤lk∧lk≤100)(h5:1≤n∧n≤100) :
  Calls Tryz.prog 45 #[pv fa nf fc ca nc cc lk ka nk kc,.slice a0 n cap,.agg #[.int .i64 o,.int .i64 a,.int .i64 b,.int .i64 c]] w fun e w'=>xd nf nc nk lk n w e w':=by
 have ra:=zn a 8 (by omega)
 have rb:=zn b 8 (by omega)
 have rc:=zn c 8 (by omega)
 have HKK:=Qq hk;unfold pv;clear hk;go_enter Tryz.func45,Tryz.ntmps45
 go_wp2_with fail;refine(zy _ _ _ (by omega)).mono ?_
 rintro e w1 ⟨rfl,rfl⟩;rw[HKK.out];go_wp2_with fail;go_quiet ((go_at_call 44;exact Calls.quiet_of_same (zy _ _ _ (by omega))))
 generalize zC a 8=A8 at *;generalize zC b 8=B8 at *;generalize zC c 8=C8 at *;go_wp2_with fail;go_quiet (fail)
 generalize hW9:World.drewN _ _=W9
 have b0:zH W9 w.heap.size [.slice fa nf fc,.slice ca nc cc,.int .i64 lk,.slice ka nk kc]:=by rw[←hW9];exact(((zH.mk w [.slice fa nf fc,.slice ca nc cc,.int .i64 lk,.slice ka nk kc] _ _ rfl).below (below_alloc1 _ _)).below (below_alloc1 _ _)).below (by repeat(first|exact Below.refl _ _|refine below_drewN ?_ _|refine Below.drew ?_))
 have b1:zH W9 (w.heap.size+1) [.int .i64 17,.int .i64 a,.int .i64 b,.int .i64 c]:=by rw[←hW9];exact((zH.mk (w.alloc (.cells #[.slice fa nf fc,.slice ca nc cc,.int .i64 lk,.slice ka nk kc] 26)) [.int .i64 17,.int .i64 a,.int .i64 b,.int .i64 c] 80 (w.heap.size+1) (by simp)).below (below_alloc1 _ _)).below (by repeat(first|exact Below.refl _ _|refine below_drewN ?_ _|refine Below.drew ?_))
 have b2:zH W9 (w.heap.size+1+1) [.int .i64 0,.int .i64 0,.int .i64 0,.int .i64 0]:=by rw[←hW9];exact(zH.mk ((w.alloc (.cells #[.slice fa nf fc,.slice ca nc cc,.int .i64 lk,.slice ka nk kc] 26)).alloc (.cells #[.int .i64 17,.int .i64 a,.int .i64 b,.int .i64 c] 80)) [.int .i64 0,.int .i64 0,.int .i64 0,.int .i64 0] 80 (w.heap.size+1+1) (by simp)).below (by repeat(first|exact Below.refl _ _|refine below_drewN ?_ _|refine Below.drew ?_))
 have b3:Below w.heap.size w W9:=by rw[←hW9];repeat(first|exact Below.refl _ _|refine below_drewN ?_ _|refine Below.drew ?_|refine Below.alloc ?_ (by first|(simp;done)|(simp;omega)) _)
 clear hW9;obtain⟨c00,-⟩:=b0 0 _ rfl;obtain⟨c01,-⟩:=b0 1 _ rfl;obtain⟨c02,-⟩:=b0 2 _ rfl;obtain⟨c03,-⟩:=b0 3 _ rfl;obtain⟨c10,-⟩:=b1 0 _ rfl;obtain⟨ZP,-⟩:=b1 1 _ rfl;obtain⟨Zw,-⟩:=b1 2 _ rfl;obtain⟨xS,-⟩:=b1 3 _ rfl;obtain⟨c20,d20⟩:=b2 0 _ rfl;obtain⟨c21,d21⟩:=b2 1 _ rfl;obtain⟨c22,d22⟩:=b2 2 _ rfl;obtain⟨c23,d23⟩:=b2 3 _ rfl;have HZ9:=Qq b2;have HB9:=Qq b3;clear b0 b1 b2 b3;go_wp2_with fail;have e:=yB ((((((HZ9.out)).set 0 (.int .i64 (17))).set 1 (.int .i64 (A8))).set 2 (.int .i64 (0))).set 3 (.int .i64 (0)))
 exact bodyPost_ret (zu Tryz.results45 _ ⟨w.heap.size+1+1,0,none⟩ rfl e) rfl (xd.mk (17) (A8) (0) (0) (zX (by unfold yh;omega) (by omega) (by omega) (by first|(simp[goodB];done)|(simp[goodB,xz];done)|(simp[goodB,xz];omega))) (by unfold yh;omega) (HB9.out.trans (by repeat(first|exact Below.refl _ _|refine Below.setCell ?_ (by simp;omega) _|refine Below.drew ?_|refine below_drewN ?_ _))))
theorem G7 (fa:Option Addr)(nf fc:Nat)(ca:Option Addr)(nc cc:Nat)(lk:Int)(ka:Option Addr)(nk kc:Nat)(a0:Option Addr)(n cap:Nat)(o a b c:Int)(w:World)(hk:zC o 23=18)(hb:yh b)(h1:1≤nf∧nf≤100)(h2:nc≤100)(h3:nk≤100)(h4:0≤lk∧lk≤100)(h5:1≤n∧n≤100) :
  Calls Tryz.prog 45 #[pv fa nf fc ca nc cc lk ka nk kc,.slice a0 n cap,.agg #[.int .i64 o,.int .i64 a,.int .i64 b,.int .i64 c]] w fun e w'=>xd nf nc nk lk n w e w':=by
 have ra:=zn a 8 (by omega)
 have rb:=zn b 8 (by omega)
 have rc:=zn c 8 (by omega)
 have HKK:=Qq hk;unfold pv;clear hk;by_cases hz:lk=0
 ·subst hz
  go_enter Tryz.func45,Tryz.ntmps45
  go_wp2_with fail;refine(zy _ _ _ (by omega)).mono ?_
  rintro e w1 ⟨rfl,rfl⟩;rw[HKK.out];go_wp2_with fail;go_quiet ((go_at_call 44;exact Calls.quiet_of_same (zy _ _ _ (by omega))))
  generalize zC a 8=A8 at *;generalize zC b 8=B8 at *;generalize zC c 8=C8 at *;go_wp2_with fail;go_quiet (fail)
  generalize hW9:World.drewN _ _=W9
  have b0:zH W9 w.heap.size [.slice fa nf fc,.slice ca nc cc,.int .i64 0,.slice ka nk kc]:=by rw[←hW9];exact(((zH.mk w [.slice fa nf fc,.slice ca nc cc,.int .i64 0,.slice ka nk kc] _ _ rfl).below (below_alloc1 _ _)).below (below_alloc1 _ _)).below (by repeat(first|exact Below.refl _ _|refine below_drewN ?_ _|refine Below.drew ?_))
  have b1:zH W9 (w.heap.size+1) [.int .i64 18,.int .i64 a,.int .i64 b,.int .i64 c]:=by rw[←hW9];exact((zH.mk (w.alloc (.cells #[.slice fa nf fc,.slice ca nc cc,.int .i64 0,.slice ka nk kc] 26)) [.int .i64 18,.int .i64 a,.int .i64 b,.int .i64 c] 80 (w.heap.size+1) (by simp)).below (below_alloc1 _ _)).below (by repeat(first|exact Below.refl _ _|refine below_drewN ?_ _|refine Below.drew ?_))
  have b2:zH W9 (w.heap.size+1+1) [.int .i64 0,.int .i64 0,.int .i64 0,.int .i64 0]:=by rw[←hW9];exact(zH.mk ((w.alloc (.cells #[.slice fa nf fc,.slice ca nc cc,.int .i64 0,.slice ka nk kc] 26)).alloc (.cells #[.int .i64 18,.int .i64 a,.int .i64 b,.int .i64 c] 80)) [.int .i64 0,.int .i64 0,.int .i64 0,.int .i64 0] 80 (w.heap.size+1+1) (by simp)).below (by repeat(first|exact Below.refl _ _|refine below_drewN ?_ _|refine Below.drew ?_))
  have b3:Below w.heap.size w W9:=by rw[←hW9];repeat(first|exact Below.refl _ _|refine below_drewN ?_ _|refine Below.drew ?_|refine Below.alloc ?_ (by first|(simp;done)|(simp;omega)) _)
  clear hW9;obtain⟨c00,-⟩:=b0 0 _ rfl;obtain⟨c01,-⟩:=b0 1 _ rfl;obtain⟨c02,-⟩:=b0 2 _ rfl;obtain⟨c03,-⟩:=b0 3 _ rfl;obtain⟨c10,-⟩:=b1 0 _ rfl;obtain⟨ZP,-⟩:=b1 1 _ rfl;obtain⟨Zw,-⟩:=b1 2 _ rfl;obtain⟨xS,-⟩:=b1 3 _ rfl;obtain⟨c20,d20⟩:=b2 0 _ rfl;obtain⟨c21,d21⟩:=b2 1 _ rfl;obtain⟨c22,d22⟩:=b2 2 _ rfl;obtain⟨c23,d23⟩:=b2 3 _ rfl;have HZ9:=Qq b2;have HB9:=Qq b3;clear b0 b1 b2 b3;go_wp2_with fail;have e:=yB ((((((HZ9.out)).set 0 (.int .i64 (0))).set 1 (.int .i64 (0))).set 2 (.int .i64 (0))).set 3 (.int .i64 (0)))
  exact bodyPost_ret (zu Tryz.results45 _ ⟨w.heap.size+1+1,0,none⟩ rfl e) rfl (xd.mk (0) (0) (0) (0) (zX (by unfold yh;omega) (by omega) (by omega) (by first|(simp[goodB];done)|(simp[goodB,xz];done)|(simp[goodB,xz];omega))) (by unfold yh;omega) (HB9.out.trans (by repeat(first|exact Below.refl _ _|refine Below.setCell ?_ (by simp;omega) _|refine Below.drew ?_|refine below_drewN ?_ _))))
 ·skip
  have rx:=zn a lk (by omega)
  go_enter Tryz.func45,Tryz.ntmps45
  go_wp2_with fail;refine(zy _ _ _ (by omega)).mono ?_
  rintro e w1 ⟨rfl,rfl⟩;rw[HKK.out];go_wp2_with fail;go_quiet ((go_at_call 44;exact Calls.quiet_of_same (zy _ _ _ (by omega))))
  generalize zC a 8=A8 at *;generalize zC b 8=B8 at *;generalize zC c 8=C8 at *;go_wp2_with fail;go_quiet (fail)
  generalize hW9:World.drewN _ _=W9
  have b0:zH W9 w.heap.size [.slice fa nf fc,.slice ca nc cc,.int .i64 lk,.slice ka nk kc]:=by rw[←hW9];exact(((zH.mk w [.slice fa nf fc,.slice ca nc cc,.int .i64 lk,.slice ka nk kc] _ _ rfl).below (below_alloc1 _ _)).below (below_alloc1 _ _)).below (by repeat(first|exact Below.refl _ _|refine below_drewN ?_ _|refine Below.drew ?_))
  have b1:zH W9 (w.heap.size+1) [.int .i64 18,.int .i64 a,.int .i64 b,.int .i64 c]:=by rw[←hW9];exact((zH.mk (w.alloc (.cells #[.slice fa nf fc,.slice ca nc cc,.int .i64 lk,.slice ka nk kc] 26)) [.int .i64 18,.int .i64 a,.int .i64 b,.int .i64 c] 80 (w.heap.size+1) (by simp)).below (below_alloc1 _ _)).below (by repeat(first|exact Below.refl _ _|refine below_drewN ?_ _|refine Below.drew ?_))
  have b2:zH W9 (w.heap.size+1+1) [.int .i64 0,.int .i64 0,.int .i64 0,.int .i64 0]:=by rw[←hW9];exact(zH.mk ((w.alloc (.cells #[.slice fa nf fc,.slice ca nc cc,.int .i64 lk,.slice ka nk kc] 26)).alloc (.cells #[.int .i64 18,.int .i64 a,.int .i64 b,.int .i64 c] 80)) [.int .i64 0,.int .i64 0,.int .i64 0,.int .i64 0] 80 (w.heap.size+1+1) (by simp)).below (by repeat(first|exact Below.refl _ _|refine below_drewN ?_ _|refine Below.drew ?_))
  have b3:Below w.heap.size w W9:=by rw[←hW9];repeat(first|exact Below.refl _ _|refine below_drewN ?_ _|refine Below.drew ?_|refine Below.alloc ?_ (by first|(simp;done)|(simp;omega)) _)
  clear hW9;obtain⟨c00,-⟩:=b0 0 _ rfl;obtain⟨c01,-⟩:=b0 1 _ rfl;obtain⟨c02,-⟩:=b0 2 _ rfl;obtain⟨c03,-⟩:=b0 3 _ rfl;obtain⟨c10,-⟩:=b1 0 _ rfl;obtain⟨ZP,-⟩:=b1 1 _ rfl;obtain⟨Zw,-⟩:=b1 2 _ rfl;obtain⟨xS,-⟩:=b1 3 _ rfl;obtain⟨c20,d20⟩:=b2 0 _ rfl;obtain⟨c21,d21⟩:=b2 1 _ rfl;obtain⟨c22,d22⟩:=b2 2 _ rfl;obtain⟨c23,d23⟩:=b2 3 _ rfl;have HZ9:=Qq b2;have HB9:=Qq b3;clear b0 b1 b2 b3;go_wp2_with fail;refine wp_region_still_tail 8 (by kernel_rfl) (by kernel_rfl) ?_
  simp only[QX,QV,QQ,QJ];repeat(first|still_step|still_call (zy _ _ _ (by omega)))
  refine wpStill_nil ?_;generalize zC a lk=X at *;go_wp2_with fail;have e:=yB ((((((HZ9.out).below (zg _)).set 0 (.int .i64 (18))).set 1 (.int .i64 (X))).set 2 (.int .i64 (0))).set 3 (.int .i64 (0)))
  exact bodyPost_ret (zu Tryz.results45 _ ⟨w.heap.size+1+1,0,none⟩ rfl e) rfl (xd.mk (18) (X) (0) (0) (zX (by unfold yh;omega) (by omega) (by omega) (by first|(simp[goodB];done)|(simp[goodB,xz];done)|(simp[goodB,xz];omega))) (by unfold yh;omega) (HB9.out.trans (by repeat(first|exact Below.refl _ _|refine Below.setCell ?_ (by simp;omega) _|refine Below.drew ?_|refine below_drewN ?_ _))))
theorem GF (fa:Option Addr)(nf fc:Nat)(ca:Option Addr)(nc cc:Nat)(lk:Int)(ka:Option Addr)(nk kc:Nat)(a0:Option Addr)(n cap:Nat)(o a b c:Int)(w:World)(hk:zC o 23=19)(hb:yh b)(h1:1≤nf∧nf≤100)(h2:nc≤100)(h3:nk≤100)(h4:0≤lk∧lk≤100)(h5:1≤n∧n≤100) :
  Calls Tryz.prog 45 #[pv fa nf fc ca nc cc lk ka nk kc,.slice a0 n cap,.agg #[.int .i64 o,.int .i64 a,.int .i64 b,.int .i64 c]] w fun e w'=>xd nf nc nk lk n w e w':=by
 have ra:=zn a 8 (by omega)
 have rb:=zn b 8 (by omega)
 have rc:=zn c 8 (by omega)
 have HKK:=Qq hk;unfold pv;clear hk;by_cases hz:lk=0
 ·subst hz
  go_enter Tryz.func45,Tryz.ntmps45
  go_wp2_with fail;refine(zy _ _ _ (by omega)).mono ?_
  rintro e w1 ⟨rfl,rfl⟩;rw[HKK.out];go_wp2_with fail;go_quiet ((go_at_call 44;exact Calls.quiet_of_same (zy _ _ _ (by omega))))
  generalize zC a 8=A8 at *;generalize zC b 8=B8 at *;generalize zC c 8=C8 at *;go_wp2_with fail;go_quiet (fail)
  generalize hW9:World.drewN _ _=W9
  have b0:zH W9 w.heap.size [.slice fa nf fc,.slice ca nc cc,.int .i64 0,.slice ka nk kc]:=by rw[←hW9];exact(((zH.mk w [.slice fa nf fc,.slice ca nc cc,.int .i64 0,.slice ka nk kc] _ _ rfl).below (below_alloc1 _ _)).below (below_alloc1 _ _)).below (by repeat(first|exact Below.refl _ _|refine below_drewN ?_ _|refine Below.drew ?_))
  have b1:zH W9 (w.heap.size+1) [.int .i64 19,.int .i64 a,.int .i64 b,.int .i64 c]:=by rw[←hW9];exact((zH.mk (w.alloc (.cells #[.slice fa nf fc,.slice ca nc cc,.int .i64 0,.slice ka nk kc] 26)) [.int .i64 19,.int .i64 a,.int .i64 b,.int .i64 c] 80 (w.heap.size+1) (by simp)).below (below_alloc1 _ _)).below (by repeat(first|exact Below.refl _ _|refine below_drewN ?_ _|refine Below.drew ?_))
  have b2:zH W9 (w.heap.size+1+1) [.int .i64 0,.int .i64 0,.int .i64 0,.int .i64 0]:=by rw[←hW9];exact(zH.mk ((w.alloc (.cells #[.slice fa nf fc,.slice ca nc cc,.int .i64 0,.slice ka nk kc] 26)).alloc (.cells #[.int .i64 19,.int .i64 a,.int .i64 b,.int .i64 c] 80)) [.int .i64 0,.int .i64 0,.int .i64 0,.int .i64 0] 80 (w.heap.size+1+1) (by simp)).below (by repeat(first|exact Below.refl _ _|refine below_drewN ?_ _|refine Below.drew ?_))
  have b3:Below w.heap.size w W9:=by rw[←hW9];repeat(first|exact Below.refl _ _|refine below_drewN ?_ _|refine Below.drew ?_|refine Below.alloc ?_ (by first|(simp;done)|(simp;omega)) _)
  clear hW9;obtain⟨c00,-⟩:=b0 0 _ rfl;obtain⟨c01,-⟩:=b0 1 _ rfl;obtain⟨c02,-⟩:=b0 2 _ rfl;obtain⟨c03,-⟩:=b0 3 _ rfl;obtain⟨c10,-⟩:=b1 0 _ rfl;obtain⟨ZP,-⟩:=b1 1 _ rfl;obtain⟨Zw,-⟩:=b1 2 _ rfl;obtain⟨xS,-⟩:=b1 3 _ rfl;obtain⟨c20,d20⟩:=b2 0 _ rfl;obtain⟨c21,d21⟩:=b2 1 _ rfl;obtain⟨c22,d22⟩:=b2 2 _ rfl;obtain⟨c23,d23⟩:=b2 3 _ rfl;have HZ9:=Qq b2;have HB9:=Qq b3;clear b0 b1 b2 b3;go_wp2_with fail;have e:=yB ((((((HZ9.out)).set 0 (.int .i64 (0))).set 1 (.int .i64 (0))).set 2 (.int .i64 (0))).set 3 (.int .i64 (0)))
  exact bodyPost_ret (zu Tryz.results45 _ ⟨w.heap.size+1+1,0,none⟩ rfl e) rfl (xd.mk (0) (0) (0) (0) (zX (by unfold yh;omega) (by omega) (by omega) (by first|(simp[goodB];done)|(simp[goodB,xz];done)|(simp[goodB,xz];omega))) (by unfold yh;omega) (HB9.out.trans (by repeat(first|exact Below.refl _ _|refine Below.setCell ?_ (by simp;omega) _|refine Below.drew ?_|refine below_drewN ?_ _))))
 ·skip
  have rx:=zn a lk (by omega)
  go_enter Tryz.func45,Tryz.ntmps45
  go_wp2_with fail;refine(zy _ _ _ (by omega)).mono ?_
  rintro e w1 ⟨rfl,rfl⟩;rw[HKK.out];go_wp2_with fail;go_quiet ((go_at_call 44;exact Calls.quiet_of_same (zy _ _ _ (by omega))))
  generalize zC a 8=A8 at *;generalize zC b 8=B8 at *;generalize zC c 8=C8 at *;go_wp2_with fail;go_quiet (fail)
  generalize hW9:World.drewN _ _=W9
  have b0:zH W9 w.heap.size [.slice fa nf fc,.slice ca nc cc,.int .i64 lk,.slice ka nk kc]:=by rw[←hW9];exact(((zH.mk w [.slice fa nf fc,.slice ca nc cc,.int .i64 lk,.slice ka nk kc] _ _ rfl).below (below_alloc1 _ _)).below (below_alloc1 _ _)).below (by repeat(first|exact Below.refl _ _|refine below_drewN ?_ _|refine Below.drew ?_))
  have b1:zH W9 (w.heap.size+1) [.int .i64 19,.int .i64 a,.int .i64 b,.int .i64 c]:=by rw[←hW9];exact((zH.mk (w.alloc (.cells #[.slice fa nf fc,.slice ca nc cc,.int .i64 lk,.slice ka nk kc] 26)) [.int .i64 19,.int .i64 a,.int .i64 b,.int .i64 c] 80 (w.heap.size+1) (by simp)).below (below_alloc1 _ _)).below (by repeat(first|exact Below.refl _ _|refine below_drewN ?_ _|refine Below.drew ?_))
  have b2:zH W9 (w.heap.size+1+1) [.int .i64 0,.int .i64 0,.int .i64 0,.int .i64 0]:=by rw[←hW9];exact(zH.mk ((w.alloc (.cells #[.slice fa nf fc,.slice ca nc cc,.int .i64 lk,.slice ka nk kc] 26)).alloc (.cells #[.int .i64 19,.int .i64 a,.int .i64 b,.int .i64 c] 80)) [.int .i64 0,.int .i64 0,.int .i64 0,.int .i64 0] 80 (w.heap.size+1+1) (by simp)).below (by repeat(first|exact Below.refl _ _|refine below_drewN ?_ _|refine Below.drew ?_))
  have b3:Below w.heap.size w W9:=by rw[←hW9];repeat(first|exact Below.refl _ _|refine below_drewN ?_ _|refine Below.drew ?_|refine Below.alloc ?_ (by first|(simp;done)|(simp;omega)) _)
  clear hW9;obtain⟨c00,-⟩:=b0 0 _ rfl;obtain⟨c01,-⟩:=b0 1 _ rfl;obtain⟨c02,-⟩:=b0 2 _ rfl;obtain⟨c03,-⟩:=b0 3 _ rfl;obtain⟨c10,-⟩:=b1 0 _ rfl;obtain⟨ZP,-⟩:=b1 1 _ rfl;obtain⟨Zw,-⟩:=b1 2 _ rfl;obtain⟨xS,-⟩:=b1 3 _ rfl;obtain⟨c20,d20⟩:=b2 0 _ rfl;obtain⟨c21,d21⟩:=b2 1 _ rfl;obtain⟨c22,d22⟩:=b2 2 _ rfl;obtain⟨c23,d23⟩:=b2 3 _ rfl;have HZ9:=Qq b2;have HB9:=Qq b3;clear b0 b1 b2 b3;go_wp2_with fail;refine wp_region_still_tail 8 (by kernel_rfl) (by kernel_rfl) ?_
  simp only[QX,QV,QQ,QJ];repeat(first|still_step|still_call (zy _ _ _ (by omega)))
  refine wpStill_nil ?_;generalize zC a lk=X at *;go_wp2_with fail;have e:=yB ((((((HZ9.out).below (zg _)).set 0 (.int .i64 (19))).set 1 (.int .i64 (X))).set 2 (.int .i64 (0))).set 3 (.int .i64 (0)))
  exact bodyPost_ret (zu Tryz.results45 _ ⟨w.heap.size+1+1,0,none⟩ rfl e) rfl (xd.mk (19) (X) (0) (0) (zX (by unfold yh;omega) (by omega) (by omega) (by first|(simp[goodB];done)|(simp[goodB,xz];done)|(simp[goodB,xz];omega))) (by unfold yh;omega) (HB9.out.trans (by repeat(first|exact Below.refl _ _|refine Below.setCell ?_ (by simp;omega) _|refine Below.drew ?_|refine below_drewN ?_ _))))
theorem GK (fa:Option Addr)(nf fc:Nat)(ca:Option Addr)(nc cc:Nat)(lk:Int)(ka:Option Addr)(nk kc:Nat)(a0:Option Addr)(n cap:Nat)(o a b c:Int)(w:World)(hk:zC o 23=20)(hb:yh b)(h1:1≤nf∧nf≤100)(h2:nc≤100)(h3:nk≤100)(h4:0≤lk∧lk≤100)(h5:1≤n∧n≤100) :
  Calls Tryz.prog 45 #[pv fa nf fc ca nc cc lk ka nk kc,.slice a0 n cap,.agg #[.int .i64 o,.int .i64 a,.int .i64 b,.int .i64 c]] w fun e w'=>xd nf nc nk lk n w e w':=by
 have ra:=zn a 8 (by omega)
 have rb:=zn b 8 (by omega)
 have rc:=zn c 8 (by omega)
 have HKK:=Qq hk;unfold pv;clear hk;go_enter Tryz.func45,Tryz.ntmps45
 go_wp2_with fail;refine(zy _ _ _ (by omega)).mono ?_
 rintro e w1 ⟨rfl,rfl⟩;rw[HKK.out];go_wp2_with fail;go_quiet ((go_at_call 44;exact Calls.quiet_of_same (zy _ _ _ (by omega))))
 generalize zC a 8=A8 at *;generalize zC b 8=B8 at *;generalize zC c 8=C8 at *;go_wp2_with fail;go_quiet (fail)
 generalize hW9:World.drewN _ _=W9
 have b0:zH W9 w.heap.size [.slice fa nf fc,.slice ca nc cc,.int .i64 lk,.slice ka nk kc]:=by rw[←hW9];exact(((zH.mk w [.slice fa nf fc,.slice ca nc cc,.int .i64 lk,.slice ka nk kc] _ _ rfl).below (below_alloc1 _ _)).below (below_alloc1 _ _)).below (by repeat(first|exact Below.refl _ _|refine below_drewN ?_ _|refine Below.drew ?_))
 have b1:zH W9 (w.heap.size+1) [.int .i64 20,.int .i64 a,.int .i64 b,.int .i64 c]:=by rw[←hW9];exact((zH.mk (w.alloc (.cells #[.slice fa nf fc,.slice ca nc cc,.int .i64 lk,.slice ka nk kc] 26)) [.int .i64 20,.int .i64 a,.int .i64 b,.int .i64 c] 80 (w.heap.size+1) (by simp)).below (below_alloc1 _ _)).below (by repeat(first|exact Below.refl _ _|refine below_drewN ?_ _|refine Below.drew ?_))
 have b2:zH W9 (w.heap.size+1+1) [.int .i64 0,.int .i64 0,.int .i64 0,.int .i64 0]:=by rw[←hW9];exact(zH.mk ((w.alloc (.cells #[.slice fa nf fc,.slice ca nc cc,.int .i64 lk,.slice ka nk kc] 26)).alloc (.cells #[.int .i64 20,.int .i64 a,.int .i64 b,.int .i64 c] 80)) [.int .i64 0,.int .i64 0,.int .i64 0,.int .i64 0] 80 (w.heap.size+1+1) (by simp)).below (by repeat(first|exact Below.refl _ _|refine below_drewN ?_ _|refine Below.drew ?_))
 have b3:Below w.heap.size w W9:=by rw[←hW9];repeat(first|exact Below.refl _ _|refine below_drewN ?_ _|refine Below.drew ?_|refine Below.alloc ?_ (by first|(simp;done)|(simp;omega)) _)
 clear hW9;obtain⟨c00,-⟩:=b0 0 _ rfl;obtain⟨c01,-⟩:=b0 1 _ rfl;obtain⟨c02,-⟩:=b0 2 _ rfl;obtain⟨c03,-⟩:=b0 3 _ rfl;obtain⟨c10,-⟩:=b1 0 _ rfl;obtain⟨ZP,-⟩:=b1 1 _ rfl;obtain⟨Zw,-⟩:=b1 2 _ rfl;obtain⟨xS,-⟩:=b1 3 _ rfl;obtain⟨c20,d20⟩:=b2 0 _ rfl;obtain⟨c21,d21⟩:=b2 1 _ rfl;obtain⟨c22,d22⟩:=b2 2 _ rfl;obtain⟨c23,d23⟩:=b2 3 _ rfl;have HZ9:=Qq b2;have HB9:=Qq b3;clear b0 b1 b2 b3;go_wp2_with fail;have e:=yB ((((((HZ9.out)).set 0 (.int .i64 (20))).set 1 (.int .i64 (A8))).set 2 (.int .i64 (0))).set 3 (.int .i64 (0)))
 exact bodyPost_ret (zu Tryz.results45 _ ⟨w.heap.size+1+1,0,none⟩ rfl e) rfl (xd.mk (20) (A8) (0) (0) (zX (by unfold yh;omega) (by omega) (by omega) (by first|(simp[goodB];done)|(simp[goodB,xz];done)|(simp[goodB,xz];omega))) (by unfold yh;omega) (HB9.out.trans (by repeat(first|exact Below.refl _ _|refine Below.setCell ?_ (by simp;omega) _|refine Below.drew ?_|refine below_drewN ?_ _))))
theorem GY (fa:Option Addr)(nf fc:Nat)(ca:Option Addr)(nc cc:Nat)(lk:Int)(ka:Option Addr)(nk kc:Nat)(a0:Option Addr)(n cap:Nat)(o a b c:Int)(w:World)(hk:zC o 23=21)(hb:yh b)(h1:1≤nf∧nf≤100)(h2:nc≤100)(h3:nk≤100)(h4:0≤lk∧lk≤100)(h5:1≤n∧n≤100) :
  Calls Tryz.prog 45 #[pv fa nf fc ca nc cc lk ka nk kc,.slice a0 n cap,.agg #[.int .i64 o,.int .i64 a,.int .i64 b,.int .i64 c]] w fun e w'=>xd nf nc nk lk n w e w':=by
 have ra:=zn a 8 (by omega)
 have rb:=zn b 8 (by omega)
 have rc:=zn c 8 (by omega)
 have HKK:=Qq hk;unfold pv;clear hk;have rx:=zn b 1000 (by omega)
 go_enter Tryz.func45,Tryz.ntmps45
 go_wp2_with fail;refine(zy _ _ _ (by omega)).mono ?_
 rintro e w1 ⟨rfl,rfl⟩;rw[HKK.out];go_wp2_with fail;go_quiet ((go_at_call 44;exact Calls.quiet_of_same (zy _ _ _ (by omega))))
 generalize zC a 8=A8 at *;generalize zC b 8=B8 at *;generalize zC c 8=C8 at *;go_wp2_with fail;go_quiet (fail)
 generalize hW9:World.drewN _ _=W9
 have b0:zH W9 w.heap.size [.slice fa nf fc,.slice ca nc cc,.int .i64 lk,.slice ka nk kc]:=by rw[←hW9];exact(((zH.mk w [.slice fa nf fc,.slice ca nc cc,.int .i64 lk,.slice ka nk kc] _ _ rfl).below (below_alloc1 _ _)).below (below_alloc1 _ _)).below (by repeat(first|exact Below.refl _ _|refine below_drewN ?_ _|refine Below.drew ?_))
 have b1:zH W9 (w.heap.size+1) [.int .i64 21,.int .i64 a,.int .i64 b,.int .i64 c]:=by rw[←hW9];exact((zH.mk (w.alloc (.cells #[.slice fa nf fc,.slice ca nc cc,.int .i64 lk,.slice ka nk kc] 26)) [.int .i64 21,.int .i64 a,.int .i64 b,.int .i64 c] 80 (w.heap.size+1) (by simp)).below (below_alloc1 _ _)).below (by repeat(first|exact Below.refl _ _|refine below_drewN ?_ _|refine Below.drew ?_))
 have b2:zH W9 (w.heap.size+1+1) [.int .i64 0,.int .i64 0,.int .i64 0,.int .i64 0]:=by rw[←hW9];exact(zH.mk ((w.alloc (.cells #[.slice fa nf fc,.slice ca nc cc,.int .i64 lk,.slice ka nk kc] 26)).alloc (.cells #[.int .i64 21,.int .i64 a,.int .i64 b,.int .i64 c] 80)) [.int .i64 0,.int .i64 0,.int .i64 0,.int .i64 0] 80 (w.heap.size+1+1) (by simp)).below (by repeat(first|exact Below.refl _ _|refine below_drewN ?_ _|refine Below.drew ?_))
 have b3:Below w.heap.size w W9:=by rw[←hW9];repeat(first|exact Below.refl _ _|refine below_drewN ?_ _|refine Below.drew ?_|refine Below.alloc ?_ (by first|(simp;done)|(simp;omega)) _)
 clear hW9;obtain⟨c00,-⟩:=b0 0 _ rfl;obtain⟨c01,-⟩:=b0 1 _ rfl;obtain⟨c02,-⟩:=b0 2 _ rfl;obtain⟨c03,-⟩:=b0 3 _ rfl;obtain⟨c10,-⟩:=b1 0 _ rfl;obtain⟨ZP,-⟩:=b1 1 _ rfl;obtain⟨Zw,-⟩:=b1 2 _ rfl;obtain⟨xS,-⟩:=b1 3 _ rfl;obtain⟨c20,d20⟩:=b2 0 _ rfl;obtain⟨c21,d21⟩:=b2 1 _ rfl;obtain⟨c22,d22⟩:=b2 2 _ rfl;obtain⟨c23,d23⟩:=b2 3 _ rfl;have HZ9:=Qq b2;have HB9:=Qq b3;clear b0 b1 b2 b3;go_wp2_with fail;refine(zy _ _ _ (by omega)).mono ?_
 rintro e w1 ⟨rfl,rfl⟩;generalize zC b 1000=X at *;go_wp2_with fail;have e:=yB ((((((HZ9.out)).set 0 (.int .i64 (21))).set 1 (.int .i64 (A8))).set 2 (.int .i64 (1+X))).set 3 (.int .i64 (0)))
 exact bodyPost_ret (zu Tryz.results45 _ ⟨w.heap.size+1+1,0,none⟩ rfl e) rfl (xd.mk (21) (A8) (1+X) (0) (zX (by unfold yh;omega) (by omega) (by omega) (by first|(simp[goodB];done)|(simp[goodB,xz];done)|(simp[goodB,xz];omega))) (by unfold yh;omega) (HB9.out.trans (by repeat(first|exact Below.refl _ _|refine Below.setCell ?_ (by simp;omega) _|refine Below.drew ?_|refine below_drewN ?_ _))))
theorem Fm (fa:Option Addr)(nf fc:Nat)(ca:Option Addr)(nc cc:Nat)(lk:Int)(ka:Option Addr)(nk kc:Nat)(a0:Option Addr)(n cap:Nat)(o a b c:Int)(w:World)(hk:zC o 23=22)(hb:yh b)(h1:1≤nf∧nf≤100)(h2:nc≤100)(h3:nk≤100)(h4:0≤lk∧lk≤100)(h5:1≤n∧n≤100) :
  Calls Tryz.prog 45 #[pv fa nf fc ca nc cc lk ka nk kc,.slice a0 n cap,.agg #[.int .i64 o,.int .i64 a,.int .i64 b,.int .i64 c]] w fun e w'=>xd nf nc nk lk n w e w':=by
 have ra:=zn a 8 (by omega)
 have rb:=zn b 8 (by omega)
 have rc:=zn c 8 (by omega)
 have HKK:=Qq hk;unfold pv;clear hk;have rx:=zn a 1000 (by omega)
 go_enter Tryz.func45,Tryz.ntmps45
 go_wp2_with fail;refine(zy _ _ _ (by omega)).mono ?_
 rintro e w1 ⟨rfl,rfl⟩;rw[HKK.out];go_wp2_with fail;go_quiet ((go_at_call 44;exact Calls.quiet_of_same (zy _ _ _ (by omega))))
 generalize zC a 8=A8 at *;generalize zC b 8=B8 at *;generalize zC c 8=C8 at *;go_wp2_with fail;go_quiet (fail)
 generalize hW9:World.drewN _ _=W9
 have b0:zH W9 w.heap.size [.slice fa nf fc,.slice ca nc cc,.int .i64 lk,.slice ka nk kc]:=by rw[←hW9];exact(((zH.mk w [.slice fa nf fc,.slice ca nc cc,.int .i64 lk,.slice ka nk kc] _ _ rfl).below (below_alloc1 _ _)).below (below_alloc1 _ _)).below (by repeat(first|exact Below.refl _ _|refine below_drewN ?_ _|refine Below.drew ?_))
 have b1:zH W9 (w.heap.size+1) [.int .i64 22,.int .i64 a,.int .i64 b,.int .i64 c]:=by rw[←hW9];exact((zH.mk (w.alloc (.cells #[.slice fa nf fc,.slice ca nc cc,.int .i64 lk,.slice ka nk kc] 26)) [.int .i64 22,.int .i64 a,.int .i64 b,.int .i64 c] 80 (w.heap.size+1) (by simp)).below (below_alloc1 _ _)).below (by repeat(first|exact Below.refl _ _|refine below_drewN ?_ _|refine Below.drew ?_))
 have b2:zH W9 (w.heap.size+1+1) [.int .i64 0,.int .i64 0,.int .i64 0,.int .i64 0]:=by rw[←hW9];exact(zH.mk ((w.alloc (.cells #[.slice fa nf fc,.slice ca nc cc,.int .i64 lk,.slice ka nk kc] 26)).alloc (.cells #[.int .i64 22,.int .i64 a,.int .i64 b,.int .i64 c] 80)) [.int .i64 0,.int .i64 0,.int .i64 0,.int .i64 0] 80 (w.heap.size+1+1) (by simp)).below (by repeat(first|exact Below.refl _ _|refine below_drewN ?_ _|refine Below.drew ?_))
 have b3:Below w.heap.size w W9:=by rw[←hW9];repeat(first|exact Below.refl _ _|refine below_drewN ?_ _|refine Below.drew ?_|refine Below.alloc ?_ (by first|(simp;done)|(simp;omega)) _)
 clear hW9;obtain⟨c00,-⟩:=b0 0 _ rfl;obtain⟨c01,-⟩:=b0 1 _ rfl;obtain⟨c02,-⟩:=b0 2 _ rfl;obtain⟨c03,-⟩:=b0 3 _ rfl;obtain⟨c10,-⟩:=b1 0 _ rfl;obtain⟨ZP,-⟩:=b1 1 _ rfl;obtain⟨Zw,-⟩:=b1 2 _ rfl;obtain⟨xS,-⟩:=b1 3 _ rfl;obtain⟨c20,d20⟩:=b2 0 _ rfl;obtain⟨c21,d21⟩:=b2 1 _ rfl;obtain⟨c22,d22⟩:=b2 2 _ rfl;obtain⟨c23,d23⟩:=b2 3 _ rfl;have HZ9:=Qq b2;have HB9:=Qq b3;clear b0 b1 b2 b3;go_wp2_with fail;refine(zy _ _ _ (by omega)).mono ?_
 rintro e w1 ⟨rfl,rfl⟩;generalize zC a 1000=X at *;go_wp2_with fail;have e:=yB ((((((HZ9.out)).set 0 (.int .i64 (22))).set 1 (.int .i64 (X))).set 2 (.int .i64 (0))).set 3 (.int .i64 (0)))
 exact bodyPost_ret (zu Tryz.results45 _ ⟨w.heap.size+1+1,0,none⟩ rfl e) rfl (xd.mk (22) (X) (0) (0) (zX (by unfold yh;omega) (by omega) (by omega) (by first|(simp[goodB];done)|(simp[goodB,xz];done)|(simp[goodB,xz];omega))) (by unfold yh;omega) (HB9.out.trans (by repeat(first|exact Below.refl _ _|refine Below.setCell ?_ (by simp;omega) _|refine Below.drew ?_|refine below_drewN ?_ _))))
def Wx (W:World)(K X:Int)(s0:Nat)(b1 b2:List Value)(s:Value)(wx:World):Prop:=∃q,s=.pointer (some ⟨q,0,none⟩)∧zH wx q [.int .i64 K,.int .i64 X,.int .i64 0,.int .i64 0]∧s0+1+1<q∧zH wx (s0+1) b1∧zH wx (s0+1+1) b2∧Below W.heap.size W wx
theorem Wx.a {W w3:World}{K X:Int}{s0:Nat}{b1 b2:List Value}{t:TypeId}(hs:s0+1+1<W.heap.size)(h1:zH W (s0+1) b1)(h2:zH W (s0+1+1) b2)(bw:Below W.heap.size W w3) :
  Wx W K X s0 b1 b2 (.pointer (some ⟨w3.heap.size,0,none⟩)) (w3.alloc (.cells #[.int .i64 K,.int .i64 X,.int .i64 0,.int .i64 0] t)) :=
 ⟨_,rfl,zH.mk w3 [.int .i64 K,.int .i64 X,.int .i64 0,.int .i64 0] t _ rfl,by have:=bw.size;omega,(h1.below bw).below (below_alloc1 _ _),(h2.below bw).below (below_alloc1 _ _),zB bw (below_alloc1 _ _)⟩
theorem Wx.step {W w3 w4:World}{K X:Int}{s0:Nat}{b1 b2:List Value}{s:Value}(h:Wx W K X s0 b1 b2 s w3)(hb:Below w3.heap.size w3 w4):Wx W K X s0 b1 b2 s w4:=by
 obtain⟨q,h1,h2,h3,h4,h5,h6⟩:=h;exact⟨q,h1,h2.below hb,h3,h4.below hb,h5.below hb,zB h6 hb⟩
theorem Gu (fa:Option Addr)(nf fc:Nat)(ca:Option Addr)(nc cc:Nat)(lk:Int)(ka:Option Addr)(nk kc:Nat)(a0:Option Addr)(n cap:Nat)(o a b c:Int)(w:World)(hk:zC o 23=13)(hb:yh b)(h1:1≤nf∧nf≤100)(h2:nc≤100)(h3:nk≤100)(h4:0≤lk∧lk≤100)(h5:1≤n∧n≤100) :
  Calls Tryz.prog 45 #[pv fa nf fc ca nc cc lk ka nk kc,.slice a0 n cap,.agg #[.int .i64 o,.int .i64 a,.int .i64 b,.int .i64 c]] w fun e w'=>xd nf nc nk lk n w e w':=by
 have ra:=zn a 8 (by omega)
 have rb:=zn b 8 (by omega)
 have rc:=zn c 8 (by omega)
 have HKK:=Qq hk;unfold pv;clear hk;by_cases hz:nc=0
 ·subst hz
  go_enter Tryz.func45,Tryz.ntmps45
  go_wp2_with fail;refine(zy _ _ _ (by omega)).mono ?_
  rintro e w1 ⟨rfl,rfl⟩;rw[HKK.out];go_wp2_with fail;go_quiet ((go_at_call 44;exact Calls.quiet_of_same (zy _ _ _ (by omega))))
  generalize zC a 8=A8 at *;generalize zC b 8=B8 at *;generalize zC c 8=C8 at *;go_wp2_with fail;go_quiet (fail)
  generalize hW9:World.drewN _ _=W9
  have b0:zH W9 w.heap.size [.slice fa nf fc,.slice ca 0 cc,.int .i64 lk,.slice ka nk kc]:=by rw[←hW9];exact(((zH.mk w [.slice fa nf fc,.slice ca 0 cc,.int .i64 lk,.slice ka nk kc] _ _ rfl).below (below_alloc1 _ _)).below (below_alloc1 _ _)).below (by repeat(first|exact Below.refl _ _|refine below_drewN ?_ _|refine Below.drew ?_))
  have b1:zH W9 (w.heap.size+1) [.int .i64 13,.int .i64 a,.int .i64 b,.int .i64 c]:=by rw[←hW9];exact((zH.mk (w.alloc (.cells #[.slice fa nf fc,.slice ca 0 cc,.int .i64 lk,.slice ka nk kc] 26)) [.int .i64 13,.int .i64 a,.int .i64 b,.int .i64 c] 80 (w.heap.size+1) (by simp)).below (below_alloc1 _ _)).below (by repeat(first|exact Below.refl _ _|refine below_drewN ?_ _|refine Below.drew ?_))
  have b2:zH W9 (w.heap.size+1+1) [.int .i64 0,.int .i64 0,.int .i64 0,.int .i64 0]:=by rw[←hW9];exact(zH.mk ((w.alloc (.cells #[.slice fa nf fc,.slice ca 0 cc,.int .i64 lk,.slice ka nk kc] 26)).alloc (.cells #[.int .i64 13,.int .i64 a,.int .i64 b,.int .i64 c] 80)) [.int .i64 0,.int .i64 0,.int .i64 0,.int .i64 0] 80 (w.heap.size+1+1) (by simp)).below (by repeat(first|exact Below.refl _ _|refine below_drewN ?_ _|refine Below.drew ?_))
  have b3:Below w.heap.size w W9:=by rw[←hW9];repeat(first|exact Below.refl _ _|refine below_drewN ?_ _|refine Below.drew ?_|refine Below.alloc ?_ (by first|(simp;done)|(simp;omega)) _)
  clear hW9;obtain⟨c00,-⟩:=b0 0 _ rfl;obtain⟨c01,-⟩:=b0 1 _ rfl;obtain⟨c02,-⟩:=b0 2 _ rfl;obtain⟨c03,-⟩:=b0 3 _ rfl;obtain⟨c10,-⟩:=b1 0 _ rfl;obtain⟨ZP,-⟩:=b1 1 _ rfl;obtain⟨Zw,-⟩:=b1 2 _ rfl;obtain⟨xS,-⟩:=b1 3 _ rfl;obtain⟨c20,d20⟩:=b2 0 _ rfl;obtain⟨c21,d21⟩:=b2 1 _ rfl;obtain⟨c22,d22⟩:=b2 2 _ rfl;obtain⟨c23,d23⟩:=b2 3 _ rfl;have HZ9:=Qq b2;have HB9:=Qq b3;clear b0 b1 b2 b3;go_wp2_with fail;have e:=yB ((((((HZ9.out)).set 0 (.int .i64 (0))).set 1 (.int .i64 (0))).set 2 (.int .i64 (0))).set 3 (.int .i64 (0)))
  exact bodyPost_ret (zu Tryz.results45 _ ⟨w.heap.size+1+1,0,none⟩ rfl e) rfl (xd.mk (0) (0) (0) (0) (zX (by unfold yh;omega) (by omega) (by omega) (by first|(simp[goodB];done)|(simp[goodB,xz];done)|(simp[goodB,xz];omega))) (by unfold yh;omega) (HB9.out.trans (by repeat(first|exact Below.refl _ _|refine Below.setCell ?_ (by simp;omega) _|refine Below.drew ?_|refine below_drewN ?_ _))))
 ·skip
  have rx:=zn a nc (by omega)
  have hz2:¬(nc:Int)=0:=by omega
  go_enter Tryz.func45,Tryz.ntmps45
  go_wp2_with fail;refine(zy _ _ _ (by omega)).mono ?_
  rintro e w1 ⟨rfl,rfl⟩;rw[HKK.out];go_wp2_with fail;go_quiet ((go_at_call 44;exact Calls.quiet_of_same (zy _ _ _ (by omega))))
  generalize zC a 8=A8 at *;generalize zC b 8=B8 at *;generalize zC c 8=C8 at *;go_wp2_with fail;go_quiet (fail)
  generalize hW9:World.drewN _ _=W9
  have b0:zH W9 w.heap.size [.slice fa nf fc,.slice ca nc cc,.int .i64 lk,.slice ka nk kc]:=by rw[←hW9];exact(((zH.mk w [.slice fa nf fc,.slice ca nc cc,.int .i64 lk,.slice ka nk kc] _ _ rfl).below (below_alloc1 _ _)).below (below_alloc1 _ _)).below (by repeat(first|exact Below.refl _ _|refine below_drewN ?_ _|refine Below.drew ?_))
  have b1:zH W9 (w.heap.size+1) [.int .i64 13,.int .i64 a,.int .i64 b,.int .i64 c]:=by rw[←hW9];exact((zH.mk (w.alloc (.cells #[.slice fa nf fc,.slice ca nc cc,.int .i64 lk,.slice ka nk kc] 26)) [.int .i64 13,.int .i64 a,.int .i64 b,.int .i64 c] 80 (w.heap.size+1) (by simp)).below (below_alloc1 _ _)).below (by repeat(first|exact Below.refl _ _|refine below_drewN ?_ _|refine Below.drew ?_))
  have b2:zH W9 (w.heap.size+1+1) [.int .i64 0,.int .i64 0,.int .i64 0,.int .i64 0]:=by rw[←hW9];exact(zH.mk ((w.alloc (.cells #[.slice fa nf fc,.slice ca nc cc,.int .i64 lk,.slice ka nk kc] 26)).alloc (.cells #[.int .i64 13,.int .i64 a,.int .i64 b,.int .i64 c] 80)) [.int .i64 0,.int .i64 0,.int .i64 0,.int .i64 0] 80 (w.heap.size+1+1) (by simp)).below (by repeat(first|exact Below.refl _ _|refine below_drewN ?_ _|refine Below.drew ?_))
  have b3:Below w.heap.size w W9:=by rw[←hW9];repeat(first|exact Below.refl _ _|refine below_drewN ?_ _|refine Below.drew ?_|refine Below.alloc ?_ (by first|(simp;done)|(simp;omega)) _)
  clear hW9;obtain⟨c00,-⟩:=b0 0 _ rfl;obtain⟨c01,-⟩:=b0 1 _ rfl;obtain⟨c02,-⟩:=b0 2 _ rfl;obtain⟨c03,-⟩:=b0 3 _ rfl;obtain⟨c10,-⟩:=b1 0 _ rfl;obtain⟨ZP,-⟩:=b1 1 _ rfl;obtain⟨Zw,-⟩:=b1 2 _ rfl;obtain⟨xS,-⟩:=b1 3 _ rfl;obtain⟨c20,d20⟩:=b2 0 _ rfl;obtain⟨c21,d21⟩:=b2 1 _ rfl;obtain⟨c22,d22⟩:=b2 2 _ rfl;obtain⟨c23,d23⟩:=b2 3 _ rfl;have HZ9:=Qq b2;have HB9:=Qq b3;have HB1:=Qq b1;clear b0 b1 b2 b3;go_upto_region 30 with fail
  have hl9:w.heap.size+1+1<W9.heap.size:=World.block_lt_of_cell? W9 _ c20
  go_cut [13] (fun s wx=>Hid (Wx W9 13 (zC a nc) w.heap.size [.int .i64 13,.int .i64 a,.int .i64 b,.int .i64 c] [.int .i64 0,.int .i64 0,.int .i64 0,.int .i64 0] s wx))
  case first =>
   have hp9:∀wx,Below W9.heap.size W9 wx→wx.cell? ⟨w.heap.size+1,0,none⟩=some (.int .i64 13)∧wx.cell? ⟨w.heap.size+1,1,none⟩=some (.int .i64 a):=fun wx hb=>⟨zq c10 hb,zq ZP hb⟩
   have HP9:=Qq hp9;clear hp9;have hl8:w.heap.size+1<W9.heap.size:=World.block_lt_of_cell? W9 _ c10
   go_wp2_with fail;refine zV (fun wx=>wx.cell? ⟨w.heap.size+1,0,none⟩=some (.int .i64 13)∧wx.cell? ⟨w.heap.size+1,1,none⟩=some (.int .i64 a)) 9 (Array.replicate 9 false) (by kernel_rfl) (by kernel_rfl) ?_
   refine zm 0 5 _ (Qj 9 31) 4 (by kernel_rfl) za (HP9.out _ (by repeat(first|exact Below.refl _ _|refine Below.setCell ?_ (by simp) _|refine Below.drew ?_|refine below_drewN ?_ _|refine Below.alloc ?_ (by simp) _))) (by kernel_rfl) ?_
   simp only[QX,QV,QJ];(repeat((first|refine Qx (h:=?_)|refine Qv (h:=?_));simp only[Act.put,QW,QY,QZ]));refine zb ?_;refine yz 5 7 _ (Qj 9 63) (Qj 9 159) 3 (by kernel_rfl) (fun K hK=>?_) (fun K hK=>?_)
   ·have HK2:=Qq hK
    clear hK;simp only[QQ,QJ];refine zc (by rfl) ?_;go_simp;refine(zy _ _ _ (by omega)).mono ?_
    rintro e w5 ⟨rfl,rfl⟩;refine HK2.out _ _ (HP9.out _ (by repeat(first|exact Below.refl _ _|refine Below.setCell ?_ (by simp) _|refine Below.drew ?_|refine below_drewN ?_ _|refine Below.alloc ?_ (by simp) _))) ?_
    clear HK2 K;refine zm 6 1 _ (Qj 9 127) 2 (by kernel_rfl) za (HP9.out _ (by repeat(first|exact Below.refl _ _|refine Below.setCell ?_ (by simp) _|refine Below.drew ?_|refine below_drewN ?_ _|refine Below.alloc ?_ (by simp) _))) (by kernel_rfl) ?_
    simp only[QX,QV,QQ,QJ];(repeat((first|refine Qx (h:=?_)|refine Qv (h:=?_));simp only[Act.put,QW,QY,QZ]));refine zb ?_;refine zh 7 _ (Qj 9 255) 1 (by kernel_rfl) (fun K hK=>?_)
    have HK2:=Qq hK;clear hK;simp only[QQ,QJ];refine zc (by rfl) ?_;go_simp;refine HK2.out _ _ (HP9.out _ (by repeat(first|exact Below.refl _ _|refine Below.setCell ?_ (by simp) _|refine Below.drew ?_|refine below_drewN ?_ _|refine Below.alloc ?_ (by simp) _))) ?_
    clear HK2 K;refine zh 8 _ (Qj 9 511) 0 (by kernel_rfl) (fun K hK=>?_)
    have HK2:=Qq hK;clear hK;simp only[QQ,QJ];refine zc (by rfl) ?_;go_simp;refine HK2.out _ _ (HP9.out _ (by repeat(first|exact Below.refl _ _|refine Below.setCell ?_ (by simp) _|refine Below.drew ?_|refine below_drewN ?_ _|refine Below.alloc ?_ (by simp) _))) ?_
    clear HK2 K;refine wpAnyH_done (by kernel_rfl) (NoPanic.normal ?_) _
    go_wp2_with fail;go_meet;exact Qq ((Wx.a hl9 HB1.out HZ9.out (Below.refl _ _)).step (zg _))
   ·have HK2:=Qq hK
    clear hK;simp only[QQ,QJ];refine zc (by rfl) ?_;go_simp;refine HK2.out _ _ (HP9.out _ (by repeat(first|exact Below.refl _ _|refine Below.setCell ?_ (by simp) _|refine Below.drew ?_|refine below_drewN ?_ _|refine Below.alloc ?_ (by simp) _))) ?_
    clear HK2 K;refine zh 5 _ (Qj 9 191) 2 (by kernel_rfl) (fun K hK=>?_)
    have HK2:=Qq hK;clear hK;simp only[QQ,QJ];refine zc (by rfl) ?_;go_simp;refine(zy _ _ _ (by omega)).mono ?_
    rintro e w5 ⟨rfl,rfl⟩;refine HK2.out _ _ (HP9.out _ (by repeat(first|exact Below.refl _ _|refine Below.setCell ?_ (by simp) _|refine Below.drew ?_|refine below_drewN ?_ _|refine Below.alloc ?_ (by simp) _))) ?_
    clear HK2 K;refine zm 6 1 _ (Qj 9 255) 1 (by kernel_rfl) za (HP9.out _ (by repeat(first|exact Below.refl _ _|refine Below.setCell ?_ (by simp) _|refine Below.drew ?_|refine below_drewN ?_ _|refine Below.alloc ?_ (by simp) _))) (by kernel_rfl) ?_
    simp only[QX,QV,QQ,QJ];(repeat((first|refine Qx (h:=?_)|refine Qv (h:=?_));simp only[Act.put,QW,QY,QZ]));refine zb ?_;refine zh 8 _ (Qj 9 511) 0 (by kernel_rfl) (fun K hK=>?_)
    have HK2:=Qq hK;clear hK;simp only[QQ,QJ];refine zc (by rfl) ?_;go_simp;refine HK2.out _ _ (HP9.out _ (by repeat(first|exact Below.refl _ _|refine Below.setCell ?_ (by simp) _|refine Below.drew ?_|refine below_drewN ?_ _|refine Below.alloc ?_ (by simp) _))) ?_
    clear HK2 K;refine wpAnyH_done (by kernel_rfl) (NoPanic.normal ?_) _
    go_wp2_with fail;go_meet;exact Qq ((Wx.a hl9 HB1.out HZ9.out (Below.refl _ _)).step (zg _))
  case rest =>
   have hq0:=hcut.out;obtain⟨q,rfl,e0,e1,e2,e3,e4⟩:=hq0;generalize zC a ↑nc=X at *
   obtain⟨p0,u0⟩:=e0 0 _ rfl;obtain⟨p1,u1⟩:=e0 1 _ rfl;obtain⟨p2,u2⟩:=e0 2 _ rfl;obtain⟨p3,u3⟩:=e0 3 _ rfl;obtain⟨x0,-⟩:=e2 0 _ rfl;obtain⟨y0,t0⟩:=e3 0 _ rfl;obtain⟨y1,t1⟩:=e3 1 _ rfl;obtain⟨y2,t2⟩:=e3 2 _ rfl;obtain⟨y3,t3⟩:=e3 3 _ rfl;have hne1:w.heap.size+1≠q:=by omega
   have hne2:w.heap.size+1+1≠q:=by omega
   have E0:=Qq e0;have E3:=Qq e3;have E4:=Qq e4;have HQ:=Qq e1;clear e0 e1 e2 e3 e4 hcut c00 c01 c02 c03 c10 ZP Zw xS c20 c21 c22 c23 d20 d21 d22 d23 hl9;go_wp2_with fail;have e:=yB ((((E3.out.Zn (k:=2) (v:=.int .i64 (B8)) hne2).set 0 (.int .i64 (13))).set 1 (.int .i64 (X))).set 2 (.int .i64 (B8)) |>.set 3 (.int .i64 (0)))
   exact bodyPost_ret (zu Tryz.results45 _ ⟨w.heap.size+1+1,0,none⟩ rfl e) rfl (xd.mk (13) (X) (B8) (0) (zX (by unfold yh;omega) (by omega) (by omega) (by first|(simp[goodB];done)|(simp[goodB,xz];done)|(simp[goodB,xz];omega))) (by unfold yh;omega) (by repeat(first|exact zB HB9.out E4.out|refine Below.setCell ?_ (by first|(simp;omega)|(have:=HQ.out;simp;omega)) _)))
theorem Fq (fa:Option Addr)(nf fc:Nat)(ca:Option Addr)(nc cc:Nat)(lk:Int)(ka:Option Addr)(nk kc:Nat)(a0:Option Addr)(n cap:Nat)(o a b c:Int)(w:World)(hk:zC o 23=14)(hb:yh b)(h1:1≤nf∧nf≤100)(h2:nc≤100)(h3:nk≤100)(h4:0≤lk∧lk≤100)(h5:1≤n∧n≤100) :
  Calls Tryz.prog 45 #[pv fa nf fc ca nc cc lk ka nk kc,.slice a0 n cap,.agg #[.int .i64 o,.int .i64 a,.int .i64 b,.int .i64 c]] w fun e w'=>xd nf nc nk lk n w e w':=by
 have ra:=zn a 8 (by omega)
 have rb:=zn b 8 (by omega)
 have rc:=zn c 8 (by omega)
 have HKK:=Qq hk;unfold pv;clear hk;by_cases hz:nc=0
 ·subst hz
  go_enter Tryz.func45,Tryz.ntmps45
  go_wp2_with fail;refine(zy _ _ _ (by omega)).mono ?_
  rintro e w1 ⟨rfl,rfl⟩;rw[HKK.out];go_wp2_with fail;go_quiet ((go_at_call 44;exact Calls.quiet_of_same (zy _ _ _ (by omega))))
  generalize zC a 8=A8 at *;generalize zC b 8=B8 at *;generalize zC c 8=C8 at *;go_wp2_with fail;go_quiet (fail)
  generalize hW9:World.drewN _ _=W9
  have b0:zH W9 w.heap.size [.slice fa nf fc,.slice ca 0 cc,.int .i64 lk,.slice ka nk kc]:=by rw[←hW9];exact(((zH.mk w [.slice fa nf fc,.slice ca 0 cc,.int .i64 lk,.slice ka nk kc] _ _ rfl).below (below_alloc1 _ _)).below (below_alloc1 _ _)).below (by repeat(first|exact Below.refl _ _|refine below_drewN ?_ _|refine Below.drew ?_))
  have b1:zH W9 (w.heap.size+1) [.int .i64 14,.int .i64 a,.int .i64 b,.int .i64 c]:=by rw[←hW9];exact((zH.mk (w.alloc (.cells #[.slice fa nf fc,.slice ca 0 cc,.int .i64 lk,.slice ka nk kc] 26)) [.int .i64 14,.int .i64 a,.int .i64 b,.int .i64 c] 80 (w.heap.size+1) (by simp)).below (below_alloc1 _ _)).below (by repeat(first|exact Below.refl _ _|refine below_drewN ?_ _|refine Below.drew ?_))
  have b2:zH W9 (w.heap.size+1+1) [.int .i64 0,.int .i64 0,.int .i64 0,.int .i64 0]:=by rw[←hW9];exact(zH.mk ((w.alloc (.cells #[.slice fa nf fc,.slice ca 0 cc,.int .i64 lk,.slice ka nk kc] 26)).alloc (.cells #[.int .i64 14,.int .i64 a,.int .i64 b,.int .i64 c] 80)) [.int .i64 0,.int .i64 0,.int .i64 0,.int .i64 0] 80 (w.heap.size+1+1) (by simp)).below (by repeat(first|exact Below.refl _ _|refine below_drewN ?_ _|refine Below.drew ?_))
  have b3:Below w.heap.size w W9:=by rw[←hW9];repeat(first|exact Below.refl _ _|refine below_drewN ?_ _|refine Below.drew ?_|refine Below.alloc ?_ (by first|(simp;done)|(simp;omega)) _)
  clear hW9;obtain⟨c00,-⟩:=b0 0 _ rfl;obtain⟨c01,-⟩:=b0 1 _ rfl;obtain⟨c02,-⟩:=b0 2 _ rfl;obtain⟨c03,-⟩:=b0 3 _ rfl;obtain⟨c10,-⟩:=b1 0 _ rfl;obtain⟨ZP,-⟩:=b1 1 _ rfl;obtain⟨Zw,-⟩:=b1 2 _ rfl;obtain⟨xS,-⟩:=b1 3 _ rfl;obtain⟨c20,d20⟩:=b2 0 _ rfl;obtain⟨c21,d21⟩:=b2 1 _ rfl;obtain⟨c22,d22⟩:=b2 2 _ rfl;obtain⟨c23,d23⟩:=b2 3 _ rfl;have HZ9:=Qq b2;have HB9:=Qq b3;clear b0 b1 b2 b3;go_wp2_with fail;have e:=yB ((((((HZ9.out)).set 0 (.int .i64 (0))).set 1 (.int .i64 (0))).set 2 (.int .i64 (0))).set 3 (.int .i64 (0)))
  exact bodyPost_ret (zu Tryz.results45 _ ⟨w.heap.size+1+1,0,none⟩ rfl e) rfl (xd.mk (0) (0) (0) (0) (zX (by unfold yh;omega) (by omega) (by omega) (by first|(simp[goodB];done)|(simp[goodB,xz];done)|(simp[goodB,xz];omega))) (by unfold yh;omega) (HB9.out.trans (by repeat(first|exact Below.refl _ _|refine Below.setCell ?_ (by simp;omega) _|refine Below.drew ?_|refine below_drewN ?_ _))))
 ·skip
  have rx:=zn a nc (by omega)
  have hz2:¬(nc:Int)=0:=by omega
  go_enter Tryz.func45,Tryz.ntmps45
  go_wp2_with fail;refine(zy _ _ _ (by omega)).mono ?_
  rintro e w1 ⟨rfl,rfl⟩;rw[HKK.out];go_wp2_with fail;go_quiet ((go_at_call 44;exact Calls.quiet_of_same (zy _ _ _ (by omega))))
  generalize zC a 8=A8 at *;generalize zC b 8=B8 at *;generalize zC c 8=C8 at *;go_wp2_with fail;go_quiet (fail)
  generalize hW9:World.drewN _ _=W9
  have b0:zH W9 w.heap.size [.slice fa nf fc,.slice ca nc cc,.int .i64 lk,.slice ka nk kc]:=by rw[←hW9];exact(((zH.mk w [.slice fa nf fc,.slice ca nc cc,.int .i64 lk,.slice ka nk kc] _ _ rfl).below (below_alloc1 _ _)).below (below_alloc1 _ _)).below (by repeat(first|exact Below.refl _ _|refine below_drewN ?_ _|refine Below.drew ?_))
  have b1:zH W9 (w.heap.size+1) [.int .i64 14,.int .i64 a,.int .i64 b,.int .i64 c]:=by rw[←hW9];exact((zH.mk (w.alloc (.cells #[.slice fa nf fc,.slice ca nc cc,.int .i64 lk,.slice ka nk kc] 26)) [.int .i64 14,.int .i64 a,.int .i64 b,.int .i64 c] 80 (w.heap.size+1) (by simp)).below (below_alloc1 _ _)).below (by repeat(first|exact Below.refl _ _|refine below_drewN ?_ _|refine Below.drew ?_))
  have b2:zH W9 (w.heap.size+1+1) [.int .i64 0,.int .i64 0,.int .i64 0,.int .i64 0]:=by rw[←hW9];exact(zH.mk ((w.alloc (.cells #[.slice fa nf fc,.slice ca nc cc,.int .i64 lk,.slice ka nk kc] 26)).alloc (.cells #[.int .i64 14,.int .i64 a,.int .i64 b,.int .i64 c] 80)) [.int .i64 0,.int .i64 0,.int .i64 0,.int .i64 0] 80 (w.heap.size+1+1) (by simp)).below (by repeat(first|exact Below.refl _ _|refine below_drewN ?_ _|refine Below.drew ?_))
  have b3:Below w.heap.size w W9:=by rw[←hW9];repeat(first|exact Below.refl _ _|refine below_drewN ?_ _|refine Below.drew ?_|refine Below.alloc ?_ (by first|(simp;done)|(simp;omega)) _)
  clear hW9;obtain⟨c00,-⟩:=b0 0 _ rfl;obtain⟨c01,-⟩:=b0 1 _ rfl;obtain⟨c02,-⟩:=b0 2 _ rfl;obtain⟨c03,-⟩:=b0 3 _ rfl;obtain⟨c10,-⟩:=b1 0 _ rfl;obtain⟨ZP,-⟩:=b1 1 _ rfl;obtain⟨Zw,-⟩:=b1 2 _ rfl;obtain⟨xS,-⟩:=b1 3 _ rfl;obtain⟨c20,d20⟩:=b2 0 _ rfl;obtain⟨c21,d21⟩:=b2 1 _ rfl;obtain⟨c22,d22⟩:=b2 2 _ rfl;obtain⟨c23,d23⟩:=b2 3 _ rfl;have HZ9:=Qq b2;have HB9:=Qq b3;have HB1:=Qq b1;clear b0 b1 b2 b3;go_upto_region 30 with fail
  have hl9:w.heap.size+1+1<W9.heap.size:=World.block_lt_of_cell? W9 _ c20
  go_cut [13] (fun s wx=>Hid (Wx W9 14 (zC a nc) w.heap.size [.int .i64 14,.int .i64 a,.int .i64 b,.int .i64 c] [.int .i64 0,.int .i64 0,.int .i64 0,.int .i64 0] s wx))
  case first =>
   have hp9:∀wx,Below W9.heap.size W9 wx→wx.cell? ⟨w.heap.size+1,0,none⟩=some (.int .i64 14)∧wx.cell? ⟨w.heap.size+1,1,none⟩=some (.int .i64 a):=fun wx hb=>⟨zq c10 hb,zq ZP hb⟩
   have HP9:=Qq hp9;clear hp9;have hl8:w.heap.size+1<W9.heap.size:=World.block_lt_of_cell? W9 _ c10
   go_wp2_with fail;refine zV (fun wx=>wx.cell? ⟨w.heap.size+1,0,none⟩=some (.int .i64 14)∧wx.cell? ⟨w.heap.size+1,1,none⟩=some (.int .i64 a)) 9 (Array.replicate 9 false) (by kernel_rfl) (by kernel_rfl) ?_
   refine zm 0 5 _ (Qj 9 31) 4 (by kernel_rfl) za (HP9.out _ (by repeat(first|exact Below.refl _ _|refine Below.setCell ?_ (by simp) _|refine Below.drew ?_|refine below_drewN ?_ _|refine Below.alloc ?_ (by simp) _))) (by kernel_rfl) ?_
   simp only[QX,QV,QJ];(repeat((first|refine Qx (h:=?_)|refine Qv (h:=?_));simp only[Act.put,QW,QY,QZ]));refine zb ?_;refine yz 5 7 _ (Qj 9 63) (Qj 9 159) 3 (by kernel_rfl) (fun K hK=>?_) (fun K hK=>?_)
   ·have HK2:=Qq hK
    clear hK;simp only[QQ,QJ];refine zc (by rfl) ?_;go_simp;refine(zy _ _ _ (by omega)).mono ?_
    rintro e w5 ⟨rfl,rfl⟩;refine HK2.out _ _ (HP9.out _ (by repeat(first|exact Below.refl _ _|refine Below.setCell ?_ (by simp) _|refine Below.drew ?_|refine below_drewN ?_ _|refine Below.alloc ?_ (by simp) _))) ?_
    clear HK2 K;refine zm 6 1 _ (Qj 9 127) 2 (by kernel_rfl) za (HP9.out _ (by repeat(first|exact Below.refl _ _|refine Below.setCell ?_ (by simp) _|refine Below.drew ?_|refine below_drewN ?_ _|refine Below.alloc ?_ (by simp) _))) (by kernel_rfl) ?_
    simp only[QX,QV,QQ,QJ];(repeat((first|refine Qx (h:=?_)|refine Qv (h:=?_));simp only[Act.put,QW,QY,QZ]));refine zb ?_;refine zh 7 _ (Qj 9 255) 1 (by kernel_rfl) (fun K hK=>?_)
    have HK2:=Qq hK;clear hK;simp only[QQ,QJ];refine zc (by rfl) ?_;go_simp;refine HK2.out _ _ (HP9.out _ (by repeat(first|exact Below.refl _ _|refine Below.setCell ?_ (by simp) _|refine Below.drew ?_|refine below_drewN ?_ _|refine Below.alloc ?_ (by simp) _))) ?_
    clear HK2 K;refine zh 8 _ (Qj 9 511) 0 (by kernel_rfl) (fun K hK=>?_)
    have HK2:=Qq hK;clear hK;simp only[QQ,QJ];refine zc (by rfl) ?_;go_simp;refine HK2.out _ _ (HP9.out _ (by repeat(first|exact Below.refl _ _|refine Below.setCell ?_ (by simp) _|refine Below.drew ?_|refine below_drewN ?_ _|refine Below.alloc ?_ (by simp) _))) ?_
    clear HK2 K;refine wpAnyH_done (by kernel_rfl) (NoPanic.normal ?_) _
    go_wp2_with fail;go_meet;exact Qq ((Wx.a hl9 HB1.out HZ9.out (Below.refl _ _)).step (zg _))
   ·have HK2:=Qq hK
    clear hK;simp only[QQ,QJ];refine zc (by rfl) ?_;go_simp;refine HK2.out _ _ (HP9.out _ (by repeat(first|exact Below.refl _ _|refine Below.setCell ?_ (by simp) _|refine Below.drew ?_|refine below_drewN ?_ _|refine Below.alloc ?_ (by simp) _))) ?_
    clear HK2 K;refine zh 5 _ (Qj 9 191) 2 (by kernel_rfl) (fun K hK=>?_)
    have HK2:=Qq hK;clear hK;simp only[QQ,QJ];refine zc (by rfl) ?_;go_simp;refine(zy _ _ _ (by omega)).mono ?_
    rintro e w5 ⟨rfl,rfl⟩;refine HK2.out _ _ (HP9.out _ (by repeat(first|exact Below.refl _ _|refine Below.setCell ?_ (by simp) _|refine Below.drew ?_|refine below_drewN ?_ _|refine Below.alloc ?_ (by simp) _))) ?_
    clear HK2 K;refine zm 6 1 _ (Qj 9 255) 1 (by kernel_rfl) za (HP9.out _ (by repeat(first|exact Below.refl _ _|refine Below.setCell ?_ (by simp) _|refine Below.drew ?_|refine below_drewN ?_ _|refine Below.alloc ?_ (by simp) _))) (by kernel_rfl) ?_
    simp only[QX,QV,QQ,QJ];(repeat((first|refine Qx (h:=?_)|refine Qv (h:=?_));simp only[Act.put,QW,QY,QZ]));refine zb ?_;refine zh 8 _ (Qj 9 511) 0 (by kernel_rfl) (fun K hK=>?_)
    have HK2:=Qq hK;clear hK;simp only[QQ,QJ];refine zc (by rfl) ?_;go_simp;refine HK2.out _ _ (HP9.out _ (by repeat(first|exact Below.refl _ _|refine Below.setCell ?_ (by simp) _|refine Below.drew ?_|refine below_drewN ?_ _|refine Below.alloc ?_ (by simp) _))) ?_
    clear HK2 K;refine wpAnyH_done (by kernel_rfl) (NoPanic.normal ?_) _
    go_wp2_with fail;go_meet;exact Qq ((Wx.a hl9 HB1.out HZ9.out (Below.refl _ _)).step (zg _))
  case rest =>
   have hq0:=hcut.out;obtain⟨q,rfl,e0,e1,e2,e3,e4⟩:=hq0;generalize zC a ↑nc=X at *
   obtain⟨p0,u0⟩:=e0 0 _ rfl;obtain⟨p1,u1⟩:=e0 1 _ rfl;obtain⟨p2,u2⟩:=e0 2 _ rfl;obtain⟨p3,u3⟩:=e0 3 _ rfl;obtain⟨x0,-⟩:=e2 0 _ rfl;obtain⟨y0,t0⟩:=e3 0 _ rfl;obtain⟨y1,t1⟩:=e3 1 _ rfl;obtain⟨y2,t2⟩:=e3 2 _ rfl;obtain⟨y3,t3⟩:=e3 3 _ rfl;have hne1:w.heap.size+1≠q:=by omega
   have hne2:w.heap.size+1+1≠q:=by omega
   have E0:=Qq e0;have E3:=Qq e3;have E4:=Qq e4;have HQ:=Qq e1;clear e0 e1 e2 e3 e4 hcut c00 c01 c02 c03 c10 ZP Zw xS c20 c21 c22 c23 d20 d21 d22 d23 hl9;go_wp2_with fail;have e:=yB (((((E3.out.Zn (k:=2) (v:=.int .i64 (B8)) hne2).Zn (k:=3) (v:=.int .i64 (C8)) hne2).set 0 (.int .i64 (14))).set 1 (.int .i64 (X))).set 2 (.int .i64 (B8)) |>.set 3 (.int .i64 (C8)))
   exact bodyPost_ret (zu Tryz.results45 _ ⟨w.heap.size+1+1,0,none⟩ rfl e) rfl (xd.mk (14) (X) (B8) (C8) (zX (by unfold yh;omega) (by omega) (by omega) (by first|(simp[goodB];done)|(simp[goodB,xz];done)|(simp[goodB,xz];omega))) (by unfold yh;omega) (by repeat(first|exact zB HB9.out E4.out|refine Below.setCell ?_ (by first|(simp;omega)|(have:=HQ.out;simp;omega)) _)))
theorem G6 (fa:Option Addr)(nf fc:Nat)(ca:Option Addr)(nc cc:Nat)(lk:Int)(ka:Option Addr)(nk kc:Nat)(a0:Option Addr)(n cap:Nat)(o a b c:Int)(w:World)(hk:zC o 23=15)(hb:yh b)(h1:1≤nf∧nf≤100)(h2:nc≤100)(h3:nk≤100)(h4:0≤lk∧lk≤100)(h5:1≤n∧n≤100) :
  Calls Tryz.prog 45 #[pv fa nf fc ca nc cc lk ka nk kc,.slice a0 n cap,.agg #[.int .i64 o,.int .i64 a,.int .i64 b,.int .i64 c]] w fun e w'=>xd nf nc nk lk n w e w':=by
 have ra:=zn a 8 (by omega)
 have rb:=zn b 8 (by omega)
 have rc:=zn c 8 (by omega)
 have HKK:=Qq hk;unfold pv;clear hk;by_cases hz:nc=0
 ·subst hz
  go_enter Tryz.func45,Tryz.ntmps45
  go_wp2_with fail;refine(zy _ _ _ (by omega)).mono ?_
  rintro e w1 ⟨rfl,rfl⟩;rw[HKK.out];go_wp2_with fail;go_quiet ((go_at_call 44;exact Calls.quiet_of_same (zy _ _ _ (by omega))))
  generalize zC a 8=A8 at *;generalize zC b 8=B8 at *;generalize zC c 8=C8 at *;go_wp2_with fail;go_quiet (fail)
  generalize hW9:World.drewN _ _=W9
  have b0:zH W9 w.heap.size [.slice fa nf fc,.slice ca 0 cc,.int .i64 lk,.slice ka nk kc]:=by rw[←hW9];exact(((zH.mk w [.slice fa nf fc,.slice ca 0 cc,.int .i64 lk,.slice ka nk kc] _ _ rfl).below (below_alloc1 _ _)).below (below_alloc1 _ _)).below (by repeat(first|exact Below.refl _ _|refine below_drewN ?_ _|refine Below.drew ?_))
  have b1:zH W9 (w.heap.size+1) [.int .i64 15,.int .i64 a,.int .i64 b,.int .i64 c]:=by rw[←hW9];exact((zH.mk (w.alloc (.cells #[.slice fa nf fc,.slice ca 0 cc,.int .i64 lk,.slice ka nk kc] 26)) [.int .i64 15,.int .i64 a,.int .i64 b,.int .i64 c] 80 (w.heap.size+1) (by simp)).below (below_alloc1 _ _)).below (by repeat(first|exact Below.refl _ _|refine below_drewN ?_ _|refine Below.drew ?_))
  have b2:zH W9 (w.heap.size+1+1) [.int .i64 0,.int .i64 0,.int .i64 0,.int .i64 0]:=by rw[←hW9];exact(zH.mk ((w.alloc (.cells #[.slice fa nf fc,.slice ca 0 cc,.int .i64 lk,.slice ka nk kc] 26)).alloc (.cells #[.int .i64 15,.int .i64 a,.int .i64 b,.int .i64 c] 80)) [.int .i64 0,.int .i64 0,.int .i64 0,.int .i64 0] 80 (w.heap.size+1+1) (by simp)).below (by repeat(first|exact Below.refl _ _|refine below_drewN ?_ _|refine Below.drew ?_))
  have b3:Below w.heap.size w W9:=by rw[←hW9];repeat(first|exact Below.refl _ _|refine below_drewN ?_ _|refine Below.drew ?_|refine Below.alloc ?_ (by first|(simp;done)|(simp;omega)) _)
  clear hW9;obtain⟨c00,-⟩:=b0 0 _ rfl;obtain⟨c01,-⟩:=b0 1 _ rfl;obtain⟨c02,-⟩:=b0 2 _ rfl;obtain⟨c03,-⟩:=b0 3 _ rfl;obtain⟨c10,-⟩:=b1 0 _ rfl;obtain⟨ZP,-⟩:=b1 1 _ rfl;obtain⟨Zw,-⟩:=b1 2 _ rfl;obtain⟨xS,-⟩:=b1 3 _ rfl;obtain⟨c20,d20⟩:=b2 0 _ rfl;obtain⟨c21,d21⟩:=b2 1 _ rfl;obtain⟨c22,d22⟩:=b2 2 _ rfl;obtain⟨c23,d23⟩:=b2 3 _ rfl;have HZ9:=Qq b2;have HB9:=Qq b3;clear b0 b1 b2 b3;go_wp2_with fail;have e:=yB ((((((HZ9.out)).set 0 (.int .i64 (0))).set 1 (.int .i64 (0))).set 2 (.int .i64 (0))).set 3 (.int .i64 (0)))
  exact bodyPost_ret (zu Tryz.results45 _ ⟨w.heap.size+1+1,0,none⟩ rfl e) rfl (xd.mk (0) (0) (0) (0) (zX (by unfold yh;omega) (by omega) (by omega) (by first|(simp[goodB];done)|(simp[goodB,xz];done)|(simp[goodB,xz];omega))) (by unfold yh;omega) (HB9.out.trans (by repeat(first|exact Below.refl _ _|refine Below.setCell ?_ (by simp;omega) _|refine Below.drew ?_|refine below_drewN ?_ _))))
 ·skip
  have rx:=zn a nc (by omega)
  have hz2:¬(nc:Int)=0:=by omega
  go_enter Tryz.func45,Tryz.ntmps45
  go_wp2_with fail;refine(zy _ _ _ (by omega)).mono ?_
  rintro e w1 ⟨rfl,rfl⟩;rw[HKK.out];go_wp2_with fail;go_quiet ((go_at_call 44;exact Calls.quiet_of_same (zy _ _ _ (by omega))))
  generalize zC a 8=A8 at *;generalize zC b 8=B8 at *;generalize zC c 8=C8 at *;go_wp2_with fail;go_quiet (fail)
  generalize hW9:World.drewN _ _=W9
  have b0:zH W9 w.heap.size [.slice fa nf fc,.slice ca nc cc,.int .i64 lk,.slice ka nk kc]:=by rw[←hW9];exact(((zH.mk w [.slice fa nf fc,.slice ca nc cc,.int .i64 lk,.slice ka nk kc] _ _ rfl).below (below_alloc1 _ _)).below (below_alloc1 _ _)).below (by repeat(first|exact Below.refl _ _|refine below_drewN ?_ _|refine Below.drew ?_))
  have b1:zH W9 (w.heap.size+1) [.int .i64 15,.int .i64 a,.int .i64 b,.int .i64 c]:=by rw[←hW9];exact((zH.mk (w.alloc (.cells #[.slice fa nf fc,.slice ca nc cc,.int .i64 lk,.slice ka nk kc] 26)) [.int .i64 15,.int .i64 a,.int .i64 b,.int .i64 c] 80 (w.heap.size+1) (by simp)).below (below_alloc1 _ _)).below (by repeat(first|exact Below.refl _ _|refine below_drewN ?_ _|refine Below.drew ?_))
  have b2:zH W9 (w.heap.size+1+1) [.int .i64 0,.int .i64 0,.int .i64 0,.int .i64 0]:=by rw[←hW9];exact(zH.mk ((w.alloc (.cells #[.slice fa nf fc,.slice ca nc cc,.int .i64 lk,.slice ka nk kc] 26)).alloc (.cells #[.int .i64 15,.int .i64 a,.int .i64 b,.int .i64 c] 80)) [.int .i64 0,.int .i64 0,.int .i64 0,.int .i64 0] 80 (w.heap.size+1+1) (by simp)).below (by repeat(first|exact Below.refl _ _|refine below_drewN ?_ _|refine Below.drew ?_))
  have b3:Below w.heap.size w W9:=by rw[←hW9];repeat(first|exact Below.refl _ _|refine below_drewN ?_ _|refine Below.drew ?_|refine Below.alloc ?_ (by first|(simp;done)|(simp;omega)) _)
  clear hW9;obtain⟨c00,-⟩:=b0 0 _ rfl;obtain⟨c01,-⟩:=b0 1 _ rfl;obtain⟨c02,-⟩:=b0 2 _ rfl;obtain⟨c03,-⟩:=b0 3 _ rfl;obtain⟨c10,-⟩:=b1 0 _ rfl;obtain⟨ZP,-⟩:=b1 1 _ rfl;obtain⟨Zw,-⟩:=b1 2 _ rfl;obtain⟨xS,-⟩:=b1 3 _ rfl;obtain⟨c20,d20⟩:=b2 0 _ rfl;obtain⟨c21,d21⟩:=b2 1 _ rfl;obtain⟨c22,d22⟩:=b2 2 _ rfl;obtain⟨c23,d23⟩:=b2 3 _ rfl;have HZ9:=Qq b2;have HB9:=Qq b3;have HB1:=Qq b1;clear b0 b1 b2 b3;go_upto_region 30 with fail
  have hl9:w.heap.size+1+1<W9.heap.size:=World.block_lt_of_cell? W9 _ c20
  go_cut [13] (fun s wx=>Hid (Wx W9 15 (zC a nc) w.heap.size [.int .i64 15,.int .i64 a,.int .i64 b,.int .i64 c] [.int .i64 0,.int .i64 0,.int .i64 0,.int .i64 0] s wx))
  case first =>
   have hp9:∀wx,Below W9.heap.size W9 wx→wx.cell? ⟨w.heap.size+1,0,none⟩=some (.int .i64 15)∧wx.cell? ⟨w.heap.size+1,1,none⟩=some (.int .i64 a):=fun wx hb=>⟨zq c10 hb,zq ZP hb⟩
   have HP9:=Qq hp9;clear hp9;have hl8:w.heap.size+1<W9.heap.size:=World.block_lt_of_cell? W9 _ c10
   go_wp2_with fail;refine zV (fun wx=>wx.cell? ⟨w.heap.size+1,0,none⟩=some (.int .i64 15)∧wx.cell? ⟨w.heap.size+1,1,none⟩=some (.int .i64 a)) 9 (Array.replicate 9 false) (by kernel_rfl) (by kernel_rfl) ?_
   refine zm 0 5 _ (Qj 9 31) 4 (by kernel_rfl) za (HP9.out _ (by repeat(first|exact Below.refl _ _|refine Below.setCell ?_ (by simp) _|refine Below.drew ?_|refine below_drewN ?_ _|refine Below.alloc ?_ (by simp) _))) (by kernel_rfl) ?_
   simp only[QX,QV,QJ];(repeat((first|refine Qx (h:=?_)|refine Qv (h:=?_));simp only[Act.put,QW,QY,QZ]));refine zb ?_;refine yz 5 7 _ (Qj 9 63) (Qj 9 159) 3 (by kernel_rfl) (fun K hK=>?_) (fun K hK=>?_)
   ·have HK2:=Qq hK
    clear hK;simp only[QQ,QJ];refine zc (by rfl) ?_;go_simp;refine(zy _ _ _ (by omega)).mono ?_
    rintro e w5 ⟨rfl,rfl⟩;refine HK2.out _ _ (HP9.out _ (by repeat(first|exact Below.refl _ _|refine Below.setCell ?_ (by simp) _|refine Below.drew ?_|refine below_drewN ?_ _|refine Below.alloc ?_ (by simp) _))) ?_
    clear HK2 K;refine zm 6 1 _ (Qj 9 127) 2 (by kernel_rfl) za (HP9.out _ (by repeat(first|exact Below.refl _ _|refine Below.setCell ?_ (by simp) _|refine Below.drew ?_|refine below_drewN ?_ _|refine Below.alloc ?_ (by simp) _))) (by kernel_rfl) ?_
    simp only[QX,QV,QQ,QJ];(repeat((first|refine Qx (h:=?_)|refine Qv (h:=?_));simp only[Act.put,QW,QY,QZ]));refine zb ?_;refine zh 7 _ (Qj 9 255) 1 (by kernel_rfl) (fun K hK=>?_)
    have HK2:=Qq hK;clear hK;simp only[QQ,QJ];refine zc (by rfl) ?_;go_simp;refine HK2.out _ _ (HP9.out _ (by repeat(first|exact Below.refl _ _|refine Below.setCell ?_ (by simp) _|refine Below.drew ?_|refine below_drewN ?_ _|refine Below.alloc ?_ (by simp) _))) ?_
    clear HK2 K;refine zh 8 _ (Qj 9 511) 0 (by kernel_rfl) (fun K hK=>?_)
    have HK2:=Qq hK;clear hK;simp only[QQ,QJ];refine zc (by rfl) ?_;go_simp;refine HK2.out _ _ (HP9.out _ (by repeat(first|exact Below.refl _ _|refine Below.setCell ?_ (by simp) _|refine Below.drew ?_|refine below_drewN ?_ _|refine Below.alloc ?_ (by simp) _))) ?_
    clear HK2 K;refine wpAnyH_done (by kernel_rfl) (NoPanic.normal ?_) _
    go_wp2_with fail;go_meet;exact Qq ((Wx.a hl9 HB1.out HZ9.out (Below.refl _ _)).step (zg _))
   ·have HK2:=Qq hK
    clear hK;simp only[QQ,QJ];refine zc (by rfl) ?_;go_simp;refine HK2.out _ _ (HP9.out _ (by repeat(first|exact Below.refl _ _|refine Below.setCell ?_ (by simp) _|refine Below.drew ?_|refine below_drewN ?_ _|refine Below.alloc ?_ (by simp) _))) ?_
    clear HK2 K;refine zh 5 _ (Qj 9 191) 2 (by kernel_rfl) (fun K hK=>?_)
    have HK2:=Qq hK;clear hK;simp only[QQ,QJ];refine zc (by rfl) ?_;go_simp;refine(zy _ _ _ (by omega)).mono ?_
    rintro e w5 ⟨rfl,rfl⟩;refine HK2.out _ _ (HP9.out _ (by repeat(first|exact Below.refl _ _|refine Below.setCell ?_ (by simp) _|refine Below.drew ?_|refine below_drewN ?_ _|refine Below.alloc ?_ (by simp) _))) ?_
    clear HK2 K;refine zm 6 1 _ (Qj 9 255) 1 (by kernel_rfl) za (HP9.out _ (by repeat(first|exact Below.refl _ _|refine Below.setCell ?_ (by simp) _|refine Below.drew ?_|refine below_drewN ?_ _|refine Below.alloc ?_ (by simp) _))) (by kernel_rfl) ?_
    simp only[QX,QV,QQ,QJ];(repeat((first|refine Qx (h:=?_)|refine Qv (h:=?_));simp only[Act.put,QW,QY,QZ]));refine zb ?_;refine zh 8 _ (Qj 9 511) 0 (by kernel_rfl) (fun K hK=>?_)
    have HK2:=Qq hK;clear hK;simp only[QQ,QJ];refine zc (by rfl) ?_;go_simp;refine HK2.out _ _ (HP9.out _ (by repeat(first|exact Below.refl _ _|refine Below.setCell ?_ (by simp) _|refine Below.drew ?_|refine below_drewN ?_ _|refine Below.alloc ?_ (by simp) _))) ?_
    clear HK2 K;refine wpAnyH_done (by kernel_rfl) (NoPanic.normal ?_) _
    go_wp2_with fail;go_meet;exact Qq ((Wx.a hl9 HB1.out HZ9.out (Below.refl _ _)).step (zg _))
  case rest =>
   have hq0:=hcut.out;obtain⟨q,rfl,e0,e1,e2,e3,e4⟩:=hq0;generalize zC a ↑nc=X at *
   obtain⟨p0,u0⟩:=e0 0 _ rfl;obtain⟨p1,u1⟩:=e0 1 _ rfl;obtain⟨p2,u2⟩:=e0 2 _ rfl;obtain⟨p3,u3⟩:=e0 3 _ rfl;obtain⟨x0,-⟩:=e2 0 _ rfl;obtain⟨y0,t0⟩:=e3 0 _ rfl;obtain⟨y1,t1⟩:=e3 1 _ rfl;obtain⟨y2,t2⟩:=e3 2 _ rfl;obtain⟨y3,t3⟩:=e3 3 _ rfl;have hne1:w.heap.size+1≠q:=by omega
   have hne2:w.heap.size+1+1≠q:=by omega
   have E0:=Qq e0;have E3:=Qq e3;have E4:=Qq e4;have HQ:=Qq e1;clear e0 e1 e2 e3 e4 hcut c00 c01 c02 c03 c10 ZP Zw xS c20 c21 c22 c23 d20 d21 d22 d23 hl9;go_wp2_with fail;have e:=yB (w:=_) (((E3.out.set 0 (.int .i64 (15))).set 1 (.int .i64 (X))).set 2 (.int .i64 (0)) |>.set 3 (.int .i64 (0)))
   exact bodyPost_ret (zu Tryz.results45 _ ⟨w.heap.size+1+1,0,none⟩ rfl e) rfl (xd.mk (15) (X) (0) (0) (zX (by unfold yh;omega) (by omega) (by omega) (by first|(simp[goodB];done)|(simp[goodB,xz];done)|(simp[goodB,xz];omega))) (by unfold yh;omega) (by repeat(first|exact zB HB9.out E4.out|refine Below.setCell ?_ (by first|(simp;omega)|(have:=HQ.out;simp;omega)) _)))
theorem Jz (fa:Option Addr)(nf fc:Nat)(ca:Option Addr)(nc cc:Nat)(lk:Int)(ka:Option Addr)(nk kc:Nat)(a0:Option Addr)(n cap:Nat)(o a b c:Int)(w:World)(hb:yh b)(h1:1≤nf∧nf≤100)(h2:nc≤100)(h3:nk≤100)(h4:0≤lk∧lk≤100)(h5:1≤n∧n≤100) :
  Calls Tryz.prog 45 #[pv fa nf fc ca nc cc lk ka nk kc,.slice a0 n cap,.agg #[.int .i64 o,.int .i64 a,.int .i64 b,.int .i64 c]] w fun e w'=>xd nf nc nk lk n w e w':=by
 have r:=zn o 23 (by omega)
 have hc:zC o 23=0∨zC o 23=1∨zC o 23=2∨zC o 23=3∨zC o 23=4∨zC o 23=5∨zC o 23=6∨zC o 23=7∨zC o 23=8∨zC o 23=9∨zC o 23=10∨zC o 23=11∨zC o 23=12∨zC o 23=13∨zC o 23=14∨zC o 23=15∨zC o 23=16∨zC o 23=17∨zC o 23=18∨zC o 23=19∨zC o 23=20∨zC o 23=21∨zC o 23=22:=by omega
 rcases hc with h|h|h|h|h|h|h|h|h|h|h|h|h|h|h|h|h|h|h|h|h|h|h
 ·exact FR fa nf fc ca nc cc lk ka nk kc a0 n cap o a b c w h hb h1 h2 h3 h4 h5
 ·exact EC fa nf fc ca nc cc lk ka nk kc a0 n cap o a b c w h hb h1 h2 h3 h4 h5
 ·exact FV fa nf fc ca nc cc lk ka nk kc a0 n cap o a b c w h hb h1 h2 h3 h4 h5
 ·exact EF fa nf fc ca nc cc lk ka nk kc a0 n cap o a b c w h hb h1 h2 h3 h4 h5
 ·exact FZ fa nf fc ca nc cc lk ka nk kc a0 n cap o a b c w h hb h1 h2 h3 h4 h5
 ·exact Ek fa nf fc ca nc cc lk ka nk kc a0 n cap o a b c w h hb h1 h2 h3 h4 h5
 ·exact Eu fa nf fc ca nc cc lk ka nk kc a0 n cap o a b c w h hb h1 h2 h3 h4 h5
 ·exact FW fa nf fc ca nc cc lk ka nk kc a0 n cap o a b c w h hb h1 h2 h3 h4 h5
 ·exact EH fa nf fc ca nc cc lk ka nk kc a0 n cap o a b c w h hb h1 h2 h3 h4 h5
 ·exact EE fa nf fc ca nc cc lk ka nk kc a0 n cap o a b c w h hb h1 h2 h3 h4 h5
 ·exact Fh fa nf fc ca nc cc lk ka nk kc a0 n cap o a b c w h hb h1 h2 h3 h4 h5
 ·exact Fk fa nf fc ca nc cc lk ka nk kc a0 n cap o a b c w h hb h1 h2 h3 h4 h5
 ·exact Ga fa nf fc ca nc cc lk ka nk kc a0 n cap o a b c w h hb h1 h2 h3 h4 h5
 ·exact Gu fa nf fc ca nc cc lk ka nk kc a0 n cap o a b c w h hb h1 h2 h3 h4 h5
 ·exact Fq fa nf fc ca nc cc lk ka nk kc a0 n cap o a b c w h hb h1 h2 h3 h4 h5
 ·exact G6 fa nf fc ca nc cc lk ka nk kc a0 n cap o a b c w h hb h1 h2 h3 h4 h5
 ·exact Fl fa nf fc ca nc cc lk ka nk kc a0 n cap o a b c w h hb h1 h2 h3 h4 h5
 ·exact GR fa nf fc ca nc cc lk ka nk kc a0 n cap o a b c w h hb h1 h2 h3 h4 h5
 ·exact G7 fa nf fc ca nc cc lk ka nk kc a0 n cap o a b c w h hb h1 h2 h3 h4 h5
 ·exact GF fa nf fc ca nc cc lk ka nk kc a0 n cap o a b c w h hb h1 h2 h3 h4 h5
 ·exact GK fa nf fc ca nc cc lk ka nk kc a0 n cap o a b c w h hb h1 h2 h3 h4 h5
 ·exact GY fa nf fc ca nc cc lk ka nk kc a0 n cap o a b c w h hb h1 h2 h3 h4 h5
 ·exact Fm fa nf fc ca nc cc lk ka nk kc a0 n cap o a b c w h hb h1 h2 h3 h4 h5
end Go.Proofs.YtlkjheheofgdgaaGreat
