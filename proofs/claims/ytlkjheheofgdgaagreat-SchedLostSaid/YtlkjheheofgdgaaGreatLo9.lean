/-
  Texts put together: WCSome1, SdPg, W10In, RfNew, SegH3, RfNew2, SdMk, SdRch, SdGen, SdPk, NumsIn, ActsIn, ActsK4, W10Pg, W18Lost.
-/
import Derived.Test.YtlkjheheofgdgaaGreatLo7
import Derived.Test.YtlkjheheofgdgaaGreatLo8
import Derived.Test.YtlkjheheofgdgaaGreatLo2
import Derived.Deep.CutBlock
import Derived.Test.YtlkjheheofgdgaaGreatLo1
import Derived.Test.YtlkjheheofgdgaaGreatLo6
import Derived.Test.YtlkjheheofgdgaaGreatLo5
import Derived.Deep.SlicePairs
import Derived.WideKeyArr2
import Derived.Lib.SmallJoins
import Derived.Laws.BitsAllLaws
import Derived.WalkKit
import Derived.ProofKit
import Derived.OpenShut
import Derived.ChangeOld
import Derived.Below
set_option maxRecDepth 100000
set_option maxHeartbeats 16000000
set_option linter.unusedSimpArgs false
set_option linter.unusedVariables false
open Go Go.RowKit
namespace Go.Proofs.YtlkjheheofgdgaaGreat
theorem IS:(Tryz.prog.info? 128).map (fun i=>(i.zero,i.size,i.bytes))=some (some (.agg #[.int .i64 0,.int .i64 0,.int .i64 0]),3,24):=by kernel_rfl
theorem II:(Tryz.prog.info? 80).map (fun i=>(i.zero,i.size,i.bytes))=some (some (.agg #[.int .i64 0,.int .i64 0,.int .i64 0,.int .i64 0]),4,32):=by kernel_rfl
theorem JY:(Tryz.prog.info? 78).map (fun i=>(i.zero,i.size,i.bytes))=some (some (.slice none 0 0),1,24):=by kernel_rfl
theorem P6:∀w,(sizeOf (Tryz.prog.elem 22)).run Tryz.prog w=.ok 1 w:=by intro w;kernel_rfl
theorem Og:∀w,(sizeOf (Tryz.prog.elem 78)).run Tryz.prog w=.ok 4 w:=by intro w;kernel_rfl
def Mv (w:World)(a:Option Addr)(l:List (List yq)):Prop:=∀i (h:i<l.length),∃b off a' c',a=some ⟨b,off,none⟩∧w.cell? ⟨b,off+i,none⟩=some (.slice a' l[i].length c')∧l[i].length≤c'∧c'≤maxLen∧xB w a' l[i]
theorem Mv.below {w w':World}{a:Option Addr}{l:List (List yq)}(h:Mv w a l)(hb:Below w.heap.size w w'):Mv w' a l:=fun i hi=>by
 obtain⟨b,off,a',c',rfl,h1,h2,h3,h4⟩:=h i hi;exact⟨b,off,a',c',rfl,zq h1 hb,h2,h3,h4.below hb⟩
def K9 (n:Nat)(k:T6):Prop:=Kh n k=true∧0≤k.2.1∧0≤k.2.2∧k.2.2<8
def Hg (w:World)(r:Ending)(w':World):Prop :=
 ∃fa fc rs ca cc cs ka kc ks lk,r=.returned (.agg #[.slice fa (List.length rs) fc,.slice ca (List.length cs) cc,.int .i64 lk,.slice ka (List.length ks) kc])∧(1≤rs.length∧rs.length≤5)∧TX cs lk ks∧(∀k∈ks,K9 cs.length k)∧(∀r:Fr,r∈rs→Iv rs.length cs.length ks.length lk r.l) ∧
  Own w w' (zd 1 fa fc rs.length (WN rs)::zd 1 ca cc cs.length (zt cs)::zd 3 ka kc ks.length (ZW ks)::fns rs)
def EZ (w wr:World)(s0 s1 ob:Nat)(A0 A1:List Value)(lk:Int)(i:Nat):Prop :=
 ∃a1 c1 cs,cs.length=i∧(∀c∈cs,0≤c∧c≤3)∧Own w wr [ze ob [.slice none 0 0,.slice a1 i c1,.int .i64 lk,.slice none 0 0],zd 1 a1 c1 i (zt cs),ze s1 A1,ze s0 A0]
def EX (w wr:World)(s0 s1 ob:Nat)(A0 A1:List Value)(lk:Int)(a1:Option Addr)(c1:Nat)(cs:List Int)(n j:Nat):Prop :=
 ∃a2 c2 ks,ks.length=j∧(∀k∈ks,K9 n k)∧Own w wr [ze ob [.slice none 0 0,.slice a1 n c1,.int .i64 lk,.slice a2 j c2],zd 3 a2 c2 j (ZW ks),zd 1 a1 c1 n (zt cs),ze s1 A1,ze s0 A0]
theorem N7 {w:World}{b:Nat}{fa:Option Addr}{nf fc:Nat}{ca:Option Addr}{nc cc:Nat}{lk:Int}{ka:Option Addr}{nk kc:Nat}(h:zH w b [.slice fa nf fc,.slice ca nc cc,.int .i64 lk,.slice ka nk kc]):(loadVar 26 ⟨b,0,none⟩).run Tryz.prog w=.ok (.agg #[.slice fa nf fc,.slice ca nc cc,.int .i64 lk,.slice ka nk kc]) w:=by
 have e0:=(h 0 _ rfl).1
 have e1:=(h 1 _ rfl).1
 have e2:=(h 2 _ rfl).1
 have e3:=(h 3 _ rfl).1
 simp[go_sem,e0,e1,e2,e3]
theorem Own.Hk {w0 w:World}{R:List zv}(h:Own w0 w R):∀n:Nat,Own w0 w (fns (List.replicate n ⟨none,0,[]⟩)++R)
 | 0=>h
 | n+1=>(Own.Hk h n).add (Below.refl _ _) (A:=zd 4 none 0 0 (inc [])) (F:=[]) ⟨rfl,zT.nil 4 _⟩ (by simp)
theorem Ia (n:Nat):(madeCells #[Value.slice none 0 0] (n*1)).toList=WN (List.replicate n ⟨none,0,[]⟩):=by
 rw[Nat.mul_one,toList_madeCells_one];unfold WN Fg;simp
theorem Ie (w:World)(n:Nat)(hn:n≤1000000):∃w1 a c,(Instr.makeSlice 22 (.int .i64 (n:Int)) (.int .i64 (n:Int))).run Tryz.prog w=.ok (.slice a n c) w1∧zT 1 w1 a c n (WN (List.replicate n ⟨none,0,[]⟩))∧(∀x∈zY a,w.heap.size≤x)∧Below w.heap.size w w1:=by
 obtain⟨i0,hi,hz0,hz1,hz2⟩:=info_parts JY;obtain⟨w1,h1,h2,h3⟩:=run_make_full (P:=Tryz.prog) w w.heap.size 22 78 i0 _ 1 Tryz.underlying22 hi hz0 hz1 .i64 .i64 n (by rw[hz2];omega) (by unfold maxLen;omega) (Nat.le_refl _)
 obtain⟨a,cap,e,hr,hb⟩:=zT.xH h2;simp only[Value.slice.injEq] at e;obtain⟨e1,e2,e3⟩:=e;subst e1;rw[←e3] at hr;rw[show(Value.slice none 0 0).cells=#[Value.slice none 0 0] from rfl,Ia] at hr
 exact⟨w1,_,_,h1,hr,hb,(yy h3).ZZ⟩
def Fc (w:World)(X:List zv)(ga:Option Addr)(gl:List (List yq)):Prop:=∀q (h:q<gl.length),∃b off a' c',ga=some ⟨b,off,none⟩∧gl[q].length≤c'∧c'≤maxLen∧∀wy L,Own w wy (L++X)→wy.cell? ⟨b,off+q,none⟩=some (.slice a' gl[q].length c')∧xB wy a' gl[q]
def E6 (w wr:World)(ob gn nc nk:Nat)(lk:Int)(sa:Option Addr)(sc:Nat)(i:Nat)(L:List zv):Prop :=
 ∃rs:List Fr,rs.length=gn∧(∀k r,k<i→rs[k]?=some r→Iv gn nc nk lk r.l)∧Own w wr (fns rs++zd 1 sa sc gn (WN rs)::L)
theorem Nn (fa:Option Addr)(fc:Nat)(ca:Option Addr)(cc:Nat)(ka:Option Addr)(kc:Nat)(d:PD)(w:World)(hf:Mv w fa d.fs)(hc:yT w ca d.cs)(hk:Yc w ka d.ks)(hfit:Fits d)(hl1:d.fs.length≤fc)(hl2:fc≤maxLen)(hl3:d.cs.length≤9223372036854775807)(hl4:d.ks.length≤9223372036854775807) :
  Calls Tryz.prog 22 #[.agg #[.slice fa d.fs.length fc,.slice ca d.cs.length cc,.int .i64 d.lk,.slice ka d.ks.length kc]] w fun r w'=>Hg w r w':=by
 obtain⟨fs,cs0,lk0,ks0⟩:=d;simp only at hf hc hk hl1 hl3 hl4 hfit ⊢
 unfold maxLen at hl2;obtain⟨nf,hnf⟩:∃n,fs.length=n:=⟨_,rfl⟩
 obtain⟨nc,hn⟩:∃n,cs0.length=n:=⟨_,rfl⟩
 obtain⟨nk,hm⟩:∃n,ks0.length=n:=⟨_,rfl⟩
 rw[hnf] at hl1 ⊢;rw[hn] at hl3 ⊢;rw[hm] at hl4 ⊢;have HNF:=Qq hnf;have HN:=Qq hn;have HM:=Qq hm;have HF:=Qq hf;have HC:=Qq hc;have HK:=Qq hk;have HFIT:=Qq hfit;obtain⟨s0,hs0⟩:∃s0,s0=w.heap.size:=⟨_,rfl⟩
 have HW:=Qq hs0;have hO:Own w ((w.alloc (.cells #[.slice fa nf fc,.slice ca nc cc,.int .i64 lk0,.slice ka nk kc] 26)).alloc (.cells #[.slice none 0 0,.slice none 0 0,.int .i64 0,.slice none 0 0] 26)) [ze (s0+1) [.slice none 0 0,.slice none 0 0,.int .i64 0,.slice none 0 0],ze s0 [.slice fa nf fc,.slice ca nc cc,.int .i64 lk0,.slice ka nk kc]] :=
  ((Own.nil (Below.refl _ _)).alloc [.slice fa nf fc,.slice ca nc cc,.int .i64 lk0,.slice ka nk kc] _ hs0).alloc [.slice none 0 0,.slice none 0 0,.int .i64 0,.slice none 0 0] _ (by simp[hs0])
 have HO:=Qq hO;clear hO hf hc hk hnf hn hm hfit;obtain⟨r0,hi0,hz0,hz1,hz2⟩:=info_parts IS;have Ri:=Qq hi0;clear hi0
 have Rz0:=Qq hz0;clear hz0
 have Rz1:=Qq hz1;clear hz1
 have Rz2:=Qq hz2;clear hz2
 obtain⟨q0,hi0,hz0,hz1,hz2⟩:=info_parts II;have Qi:=Qq hi0;clear hi0
 have Qz0:=Qq hz0;clear hz0
 have Qz1:=Qq hz1;clear hz1
 have Qz2:=Qq hz2;clear hz2
 obtain⟨n0,hi0,hz0,hz1,hz2⟩:=info_parts Oj;have Ni:=Qq hi0;clear hi0
 have Nz0:=Qq hz0;clear hz0
 have Nz1:=Qq hz1;clear hz1
 have Nz2:=Qq hz2;clear hz2
 go_enter Tryz.func22,Tryz.ntmps22
 go_upto_region 1 with fail
 rw[←hs0];clear hs0;generalize ((w.alloc (.cells #[.slice fa nf fc,.slice ca nc cc,.int .i64 lk0,.slice ka nk kc] 26)).alloc (.cells #[.slice none 0 0,.slice none 0 0,.int .i64 0,.slice none 0 0] 26))=W at *
 obtain⟨p2,-⟩:=HO.out.zi 1 rfl 2 _ rfl;go_wp2_with fail;refine(zy lk0 4 W (by omega)).mono ?_
 rintro r W ⟨rfl,rfl⟩;obtain⟨lk,hlk⟩:∃lk,lk=zC lk0 4:=⟨_,rfl⟩
 have hlkr:0≤lk∧lk≤3:=by have:=zn lk0 4 (by omega);omega
 rw[←hlk];clear hlk p2;obtain⟨ob,hob⟩:∃ob,ob=W.heap.size:=⟨_,rfl⟩
 have hO1:=HO.out.alloc [.slice none 0 0,.slice none 0 0,.int .i64 lk,.slice none 0 0] 26 hob
 have hst:EZ w (W.alloc (.cells #[.slice none 0 0,.slice none 0 0,.int .i64 lk,.slice none 0 0] 26)) s0 (s0+1) ob [.slice fa nf fc,.slice ca nc cc,.int .i64 lk0,.slice ka nk kc] [.slice none 0 0,.slice none 0 0,.int .i64 0,.slice none 0 0] lk 0 :=
  ⟨none,0,[],rfl,by simp,(hO1.add (Below.refl _ _) (A:=zd 1 none 0 0 (zt [])) (F:=[]) ⟨rfl,zT.nil 1 _⟩ (by simp)).pick 1 rfl⟩
 have HST:=Qq hst;clear hO1 hst HO;go_wp2_with fail;rw[←hob];clear hob;go_loopw [4] (fun s wr=>∃i:Nat,i≤nc∧i≤4∧s=.int .i64 i∧Hid (EZ w wr s0 (s0+1) ob [.slice fa nf fc,.slice ca nc cc,.int .i64 lk0,.slice ka nk kc] [.slice none 0 0,.slice none 0 0,.int .i64 0,.slice none 0 0] lk i)) (fun s _=>4-(intOf s).toNat)
 case atStart=>exact⟨0,by omega,by omega,rfl,HST⟩
 case round =>
  obtain⟨i,hi1,hi2,rfl,hr⟩:=hrel;clear HST;by_cases hlt:i<nc∧i<4
  ·obtain⟨a1,c1,cs,h1,h2,ho⟩:=hr.out
   obtain⟨p1,-⟩:=ho.zi 3 rfl 1 _ rfl;obtain⟨z1,z2⟩:=hlt;have hil:i<cs0.length:=by rw[HN.out];exact z1
   obtain⟨b,off,rfl,e0⟩:=HC.out i hil;obtain⟨x,hx⟩:∃x,x=cs0[i]:=⟨_,rfl⟩
   rw[←hx] at e0;have z1':(i:Int)<(nc:Int):=by omega
   have z2':(i:Int)<4:=by omega
   have SCB:∀{wx:World} {A:zv},Own w wx [ze ob [.slice none 0 0,.slice a1 i c1,.int .i64 lk,.slice none 0 0],A,ze (s0+1) [.slice none 0 0,.slice none 0 0,.int .i64 0,.slice none 0 0],ze s0 [.slice fa nf fc,.slice (some ⟨b,off,none⟩) nc cc,.int .i64 lk0,.slice ka nk kc]]→(wx.cell? ⟨ob,1,none⟩=some (.slice a1 i c1)∧wx.cell? ⟨s0,1,none⟩=some (.slice (some ⟨b,off,none⟩) nc cc)∧wx.cell? ⟨b,off+i,none⟩=some (.int .i64 x)) :=
    fun h=>⟨(h.zi 0 rfl 1 _ rfl).1,(h.zi 3 rfl 1 _ rfl).1,zq e0 h.bel⟩
   obtain⟨y,hyr,hmod⟩:∃y,(0≤y∧y≤3)∧∀w',Calls Tryz.prog 44 #[.int .i64 x,.int .i64 4] w' fun e w''=>e=.returned (.int .i64 y)∧w''=w':=⟨zC x 4,by have:=zn x 4 (by omega);omega,fun w'=>zy x 4 w' (by omega)⟩
   have HMOD:=Qq hmod;have HYR:=Qq hyr;have HO:=Qq ho;have HH:=Qq (And.intro h1 h2)
   clear hmod hyr;clear hr ho h1 h2 hx hil;go_upto_region 5 with fail
   have o1:=HO.out.step (zg wr)
   refine xh (fun wx=>wx.cell? ⟨ob,1,none⟩=some (.slice a1 i c1)∧wx.cell? ⟨s0,1,none⟩=some (.slice (some ⟨b,off,none⟩) nc cc)∧wx.cell? ⟨b,off+i,none⟩=some (.int .i64 x)) 12 (Array.replicate 12 false) (by kernel_rfl) (by kernel_rfl) ?_
   refine zF 0 7 _ (Qj 12 127) 5 (by kernel_rfl) za (SCB o1) (by kernel_rfl) ?_
   simp only[QX,QV,QJ];(repeat((first|refine Qx (h:=?_)|refine Qv (h:=?_));simp only[Act.put,QW,QY,QZ]));refine zb ?_;refine zM 7 _ (Qj 12 255) 4 (by kernel_rfl) (fun K hK=>?_)
   have HKK:=Qq hK;clear hK;simp only[QQ,QJ];refine zc (by rfl) ?_;go_simp;refine(HMOD.out wr.drew).mono ?_
   rintro r w7 ⟨rfl,rfl⟩;refine HKK.out _ _ (SCB o1) ?_
   clear HKK K;have o2:=(HO.out.step (below_alloc1 wr (.cells #[.int .i64 y] 3))).step (zg _)
   refine zM 8 _ (Qj 12 511) 3 (by kernel_rfl) (fun K hK=>?_)
   have HKK:=Qq hK;clear hK;simp only[QQ,QJ];refine zc (by rfl) ?_;go_simp;refine HKK.out _ _ (SCB o2) ?_
   clear HKK K;refine zM 9 _ (Qj 12 1023) 2 (by kernel_rfl) (fun K hK=>?_)
   have HKK:=Qq hK;clear hK;simp only[QQ,QJ];refine zc (by rfl) ?_;refine yx (n:=i) (m:=1) (cs:=zt cs) (ds:=zt [y]) _ _ 23 (by rfl) 3 n0 _ Tryz.underlying23 Ni.out Nz0.out Nz1.out Nz2.out rfl (by omega) (by omega) (by rfl) (by rfl) (o2.xl 1 rfl) ((zr.new wr (zt [y]) _ rfl).below (zg _)) rfl (ZL _) (by omega) ?_
   intro a9 c9 w9 k9 ch9 f9;have o3:Own w w9 [ze ob [.slice none 0 0,.slice a1 i c1,.int .i64 lk,.slice none 0 0],zd 1 a9 c9 (i+1) (zt cs++zt [y]),ze (s0+1) [.slice none 0 0,.slice none 0 0,.int .i64 0,.slice none 0 0],ze s0 [.slice fa nf fc,.slice (some ⟨b,off,none⟩) nc cc,.int .i64 lk0,.slice ka nk kc]]:=(Own.yJ (o2.pick 1 rfl) k9 ch9 f9).pick 1 rfl
   refine HKK.out _ _ (SCB o3) ?_
   clear HKK K;refine zF 10 1 _ (Qj 12 2047) 1 (by kernel_rfl) za (SCB o3) (by kernel_rfl) ?_
   simp only[QX,QV,QQ,QJ];(repeat((first|refine Qx (h:=?_)|refine Qv (h:=?_));simp only[Act.put,QW,QY,QZ]));refine zb ?_;obtain⟨y1,g1⟩:=o3.zi 0 rfl 1 _ rfl;have hfin:=o3.setAt 0 rfl 1 (.slice a9 (i+1) c9)
   have HR:Hid (EZ w (w9.setCell ⟨ob,1,none⟩ (.slice a9 (i+1) c9)) s0 (s0+1) ob [.slice fa nf fc,.slice (some ⟨b,off,none⟩) nc cc,.int .i64 lk0,.slice ka nk kc] [.slice none 0 0,.slice none 0 0,.int .i64 0,.slice none 0 0] lk (i+1)):=Qq ⟨a9,c9,cs++[y],by simp[HH.out.1],fun c hc=>by
    rcases List.mem_append.1 hc with h|h
    ·exact HH.out.2 c h
    ·obtain rfl:=by simpa using h
     exact HYR.out,by rw[show zt (cs++[y])=zt cs++zt [y] by unfold zt;simp];exact hfin⟩
   clear hfin k9 ch9 f9 o1 o2 o3 SCB HO HH;refine yG 11 _ (Qj 12 4095) (by kernel_rfl) (fun K hK=>?_)
   have HKK:=Qq hK;clear hK;simp only[QQ,QJ];refine zc (by rfl) ?_;go_simp;refine HKK.out _ _ (NoPanic.normal ?_)
   clear HKK K;go_wp2;exact⟨⟨i+1,by omega,by omega,by go_num,HR⟩,by simp[intOf];omega⟩
  ·have hcase:(i<nc∧¬i<4)∨¬i<nc:=by omega
   obtain⟨a1,c1,cs,h1,h2,ho⟩:=hr.out;obtain⟨p1,-⟩:=ho.zi 3 rfl 1 _ rfl;have hst:EX w wr s0 (s0+1) ob [.slice fa nf fc,.slice ca nc cc,.int .i64 lk0,.slice ka nk kc] [.slice none 0 0,.slice none 0 0,.int .i64 0,.slice none 0 0] lk a1 c1 cs i 0 :=
    ⟨none,0,[],rfl,by simp,(ho.add (Below.refl _ _) (A:=zd 3 none 0 0 (ZW [])) (F:=[]) ⟨rfl,zT.nil 3 _⟩ (by simp)).pick 1 rfl⟩
   have HST:=Qq hst;have HH:=Qq (And.intro h1 h2)
   clear hr h1 h2 ho hst;go_upto_region 3 with fail
   go_cut [26] (fun s wx=>s=.bool false∧wx=wr)
   case first =>
    rcases hcase with⟨z1,z2⟩|z1
    case' inl=>have z1:(i:Int)<(nc:Int):=by omega
    case' inl=>have z2:¬(i:Int)<4:=by omega
    case' inr=>have z1:¬(i:Int)<(nc:Int):=by omega
    all_goals
     go_wp2_with fail;go_meet;exact⟨rfl,rfl⟩
   case rest =>
    obtain⟨rfl,hwc⟩:=hcut;have hwc:=hwc.symm;subst hwc;clear hcase p1 hlt;go_wp2_with fail;go_loopw [5] (fun s wr=>∃j:Nat,j≤nk∧j≤8∧s=.int .i64 j∧Hid (EX w wr s0 (s0+1) ob [.slice fa nf fc,.slice ca nc cc,.int .i64 lk0,.slice ka nk kc] [.slice none 0 0,.slice none 0 0,.int .i64 0,.slice none 0 0] lk a1 c1 cs i j)) (fun s _=>8-(intOf s).toNat)
    case atStart=>exact⟨0,by omega,by omega,rfl,HST⟩
    case round =>
     obtain⟨j,hj1,hj2,rfl,hr⟩:=hrel;clear HST;by_cases hlt:j<nk∧j<8
     ·obtain⟨a2,c2,ks,h1,h2,ho⟩:=hr.out
      obtain⟨p1,-⟩:=ho.zi 4 rfl 3 _ rfl;obtain⟨z1,z2⟩:=hlt;have hjl:j<ks0.length:=by rw[HM.out];exact z1
      obtain⟨b,off,rfl,e0,e1,e2⟩:=(HK.out.below ho.bel) j hjl
      obtain⟨x,hx⟩:∃x,x=ks0[j]:=⟨_,rfl⟩
      rw[←hx] at e0 e1 e2;obtain⟨x0,x1,x2⟩:=x;simp only at e0 e1 e2
      have z1':(j:Int)<(nk:Int):=by omega
      have z2':(j:Int)<8:=by omega
      obtain⟨cb,hcb⟩:∃cb,cb=wr.heap.size:=⟨_,rfl⟩
      have hO:=ho.alloc [.int .i64 x0,.int .i64 x1,.int .i64 x2] 128 hcb
      have HO:=Qq hO;have HH2:=Qq (And.intro h1 h2)
      obtain⟨y0,hy0,hm0⟩:∃y,(0≤y∧y≤2)∧∀w',Calls Tryz.prog 44 #[.int .i64 x0,.int .i64 3] w' fun e w''=>e=.returned (.int .i64 y)∧w''=w':=⟨zC x0 3,by have:=zn x0 3 (by omega);omega,fun w'=>zy x0 3 w' (by omega)⟩
      obtain⟨y1,hy1,hm1⟩:∃y:Int,(1≤i→0≤y∧y<i)∧∀w',Calls Tryz.prog 44 #[.int .i64 x1,.int .i64 (i:Int)] w' fun e w''=>e=.returned (.int .i64 y)∧w''=w':=⟨zC x1 i,fun h=>zn x1 i (by omega),fun w'=>zy x1 i w' (by omega)⟩
      obtain⟨y2,hy2,hm2⟩:∃y,(0≤y∧y≤7)∧∀w',Calls Tryz.prog 44 #[.int .i64 x2,.int .i64 8] w' fun e w''=>e=.returned (.int .i64 y)∧w''=w':=⟨zC x2 8,by have:=zn x2 8 (by omega);omega,fun w'=>zy x2 8 w' (by omega)⟩
      have HM0:=Qq hm0;have HM1:=Qq hm1;have HM2:=Qq hm2;have HY:=Qq (And.intro hy0 (And.intro hy1 hy2))
      clear hr ho h1 h2 hx hjl hO hy0 hy1 hy2 hm0 hm1 hm2;go_upto_region 10 with fail
      rw[←hcb];generalize wr.alloc (.cells #[.int .i64 x0,.int .i64 x1,.int .i64 x2] 128)=W at *
      clear hcb p1 e0 e1 e2;obtain⟨b7,hb7⟩:∃b7,b7=W.heap.size:=⟨_,rfl⟩
      have SCB:∀{wx:World},Below W.heap.size W wx→(wx.cell? ⟨cb,0,none⟩=some (.int .i64 x0)∧wx.cell? ⟨cb,1,none⟩=some (.int .i64 x1)∧wx.cell? ⟨cb,2,none⟩=some (.int .i64 x2)∧wx.cell? ⟨ob,1,none⟩=some (.slice a1 i c1)) :=
       fun h=>⟨zq (HO.out.zi 0 rfl 0 _ rfl).1 h,zq (HO.out.zi 0 rfl 1 _ rfl).1 h,zq (HO.out.zi 0 rfl 2 _ rfl).1 h,zq (HO.out.zi 1 rfl 1 _ rfl).1 h⟩
      go_cut [7] (fun s wx=>s=.pointer (some ⟨b7,0,none⟩)∧wx=(W.alloc (.cells #[.int .i64 y0,.int .i64 y1,.int .i64 y2] 128)).drew)
      case first =>
       have o1:=zg W;have oA:=zB (below_alloc1 W (.cells #[.int .i64 0,.int .i64 0,.int .i64 0] 128)) (zg _)
       refine xh (fun wx=>wx.cell? ⟨cb,0,none⟩=some (.int .i64 x0)∧wx.cell? ⟨cb,1,none⟩=some (.int .i64 x1)∧wx.cell? ⟨cb,2,none⟩=some (.int .i64 x2)∧wx.cell? ⟨ob,1,none⟩=some (.slice a1 i c1)) 15 (Array.replicate 15 false) (by kernel_rfl) (by kernel_rfl) ?_
       refine zF 0 2 _ (Qj 15 3) 13 (by kernel_rfl) za (SCB o1) (by kernel_rfl) ?_
       simp only[QX,QV,QJ];(repeat((first|refine Qx (h:=?_)|refine Qv (h:=?_));simp only[Act.put,QW,QY,QZ]));refine zb ?_;refine zF 3 5 _ (Qj 15 251) 8 (by kernel_rfl) za (SCB o1) (by kernel_rfl) ?_
       simp only[QX,QV,QQ,QJ];(repeat((first|refine Qx (h:=?_)|refine Qv (h:=?_));simp only[Act.put,QW,QY,QZ]));refine zb ?_;refine zF 9 2 _ (Qj 15 1787) 6 (by kernel_rfl) za (SCB o1) (by kernel_rfl) ?_
       simp only[QX,QV,QQ,QJ];(repeat((first|refine Qx (h:=?_)|refine Qv (h:=?_));simp only[Act.put,QW,QY,QZ]));refine zb ?_;refine xI 2 13 _ (Qj 15 1791) (Qj 15 9979) 5 (by kernel_rfl) (fun K hK=>?_) (fun K hK=>?_)
       ·skip
        have HKK:=Qq hK;clear hK;simp only[QQ,QJ];refine zc (by rfl) ?_;go_simp;refine(HM0.out W.drew).mono ?_
        rintro r w7 ⟨rfl,rfl⟩;refine HKK.out _ _ (SCB o1) ?_
        clear HKK K;refine xI 8 13 _ (Qj 15 2047) (Qj 15 9983) 4 (by kernel_rfl) (fun K hK=>?_) (fun K hK=>?_)
        ·skip
         have HKK:=Qq hK;clear hK;simp only[QQ,QJ];refine zc (by rfl) ?_;go_simp;refine(HM1.out W.drew).mono ?_
         rintro r w7 ⟨rfl,rfl⟩;refine HKK.out _ _ (SCB o1) ?_
         clear HKK K;refine xI 11 13 _ (Qj 15 4095) (Qj 15 10239) 3 (by kernel_rfl) (fun K hK=>?_) (fun K hK=>?_)
         ·skip
          have HKK:=Qq hK;clear hK;simp only[QQ,QJ];refine zc (by rfl) ?_;go_simp;refine(HM2.out W.drew).mono ?_
          rintro r w7 ⟨rfl,rfl⟩;refine HKK.out _ _ (SCB o1) ?_
          clear HKK K;refine zF 12 1 _ (Qj 15 8191) 2 (by kernel_rfl) za (SCB o1) (by kernel_rfl) ?_
          simp only[QX,QV,QQ,QJ];(repeat((first|refine Qx (h:=?_)|refine Qv (h:=?_));simp only[Act.put,QW,QY,QZ]));refine zb ?_;refine zM 13 _ (Qj 15 16383) 1 (by kernel_rfl) (fun K hK=>?_)
          have HKK:=Qq hK;clear hK;simp only[QQ,QJ];refine zc (by rfl) ?_;go_simp;refine HKK.out _ _ (SCB oA) ?_
          clear HKK K;refine yG 14 _ (Qj 15 32767) (by kernel_rfl) (fun K hK=>?_)
          have HKK:=Qq hK;clear hK;simp only[QQ,QJ];refine zc (by rfl) ?_;go_simp;refine HKK.out _ _ (NoPanic.normal ?_)
          clear HKK K;go_wp2_with fail;go_meet;exact⟨by rw[hb7],rfl⟩
         ·skip
          have HKK:=Qq hK;clear hK;simp only[QQ,QJ];refine zc (by rfl) ?_;go_simp;refine HKK.out _ _ (SCB oA) ?_
          clear HKK K;refine zM 11 _ (Qj 15 12287) 2 (by kernel_rfl) (fun K hK=>?_)
          have HKK:=Qq hK;clear hK;simp only[QQ,QJ];refine zc (by rfl) ?_;go_simp;refine(HM2.out (W.alloc (.cells #[.int .i64 0,.int .i64 0,.int .i64 0] 128)).drew).mono ?_
          rintro r w7 ⟨rfl,rfl⟩;refine HKK.out _ _ (SCB oA) ?_
          clear HKK K;refine zF 12 1 _ (Qj 15 16383) 1 (by kernel_rfl) za (SCB oA) (by kernel_rfl) ?_
          simp only[QX,QV,QQ,QJ];(repeat((first|refine Qx (h:=?_)|refine Qv (h:=?_));simp only[Act.put,QW,QY,QZ]));refine zb ?_;refine yG 14 _ (Qj 15 32767) (by kernel_rfl) (fun K hK=>?_)
          have HKK:=Qq hK;clear hK;simp only[QQ,QJ];refine zc (by rfl) ?_;go_simp;refine HKK.out _ _ (NoPanic.normal ?_)
          clear HKK K;go_wp2_with fail;go_meet;exact⟨by rw[hb7],rfl⟩
        ·skip
         have HKK:=Qq hK;clear hK;simp only[QQ,QJ];refine zc (by rfl) ?_;go_simp;refine HKK.out _ _ (SCB oA) ?_
         clear HKK K;refine zM 8 _ (Qj 15 10239) 3 (by kernel_rfl) (fun K hK=>?_)
         have HKK:=Qq hK;clear hK;simp only[QQ,QJ];refine zc (by rfl) ?_;go_simp;refine(HM1.out (W.alloc (.cells #[.int .i64 0,.int .i64 0,.int .i64 0] 128)).drew).mono ?_
         rintro r w7 ⟨rfl,rfl⟩;refine HKK.out _ _ (SCB oA) ?_
         clear HKK K;refine zM 11 _ (Qj 15 12287) 2 (by kernel_rfl) (fun K hK=>?_)
         have HKK:=Qq hK;clear hK;simp only[QQ,QJ];refine zc (by rfl) ?_;go_simp;refine(HM2.out (W.alloc (.cells #[.int .i64 0,.int .i64 0,.int .i64 0] 128)).drew).mono ?_
         rintro r w7 ⟨rfl,rfl⟩;refine HKK.out _ _ (SCB oA) ?_
         clear HKK K;refine zF 12 1 _ (Qj 15 16383) 1 (by kernel_rfl) za (SCB oA) (by kernel_rfl) ?_
         simp only[QX,QV,QQ,QJ];(repeat((first|refine Qx (h:=?_)|refine Qv (h:=?_));simp only[Act.put,QW,QY,QZ]));refine zb ?_;refine yG 14 _ (Qj 15 32767) (by kernel_rfl) (fun K hK=>?_)
         have HKK:=Qq hK;clear hK;simp only[QQ,QJ];refine zc (by rfl) ?_;go_simp;refine HKK.out _ _ (NoPanic.normal ?_)
         clear HKK K;go_wp2_with fail;go_meet;exact⟨by rw[hb7],rfl⟩
       ·skip
        have HKK:=Qq hK;clear hK;simp only[QQ,QJ];refine zc (by rfl) ?_;go_simp;refine HKK.out _ _ (SCB oA) ?_
        clear HKK K;refine zM 2 _ (Qj 15 9983) 4 (by kernel_rfl) (fun K hK=>?_)
        have HKK:=Qq hK;clear hK;simp only[QQ,QJ];refine zc (by rfl) ?_;go_simp;refine(HM0.out (W.alloc (.cells #[.int .i64 0,.int .i64 0,.int .i64 0] 128)).drew).mono ?_
        rintro r w7 ⟨rfl,rfl⟩;refine HKK.out _ _ (SCB oA) ?_
        clear HKK K;refine zM 8 _ (Qj 15 10239) 3 (by kernel_rfl) (fun K hK=>?_)
        have HKK:=Qq hK;clear hK;simp only[QQ,QJ];refine zc (by rfl) ?_;go_simp;refine(HM1.out (W.alloc (.cells #[.int .i64 0,.int .i64 0,.int .i64 0] 128)).drew).mono ?_
        rintro r w7 ⟨rfl,rfl⟩;refine HKK.out _ _ (SCB oA) ?_
        clear HKK K;refine zM 11 _ (Qj 15 12287) 2 (by kernel_rfl) (fun K hK=>?_)
        have HKK:=Qq hK;clear hK;simp only[QQ,QJ];refine zc (by rfl) ?_;go_simp;refine(HM2.out (W.alloc (.cells #[.int .i64 0,.int .i64 0,.int .i64 0] 128)).drew).mono ?_
        rintro r w7 ⟨rfl,rfl⟩;refine HKK.out _ _ (SCB oA) ?_
        clear HKK K;refine zF 12 1 _ (Qj 15 16383) 1 (by kernel_rfl) za (SCB oA) (by kernel_rfl) ?_
        simp only[QX,QV,QQ,QJ];(repeat((first|refine Qx (h:=?_)|refine Qv (h:=?_));simp only[Act.put,QW,QY,QZ]));refine zb ?_;refine yG 14 _ (Qj 15 32767) (by kernel_rfl) (fun K hK=>?_)
        have HKK:=Qq hK;clear hK;simp only[QQ,QJ];refine zc (by rfl) ?_;go_simp;refine HKK.out _ _ (NoPanic.normal ?_)
        clear HKK K;go_wp2_with fail;go_meet;exact⟨by rw[hb7],rfl⟩
      case rest =>
       obtain⟨rfl,rfl⟩:=hcut;have h7:Own w ((W.alloc (.cells #[.int .i64 y0,.int .i64 y1,.int .i64 y2] 128)).drew) [ze b7 [.int .i64 y0,.int .i64 y1,.int .i64 y2],ze cb [.int .i64 x0,.int .i64 x1,.int .i64 x2],ze ob [.slice none 0 0,.slice a1 i c1,.int .i64 lk,.slice a2 j c2],zd 3 a2 c2 j (ZW ks),zd 1 a1 c1 i (zt cs),ze (s0+1) [.slice none 0 0,.slice none 0 0,.int .i64 0,.slice none 0 0],ze s0 [.slice fa nf fc,.slice ca nc cc,.int .i64 lk0,.slice (some ⟨b,off,none⟩) nk kc]]:=(HO.out.alloc [.int .i64 y0,.int .i64 y1,.int .i64 y2] _ hb7).step (zg _)
       have H7:=Qq h7;clear h7 SCB HO hb7;generalize (W.alloc (.cells #[.int .i64 y0,.int .i64 y1,.int .i64 y2] 128)).drew=Wb at *
       obtain⟨q1,-⟩:=H7.out.zi 2 rfl 1 _ rfl;go_upto_if 72 with fail
       go_cut [7] (fun s wx=>s=.pointer (some ⟨b7,0,none⟩)∧∃z0 z1 z2,K9 i (z0,z1,z2)∧Own w wx [ze b7 [.int .i64 z0,.int .i64 z1,.int .i64 z2],ze cb [.int .i64 x0,.int .i64 x1,.int .i64 x2],ze ob [.slice none 0 0,.slice a1 i c1,.int .i64 lk,.slice a2 j c2],zd 3 a2 c2 j (ZW ks),zd 1 a1 c1 i (zt cs),ze (s0+1) [.slice none 0 0,.slice none 0 0,.int .i64 0,.slice none 0 0],ze s0 [.slice fa nf fc,.slice ca nc cc,.int .i64 lk0,.slice (some ⟨b,off,none⟩) nk kc]])
       case first =>
        by_cases hi0:i=0
        ·have hi0':(i:Int)=0:=by omega
         obtain⟨f0,g0⟩:=H7.out.zi 0 rfl 0 _ rfl;obtain⟨f1,g1⟩:=H7.out.zi 0 rfl 1 _ rfl;obtain⟨f2,g2⟩:=H7.out.zi 0 rfl 2 _ rfl;have h8:=Qq (((H7.out.set 0 (.int .i64 2)).set 1 (.int .i64 0)).set 2 (.int .i64 0))
         go_wp2_with fail;go_meet;exact⟨rfl,2,0,0,⟨by unfold Kh;simp,by simp⟩,h8.out⟩
        ·have hi0':¬(i:Int)=0:=by omega
         go_wp2_with fail;go_meet;refine⟨rfl,y0,y1,y2,⟨?_,?_⟩,H7.out⟩
         rotate_left
         ·obtain⟨k0,k1,k2⟩:=HY.out
          have k1:=k1 (by omega)
          simp only
          omega
         obtain⟨k0,k1,k2⟩:=HY.out;have k1:=k1 (by omega)
         unfold Kh;split
         ·simp only[KT,Bool.and_eq_true,decide_eq_true_eq];omega
         ·simp only at *;simp;omega
       case rest =>
        obtain⟨rfl,v0,v1,v2,hz,h7⟩:=hcut;clear H7 q1;obtain⟨f0,-⟩:=h7.zi 0 rfl 0 _ rfl;obtain⟨f1,-⟩:=h7.zi 0 rfl 1 _ rfl;obtain⟨f2,-⟩:=h7.zi 0 rfl 2 _ rfl;obtain⟨f3,-⟩:=h7.zi 2 rfl 3 _ rfl;have O7:=Qq (h7.step (below_alloc1 wc (.cells #[.int .i64 v0,.int .i64 v1,.int .i64 v2] 128)))
        have HZ:=Qq hz;clear h7 hz;go_wp2_with (at_builtin;refine yk (n:=j) (m:=1) (cs:=ZW ks) (ds:=ZW [(v0,v1,v2)]) rfl _ _ 24 rfl 128 r0 _ Tryz.underlying24 Ri.out Rz0.out Rz1.out Rz2.out rfl (by omega) (by omega) rfl rfl (O7.out.xl 3 rfl) (zr.new wc (ZW [(v0,v1,v2)]) _ (by first|rfl|simp)) rfl (Jq _) (by omega) ?_)
        intro a9 c9 w9 k9 ch9 f9;have o9:Own w w9 [zd 3 a9 c9 (j+1) (ZW ks++ZW [(v0,v1,v2)]),ze b7 [.int .i64 v0,.int .i64 v1,.int .i64 v2],ze cb [.int .i64 x0,.int .i64 x1,.int .i64 x2],ze ob [.slice none 0 0,.slice a1 i c1,.int .i64 lk,.slice a2 j c2],zd 1 a1 c1 i (zt cs),ze (s0+1) [.slice none 0 0,.slice none 0 0,.int .i64 0,.slice none 0 0],ze s0 [.slice fa nf fc,.slice ca nc cc,.int .i64 lk0,.slice (some ⟨b,off,none⟩) nk kc]]:=Own.yJ (O7.out.pick 3 rfl) k9 ch9 (fun x hx=>by have:=f9 x hx;simpa using this)
        obtain⟨d0,e0⟩:=o9.zi 3 rfl 3 _ rfl;have h10:=((o9.setAt 3 rfl 3 (.slice a9 (j+1) c9)).pick 3 rfl)
        have HR:Hid (EX w (w9.setCell ⟨ob,3,none⟩ (.slice a9 (j+1) c9)) s0 (s0+1) ob [.slice fa nf fc,.slice ca nc cc,.int .i64 lk0,.slice (some ⟨b,off,none⟩) nk kc] [.slice none 0 0,.slice none 0 0,.int .i64 0,.slice none 0 0] lk a1 c1 cs i (j+1)):=Qq ⟨a9,c9,ks++[(v0,v1,v2)],by simp[HH2.out.1],fun k hk=>by
         rcases List.mem_append.1 hk with h|h
         ·exact HH2.out.2 k h
         ·obtain rfl:=by simpa using h
          exact HZ.out,by rw[Ok];exact((h10.pick 2 rfl).drop.pick 2 rfl).drop⟩
        clear o9 h10 k9 ch9 f9 O7 f0 f1 f2 f3;go_wp2;exact⟨⟨j+1,by omega,by omega,by go_num,HR⟩,by simp[intOf];omega⟩
     ·have hcase:(j<nk∧¬j<8)∨¬j<nk:=by omega
      obtain⟨a2,c2,ks,h1,h2,ho⟩:=hr.out;obtain⟨p3,-⟩:=ho.zi 4 rfl 3 _ rfl;have HO:=Qq ho;have HH2:=Qq (And.intro h1 h2)
      clear hr h1 h2 ho;go_upto_region 7 with fail
      go_cut [48] (fun s wx=>s=.bool false∧wx=wr)
      case first =>
       rcases hcase with⟨z1,z2⟩|z1
       case' inl=>have z1:(j:Int)<(nk:Int):=by omega
       case' inl=>have z2:¬(j:Int)<8:=by omega
       case' inr=>have z1:¬(j:Int)<(nk:Int):=by omega
       all_goals
        go_wp2_with fail;go_meet;exact⟨rfl,rfl⟩
      case rest =>
       obtain⟨rfl,hwc⟩:=hcut;have hwc:=hwc.symm;subst hwc;clear hcase p3 hlt;obtain⟨p0,-⟩:=HO.out.zi 4 rfl 0 _ rfl;obtain⟨m,hm5⟩:∃m:Nat,m=min nf 5:=⟨_,rfl⟩
       have hm1:m≤5∧m≤nf:=by omega
       go_upto_region 14 with fail
       go_cut [8] (fun s wx=>s=.slice fa m fc∧wx=wr)
       case first =>
        by_cases h5:nf≤5
        ·have h5':(nf:Int)≤5:=by omega
         obtain rfl:m=nf:=by omega
         have hsl:∀w',(Instr.slice 22 (.slice fa m fc) none (some (.int .i64 (m:Int))) none).run Tryz.prog w'=.ok (.slice fa m fc) w':=fun w'=>xX w' Tryz.underlying22 P6 fa m fc m (by omega)
         clear hm5;go_wp2_with fail;go_meet;exact⟨rfl,rfl⟩
        ·have h5':¬(nf:Int)≤5:=by omega
         obtain rfl:m=5:=by omega
         have hsl:∀w',(Instr.slice 22 (.slice fa nf fc) none (some (.int .i64 5)) none).run Tryz.prog w'=.ok (.slice fa 5 fc) w':=fun w'=>xX w' Tryz.underlying22 P6 fa nf fc 5 (by omega)
         clear hm5;go_wp2_with fail;go_meet;exact⟨rfl,rfl⟩
       case rest =>
       obtain⟨rfl,hwc⟩:=hcut;have hwc:=hwc.symm;subst hwc;clear hm5 p0;go_upto_if 89 with fail
       go_cut [8] (fun s wx=>∃ga gc,∃gl:List (List yq),∃X:List zv,s=.slice ga gl.length gc∧1≤gl.length∧gl.length≤5∧Hid (Fc w X ga gl∧(∀f∈gl,∀x∈f,yh x.2.2.1)∧Own w wx (ze ob [.slice none 0 0,.slice a1 i c1,.int .i64 lk,.slice a2 j c2]::zd 3 a2 c2 j (ZW ks)::zd 1 a1 c1 i (zt cs)::ze (s0+1) [.slice none 0 0,.slice none 0 0,.int .i64 0,.slice none 0 0]::ze s0 [.slice fa nf fc,.slice ca nc cc,.int .i64 lk0,.slice ka nk kc]::X)))
       case first =>
        by_cases hm0:m=0
        ·have hm0':(m:Int)=0:=by omega
         have ho1:=HO.out.alloc [.int .i64 0,.int .i64 0,.int .i64 0,.int .i64 0] 80 (b:=wr.heap.size) rfl
         have ho2:=ho1.alloc [.slice (some ⟨wr.heap.size,0,none⟩) 1 1] 78 (b:=wr.heap.size+1) (by simp)
         have ho3:=ho2.perm (List.perm_append_comm (l₁:=[ze (wr.heap.size+1) [.slice (some ⟨wr.heap.size,0,none⟩) 1 1],ze wr.heap.size [.int .i64 0,.int .i64 0,.int .i64 0,.int .i64 0]]))
         have hown:=Qq ho3;obtain⟨S,hS⟩:∃S,S=wr.heap.size:=⟨_,rfl⟩
         have hfin:Hid (Fc w [ze (S+1) [.slice (some ⟨S,0,none⟩) 1 1],ze S [.int .i64 0,.int .i64 0,.int .i64 0,.int .i64 0]] (some ⟨S+1,0,none⟩) [[(0,0,0,0)]]):=Qq fun q hq=>by
          obtain rfl:q=0:=by simpa using hq
          refine⟨_,0,some ⟨S,0,none⟩,1,rfl,by simp,by unfold maxLen;omega,fun wy L h=>?_⟩
          have hb1:=h.Zj.zi 0 rfl;have hb2:=h.Zj.zi 1 rfl;refine⟨(hb1 0 _ rfl).1,fun u hu=>?_⟩
          obtain rfl:u=0:=by simpa using hu
          exact⟨_,0,rfl,(hb2 0 _ rfl).1,(hb2 1 _ rfl).1,(hb2 2 _ rfl).1,(hb2 3 _ rfl).1⟩
         rw[hS] at hfin;clear ho1 ho2 ho3 hS;go_wp2_with fail;go_meet;exact⟨_,1,[[(0,0,0,0)]],_,rfl,by simp,by simp,Qq ⟨hfin.out,fun f hf x hx=>by
          obtain rfl:=by simpa using hf
          obtain rfl:=by simpa using hx
          unfold yh;simp,hown.out⟩⟩
        ·have hm0':¬(m:Int)=0:=by omega
         have hlm:(fs.take m).length=m:=by rw[List.length_take,HNF.out];omega
         have hfin:=Qq (show Fc w [] fa (fs.take m) from fun q hq=>by
          have hq2:q<m:=by omega
          obtain⟨b,off,a',c',e1,e2,e3,e4,e5⟩:=HF.out q (by rw[HNF.out];omega)
          have e6:(fs.take m)[q]=fs[q]'(by rw[HNF.out];omega):=by simp
          rw[e6];exact⟨b,off,a',c',e1,e3,e4,fun wy L h=>⟨zq e2 h.bel,e5.below h.bel⟩⟩)
         go_wp2_with fail;go_meet;exact⟨fa,fc,fs.take m,[],by rw[hlm],by omega,by omega,Qq ⟨hfin.out,fun f hf=>HFIT.out f (List.mem_of_mem_take hf),HO.out⟩⟩
       case rest =>
        obtain⟨ga,gc,gl,X,rfl,hg1,hg2,hg⟩:=hcut;clear HO hm1 HF HNF HFIT;obtain⟨gn,hgn⟩:∃n,gl.length=n:=⟨_,rfl⟩
        rw[hgn] at hg1 hg2 ⊢;have HGN:=Qq hgn;obtain⟨hgf,hgi,hgo⟩:=hg.out;have HGF:=Qq hgf;have HGI:=Qq hgi;obtain⟨wm,sa,sc,hmk,hrow,hge,hbw⟩:=Ie wc gn (by omega)
        obtain⟨sb,so,rfl,-⟩:=hrow.cells 0 _ (MZ (r:=⟨none,0,[]⟩) (by rw[List.getElem?_replicate,if_pos (by omega)]))
        have hgo2:=(hgo.add hbw (A:=zd 1 (some ⟨sb,so,none⟩) sc gn (WN (List.replicate gn ⟨none,0,[]⟩))) (F:=zY (some ⟨sb,so,none⟩)) ⟨rfl,hrow⟩ hge).pick 1 rfl
        obtain⟨y0,g0⟩:=hgo2.zi 0 rfl 0 _ rfl;have hgo3:=(hgo2.set 0 (.slice (some ⟨sb,so,none⟩) gn sc)).pick 1 rfl
        have HGO:Hid (E6 w (wm.setCell ⟨ob,0,none⟩ (.slice (some ⟨sb,so,none⟩) gn sc)) ob gn i j lk (some ⟨sb,so,none⟩) sc 0 (ze ob [.slice (some ⟨sb,so,none⟩) gn sc,.slice a1 i c1,.int .i64 lk,.slice a2 j c2]::zd 3 a2 c2 j (ZW ks)::zd 1 a1 c1 i (zt cs)::ze (s0+1) [.slice none 0 0,.slice none 0 0,.int .i64 0,.slice none 0 0]::ze s0 [.slice fa nf fc,.slice ca nc cc,.int .i64 lk0,.slice ka nk kc]::X)):=Qq ⟨List.replicate gn ⟨none,0,[]⟩,by simp,fun k r hk=>by omega,hgo3.Hk gn⟩
        clear hgn hg hgf hgi hgo hgo2 hgo3 hrow hge hbw;go_wp2_with fail;go_loopw [99] (fun s wr=>∃e:Nat,e≤gn∧s=.int .i64 e∧Hid (E6 w wr ob gn i j lk (some ⟨sb,so,none⟩) sc e (ze ob [.slice (some ⟨sb,so,none⟩) gn sc,.slice a1 i c1,.int .i64 lk,.slice a2 j c2]::zd 3 a2 c2 j (ZW ks)::zd 1 a1 c1 i (zt cs)::ze (s0+1) [.slice none 0 0,.slice none 0 0,.int .i64 0,.slice none 0 0]::ze s0 [.slice fa nf fc,.slice ca nc cc,.int .i64 lk0,.slice ka nk kc]::X))) (fun s _=>gn-(intOf s).toNat)
        case atStart=>exact⟨0,by omega,rfl,HGO⟩
        case round =>
         obtain⟨e,he1,rfl,hr⟩:=hrel;clear HGO;obtain⟨rs,hrs1,hrs2,hro⟩:=hr.out;by_cases hlt:e<gn
         ·have hlt':(e:Int)<(gn:Int):=by omega
          obtain⟨b,off,ha,hc,hga,e1,e2,hx⟩:=HGF.out e (by rw[HGN.out];exact hlt)
          subst hga;obtain⟨f,hf⟩:∃f,f=gl[e]'(by rw[HGN.out];exact hlt):=⟨_,rfl⟩
          rw[←hf] at e1;simp only[←hf] at hx
          obtain⟨e0,-⟩:=hx wr _ (show Own w wr ([_,_,_,_,_,_]++X) from hro.Zj)
          have HX:=Qq hx;have HFB:=Qq (show ∀x∈f,yh x.2.2.1 from HGI.out f (by rw[hf];exact List.getElem_mem _))
          have HRO:=Qq hro;have HR12:=Qq (And.intro hrs1 hrs2)
          obtain⟨fl,hfl⟩:∃n,f.length=n:=⟨_,rfl⟩
          rw[hfl] at e0 e1;have HFL:=Qq hfl;obtain⟨m2,hm2⟩:∃m2:Nat,m2=min fl 20:=⟨_,rfl⟩
          unfold maxLen at e2;clear hr hro hrs1 hrs2 hx hfl hf;go_upto_region 21 with fail
          go_cut [10] (fun s wx=>s=.slice ha m2 hc∧wx=wr)
          case first =>
           by_cases h5:fl≤20
           ·have h5':(fl:Int)≤20:=by omega
            obtain rfl:m2=fl:=by omega
            have hsl:∀w',(Instr.slice 78 (.slice ha m2 hc) none (some (.int .i64 (m2:Int))) none).run Tryz.prog w'=.ok (.slice ha m2 hc) w':=fun w'=>xX w' Tryz.underlying78 Og ha m2 hc m2 (by omega)
            clear hm2;go_wp2_with fail;go_meet;exact⟨rfl,rfl⟩
           ·have h5':¬(fl:Int)≤20:=by omega
            obtain rfl:m2=20:=by omega
            have hsl:∀w',(Instr.slice 78 (.slice ha fl hc) none (some (.int .i64 20)) none).run Tryz.prog w'=.ok (.slice ha 20 hc) w':=fun w'=>xX w' Tryz.underlying78 Og ha fl hc 20 (by omega)
            clear hm2;go_wp2_with fail;go_meet;exact⟨rfl,rfl⟩
          case rest =>
           obtain⟨rfl,hwc⟩:=hcut;have hwc:=hwc.symm;subst hwc;have hm3:m2≤20∧m2≤fl:=by omega
           clear e0 hm2;go_upto_if 111 with fail
           go_cut [10] (fun s wx=>∃hx hy,∃hl:List yq,∃Y:List zv,s=.slice hx hl.length hy∧1≤hl.length∧hl.length≤20∧Hid ((∀wy R rs',Own w wy (R::(Y++(fns rs'++zd 1 (some ⟨sb,so,none⟩) sc gn (WN rs')::ze ob [.slice (some ⟨sb,so,none⟩) gn sc,.slice a1 i c1,.int .i64 lk,.slice a2 j c2]::zd 3 a2 c2 j (ZW ks)::zd 1 a1 c1 i (zt cs)::ze (s0+1) [.slice none 0 0,.slice none 0 0,.int .i64 0,.slice none 0 0]::ze s0 [.slice fa nf fc,.slice ca nc cc,.int .i64 lk0,.slice ka nk kc]::X)))→xB wy hx hl)∧(∀x∈hl,yh x.2.2.1)∧Own w wx (Y++(fns rs++zd 1 (some ⟨sb,so,none⟩) sc gn (WN rs)::ze ob [.slice (some ⟨sb,so,none⟩) gn sc,.slice a1 i c1,.int .i64 lk,.slice a2 j c2]::zd 3 a2 c2 j (ZW ks)::zd 1 a1 c1 i (zt cs)::ze (s0+1) [.slice none 0 0,.slice none 0 0,.int .i64 0,.slice none 0 0]::ze s0 [.slice fa nf fc,.slice ca nc cc,.int .i64 lk0,.slice ka nk kc]::X))))
           case first =>
            by_cases hm0:m2=0
            ·have hm0':(m2:Int)=0:=by omega
             have hown:=Qq (HRO.out.alloc [.int .i64 0,.int .i64 0,.int .i64 0,.int .i64 0] 80 (b:=wr.heap.size) rfl)
             have hfin:Hid (∀wy R rs',Own w wy (R::([ze wr.heap.size [.int .i64 0,.int .i64 0,.int .i64 0,.int .i64 0]]++(fns rs'++zd 1 (some ⟨sb,so,none⟩) sc gn (WN rs')::ze ob [.slice (some ⟨sb,so,none⟩) gn sc,.slice a1 i c1,.int .i64 lk,.slice a2 j c2]::zd 3 a2 c2 j (ZW ks)::zd 1 a1 c1 i (zt cs)::ze (s0+1) [.slice none 0 0,.slice none 0 0,.int .i64 0,.slice none 0 0]::ze s0 [.slice fa nf fc,.slice ca nc cc,.int .i64 lk0,.slice ka nk kc]::X)))→xB wy (some ⟨wr.heap.size,0,none⟩) [(0,0,0,0)]):=Qq fun wy R rs' h u hu=>by
              have hb2:=h.zi 1 rfl;obtain rfl:u=0:=by simpa using hu
              exact⟨_,0,rfl,(hb2 0 _ rfl).1,(hb2 1 _ rfl).1,(hb2 2 _ rfl).1,(hb2 3 _ rfl).1⟩
             go_wp2_with fail;go_meet;exact⟨_,1,[(0,0,0,0)],_,rfl,by simp,by simp,Qq ⟨hfin.out,fun x hx=>by
              obtain rfl:=by simpa using hx
              unfold yh;simp,hown.out⟩⟩
            ·have hm0':¬(m2:Int)=0:=by omega
             have hlm:(f.take m2).length=m2:=by rw[List.length_take,HFL.out];omega
             have hfin:Hid (∀wy R rs',Own w wy (R::([]++(fns rs'++zd 1 (some ⟨sb,so,none⟩) sc gn (WN rs')::ze ob [.slice (some ⟨sb,so,none⟩) gn sc,.slice a1 i c1,.int .i64 lk,.slice a2 j c2]::zd 3 a2 c2 j (ZW ks)::zd 1 a1 c1 i (zt cs)::ze (s0+1) [.slice none 0 0,.slice none 0 0,.int .i64 0,.slice none 0 0]::ze s0 [.slice fa nf fc,.slice ca nc cc,.int .i64 lk0,.slice ka nk kc]::X)))→xB wy ha (f.take m2)):=Qq fun wy R rs' h =>
              (HX.out wy _ (show Own w wy ([_,_,_,_,_,_]++X) from Own.Zj (As:=fns rs') h.drop)).2.take m2
             go_wp2_with fail;go_meet;exact⟨ha,hc,f.take m2,[],by rw[hlm],by omega,by omega,Qq ⟨hfin.out,fun x hx=>HFB.out x (List.mem_of_mem_take hx),HRO.out⟩⟩
           case rest =>
            obtain⟨hx,hy,hl,Y,rfl,q1,q2,hq⟩:=hcut;clear HRO HFB HX HFL hm3 e1 e2;obtain⟨hn,hhn⟩:∃n,hl.length=n:=⟨_,rfl⟩
            rw[hhn] at q1 q2 ⊢;have HHN:=Qq hhn;obtain⟨hq1,hq2,hq3⟩:=hq.out;have HQ1:=Qq hq1;have HQ2:=Qq hq2;have hol:=hq3.add (below_alloc1 wc (.cells #[] 80)) (A:=zd 4 (some ⟨wc.heap.size,0,none⟩) 0 0 (inc [])) (F:=[wc.heap.size]) ⟨rfl,zT.zero (by simp)⟩ (fun x hx=>by simp at hx;omega)
            have HOL:=Qq (show([]:List yq).length=0∧Od gn i j lk hn []∧Own w (wc.alloc (.cells #[] 80)) (zd 4 (some ⟨wc.heap.size,0,none⟩) 0 0 (inc [])::(Y++(fns rs++zd 1 (some ⟨sb,so,none⟩) sc gn (WN rs)::ze ob [.slice (some ⟨sb,so,none⟩) gn sc,.slice a1 i c1,.int .i64 lk,.slice a2 j c2]::zd 3 a2 c2 j (ZW ks)::zd 1 a1 c1 i (zt cs)::ze (s0+1) [.slice none 0 0,.slice none 0 0,.int .i64 0,.slice none 0 0]::ze s0 [.slice fa nf fc,.slice ca nc cc,.int .i64 lk0,.slice ka nk kc]::X))) from⟨rfl,fun x hx=>by simp at hx,hol⟩)
            have HFT:=Qq (fun(o xa xb xc:Int) (hb:yh xb) (w':World)=>Jz (some ⟨sb,so,none⟩) gn sc a1 i c1 lk a2 j c2 hx hn hy o xa xb xc w' hb (by omega) (by omega) (by omega) (by omega) (by omega))
            unfold pv at HFT;clear hhn hq hq1 hq2 hq3 hol;go_wp2_with fail;go_loopw [11,117] (fun s11 s117 wx=>∃k a6 c6,∃l':List yq,k≤hn∧s117=.int .i64 ((k:Nat):Int)∧s11=.slice a6 k c6∧Hid (l'.length=k∧Od gn i j lk hn l'∧Own w wx (zd 4 a6 c6 k (inc l')::(Y++(fns rs++zd 1 (some ⟨sb,so,none⟩) sc gn (WN rs)::ze ob [.slice (some ⟨sb,so,none⟩) gn sc,.slice a1 i c1,.int .i64 lk,.slice a2 j c2]::zd 3 a2 c2 j (ZW ks)::zd 1 a1 c1 i (zt cs)::ze (s0+1) [.slice none 0 0,.slice none 0 0,.int .i64 0,.slice none 0 0]::ze s0 [.slice fa nf fc,.slice ca nc cc,.int .i64 lk0,.slice ka nk kc]::X))))) (fun _ s117 _=>hn-(intOf s117).toNat)
            case atStart=>exact⟨0,_,0,[],by omega,rfl,rfl,HOL⟩
            case round =>
             obtain⟨k,a6,c6,l',hk1,rfl,rfl,hv⟩:=hrel;clear HOL;obtain⟨v1,v2,v3⟩:=hv.out;by_cases hkn:k<hn
             ·have hkn':(k:Int)<(hn:Int):=by omega
              have hkl:k<hl.length:=by rw[HHN.out];exact hkn
              obtain⟨b2,off2,rfl,e0,e1,e2,e3⟩:=HQ1.out _ _ rs v3 k hkl;obtain⟨x,hxe⟩:∃x,x=hl[k]:=⟨_,rfl⟩
              have hxb:=HQ2.out x (by rw[hxe];exact List.getElem_mem hkl)
              rw[←hxe] at e0 e1 e2 e3;obtain⟨o,xa,xb,xc⟩:=x;simp only at e0 e1 e2 e3 hxb
              have HFC:=Qq (HFT.out o xa xb xc hxb)
              have HV:=Qq (And.intro v1 v2)
              obtain⟨tb,htb⟩:∃tb,tb=wr.heap.size:=⟨_,rfl⟩
              have O3:=Qq (v3.alloc [.int .i64 o,.int .i64 xa,.int .i64 xb,.int .i64 xc] 80 htb)
              clear hv v1 v2 v3 hxe hxb hkl;go_upto_region 28 with fail
              rw[←htb];generalize wr.alloc (.cells #[.int .i64 o,.int .i64 xa,.int .i64 xb,.int .i64 xc] 80)=W4 at *
              clear htb e0 e1 e2 e3;have hob:=(Own.Zj (As:=fns rs) (Own.Zj (As:=ze tb [.int .i64 o,.int .i64 xa,.int .i64 xb,.int .i64 xc]::zd 4 a6 c6 k (inc l')::Y) O3.out)).zi 1 rfl
              obtain⟨f0,-⟩:=hob 0 _ rfl;obtain⟨f1,-⟩:=hob 1 _ rfl;obtain⟨f2,-⟩:=hob 2 _ rfl;obtain⟨f3,-⟩:=hob 3 _ rfl;have htc:=O3.out.zi 0 rfl;obtain⟨e0,-⟩:=htc 0 _ rfl;obtain⟨e1,-⟩:=htc 1 _ rfl;obtain⟨e2,-⟩:=htc 2 _ rfl;obtain⟨e3,-⟩:=htc 3 _ rfl;clear hob htc;go_wp2_with fail;refine(HFC.out _).mono ?_
              rintro r w5 ⟨y,rfl,hy1,hy2,b5⟩;obtain⟨yo,ya,yb,yc⟩:=y;simp only at hy2 ⊢
              have O5:=Qq ((O3.out.step b5).step (below_alloc1 w5 (.cells #[.int .i64 yo,.int .i64 ya,.int .i64 yb,.int .i64 yc] 80)))
              have HY12:=Qq (And.intro hy1 hy2)
              clear b5 hy1 hy2 HFC O3;go_wp2_with (at_builtin;refine yk (n:=k) (m:=1) (cs:=inc l') (ds:=inc [(yo,ya,yb,yc)]) rfl _ _ 78 rfl 80 q0 _ Tryz.underlying78 Qi.out Qz0.out Qz1.out Qz2.out rfl (by omega) (by omega) rfl rfl (O5.out.xl 1 rfl) (zr.new w5 (inc [(yo,ya,yb,yc)]) _ (by first|rfl|simp)) rfl (Jr _) (by omega) ?_)
              intro a9 c9 w9 k9 ch9 f9;have o9:=((Own.yJ (O5.out.pick 1 rfl) k9 ch9 (fun x hx=>by have:=f9 x hx;simpa using this)).pick 1 rfl).drop
              rw[←OA] at o9;clear f0 f1 f2 f3 e0 e1 e2 e3;have HR:=Qq (show(l'++[(yo,ya,yb,yc)]).length=k+1∧Od gn i j lk hn (l'++[(yo,ya,yb,yc)])∧Own w w9 (zd 4 a9 c9 (k+1) (inc (l'++[(yo,ya,yb,yc)]))::(Y++(fns rs++zd 1 (some ⟨sb,so,none⟩) sc gn (WN rs)::ze ob [.slice (some ⟨sb,so,none⟩) gn sc,.slice a1 i c1,.int .i64 lk,.slice a2 j c2]::zd 3 a2 c2 j (ZW ks)::zd 1 a1 c1 i (zt cs)::ze (s0+1) [.slice none 0 0,.slice none 0 0,.int .i64 0,.slice none 0 0]::ze s0 [.slice fa nf fc,.slice ca nc cc,.int .i64 lk0,.slice ka nk kc]::X))) from⟨by simp[HV.out.1],fun x hx=>by
               rcases List.mem_append.1 hx with h|h
               ·exact HV.out.2 x h
               ·obtain rfl:=by simpa using h
                exact HY12.out,o9⟩)
              clear o9 k9 ch9 f9 O5;go_wp2;exact⟨⟨k+1,a9,c9,_,by omega,by go_num,by simp,HR⟩,by simp[intOf];omega⟩
             ·obtain rfl:k=hn:=by omega
              have h6:=v3.JF;have h7:=Own.Zj (As:=zd 4 a6 c6 k (inc l')::fns rs) h6
              obtain⟨f0,-⟩:=h7.zi 1 rfl 0 _ rfl;have hrg:=h7.xl 0 rfl;obtain⟨z,s1,t1⟩:=hrg.spot e (by have:=hrg.2.1;omega)
              have h8:Own w wr (Ld ⟨a6,c6,l'⟩::(fns rs++zd 1 (some ⟨sb,so,none⟩) sc gn (WN rs)::ze ob [.slice (some ⟨sb,so,none⟩) gn sc,.slice a1 i c1,.int .i64 lk,.slice a2 j c2]::zd 3 a2 c2 j (ZW ks)::zd 1 a1 c1 i (zt cs)::ze (s0+1) [.slice none 0 0,.slice none 0 0,.int .i64 0,.slice none 0 0]::ze s0 [.slice fa nf fc,.slice ca nc cc,.int .i64 lk0,.slice ka nk kc]::X)):=by unfold Ld;rw[v1];exact h6
              have h9:=h8.Jb (i:=e) (by rw[HR12.out.1];exact hlt)
              rw[show Fg ⟨a6,c6,l'⟩=.slice a6 k c6 by unfold Fg;rw[v1]] at h9
              have HR:Hid (E6 w (wr.setCell ⟨sb,so+e,none⟩ (.slice a6 k c6)) ob gn i j lk (some ⟨sb,so,none⟩) sc (e+1) (ze ob [.slice (some ⟨sb,so,none⟩) gn sc,.slice a1 i c1,.int .i64 lk,.slice a2 j c2]::zd 3 a2 c2 j (ZW ks)::zd 1 a1 c1 i (zt cs)::ze (s0+1) [.slice none 0 0,.slice none 0 0,.int .i64 0,.slice none 0 0]::ze s0 [.slice fa nf fc,.slice ca nc cc,.int .i64 lk0,.slice ka nk kc]::X)):=Qq ⟨rs.set e ⟨a6,c6,l'⟩,by rw[List.length_set];exact HR12.out.1,fun q r hq hr=>by
               by_cases hqe:q=e
               ·subst hqe
                rw[List.getElem?_set_self (by rw[HR12.out.1];exact hlt)] at hr
                obtain rfl:=by simpa using hr
                exact⟨by simp only;omega,by simp only;omega,by simp only;rw[v1];exact v2⟩
               ·rw[List.getElem?_set_ne (by omega)] at hr
                exact HR12.out.2 q r (by omega) hr,h9⟩
              clear h6 h7 h8 h9 hrg hv v1 v2 v3;go_wp2;exact⟨⟨e+1,by omega,by go_num,HR⟩,by simp[intOf];omega⟩
         ·obtain rfl:e=gn:=by omega
          have hrot:=hro.perm List.perm_append_comm;have hob:=hrot.zi 1 rfl;obtain⟨f0,-⟩:=hob 0 _ rfl;obtain⟨f1,-⟩:=hob 1 _ rfl;obtain⟨f2,-⟩:=hob 2 _ rfl;obtain⟨f3,-⟩:=hob 3 _ rfl;have hsc:=hrot.zi 4 rfl;obtain⟨x0,g0⟩:=hsc 0 _ rfl;obtain⟨x1,g1⟩:=hsc 1 _ rfl;obtain⟨x2,g2⟩:=hsc 2 _ rfl;obtain⟨x3,g3⟩:=hsc 3 _ rfl;have hq3:=(((hrot.setAt 4 rfl 0 (.slice (some ⟨sb,so,none⟩) e sc)).setAt 4 rfl 1 (.slice a1 i c1)).setAt 4 rfl 2 (.int .i64 lk)).setAt 4 rfl 3 (.slice a2 j c2)
          have HQ:=Qq hq3;have HRR:=Qq (And.intro hrs1 hrs2)
          clear hq3 hr hro hrot hob hsc hrs1 hrs2;go_wp2_with fail;have ee:=N7 (HQ.out.zi 4 rfl)
          have q1:=((((HQ.out.pick 1 rfl).drop).pick 3 rfl).drop.pick 3 rfl).drop
          have q2:=(show Own w _ ([zd 1 (some ⟨sb,so,none⟩) sc e (WN rs),zd 3 a2 c2 j (ZW ks),zd 1 a1 c1 i (zt cs)]++(X++fns rs)) from q1).perm (List.perm_append_comm_assoc _ _ _)
          have q3:=q2.Zj.perm ((List.Perm.swap (zd 1 a1 c1 i (zt cs)) (zd 3 a2 c2 j (ZW ks)) (fns rs)).cons (zd 1 (some ⟨sb,so,none⟩) sc e (WN rs)))
          refine bodyPost_ret (zu Tryz.results22 _ ⟨s0+1,0,none⟩ rfl ee) rfl ⟨some ⟨sb,so,none⟩,sc,rs,a1,c1,cs,a2,c2,ks,lk,?_,?_,?_,?_,?_,?_⟩
          ·rw[HRR.out.1,HH.out.1,HH2.out.1]
          ·rw[HRR.out.1];exact⟨hg1,hg2⟩
          ·refine⟨by rw[HH.out.1];exact hi2,by rw[HH2.out.1];exact hj2,hlkr.1,hlkr.2,HH.out.2,fun k hk=>?_⟩
           rw[HH.out.1];exact(HH2.out.2 k hk).1
          ·intro k hk
           rw[HH.out.1];exact HH2.out.2 k hk
          ·intro r hr
           obtain⟨k,hk,hkr⟩:=List.mem_iff_getElem.1 hr;rw[HRR.out.1,HH.out.1,HH2.out.1];exact HRR.out.2 k r (by have:=HRR.out.1;omega) (by rw[List.getElem?_eq_getElem hk,hkr])
          ·rw[HRR.out.1,HH.out.1,HH2.out.1];exact q3
theorem OP {w:World}{a:Option Addr}{l:List yq}(h:xB w a l):zr w a (PE l):=fun j v hj=>by
 have hlen:(PE l).length=l.length*4:=ZK FK 4 (fun _=>rfl) l
 have hjl:j<(PE l).length:=(List.getElem?_eq_some_iff.1 hj).1
 have hi:j / 4<l.length:=by omega
 have hat:=x6 FK 4 (fun _=>rfl) l (j / 4) (j%4) hi (by omega)
 rw[show j / 4*4+j%4=j by omega] at hat
 unfold PE at hj;rw[hat] at hj;obtain⟨b,off,rfl,h0,h1,h2,h3⟩:=h (j / 4) hi
 refine⟨b,off,rfl,?_⟩
 generalize l[j / 4]=x at *
 have hk:j%4=0∨j%4=1∨j%4=2∨j%4=3:=by omega
 rcases hk with e|e|e|e
 ·rw[e] at hj;rw[show off+j=off+j / 4*4 by omega,h0];exact hj
 ·rw[e] at hj;rw[show off+j=off+j / 4*4+1 by omega,h1];exact hj
 ·rw[e] at hj;rw[show off+j=off+j / 4*4+2 by omega,h2];exact hj
 ·rw[e] at hj;rw[show off+j=off+j / 4*4+3 by omega,h3];exact hj
theorem OY {w:World}{a:Option Addr}{l:List T6}(h:Yc w a l):zr w a (WM l):=fun j v hj=>by
 have hlen:(WM l).length=l.length*3:=ZK ER 3 (fun _=>rfl) l
 have hjl:j<(WM l).length:=(List.getElem?_eq_some_iff.1 hj).1
 have hi:j / 3<l.length:=by omega
 have hat:=x6 ER 3 (fun _=>rfl) l (j / 3) (j%3) hi (by omega)
 rw[show j / 3*3+j%3=j by omega] at hat
 unfold WM at hj;rw[hat] at hj;obtain⟨b,off,rfl,h0,h1,h2⟩:=h (j / 3) hi
 refine⟨b,off,rfl,?_⟩
 generalize l[j / 3]=x at *
 have hk:j%3=0∨j%3=1∨j%3=2:=by omega
 rcases hk with e|e|e
 ·rw[e] at hj;rw[show off+j=off+j / 3*3 by omega,h0];exact hj
 ·rw[e] at hj;rw[show off+j=off+j / 3*3+1 by omega,h1];exact hj
 ·rw[e] at hj;rw[show off+j=off+j / 3*3+2 by omega,h2];exact hj
theorem GX:∀(fr:List (Option Addr×Nat)) (fs:List (List yq)) (j:Nat) (v:Value),(Oy fr fs)[j]?=some v→∃r l,fr[j]?=some r∧fs[j]?=some l∧v=.slice r.1 l.length r.2:=fun fr fs j v h=>by
 unfold Oy at h;rw[List.getElem?_zipWith] at h
 cases e1:fr[j]? with
 | none=>rw[e1] at h;simp at h
 | some r =>
  cases e2:fs[j]? with
  | none=>rw[e1,e2] at h;simp at h
  | some l =>
   rw[e1,e2] at h;simp at h
   exact⟨r,l,rfl,rfl,h.symm⟩
theorem NX {w:World}{fa ca ka:Option Addr}{kc:Nat}{d:PD}(h:JZ w fa ca ka d)(hk0:ka=none→kc=0)(hne:∀l∈d.fs,1≤l.length∧l.length≤1000)(h1:d.fs.length≤1000)(h2:d.cs.length≤1000)(h3:d.ks.length≤1000):∃fr,Xe w fa fr d.fs ca d.cs ka kc d.ks:=by
 obtain⟨hf,hc,hk⟩:=h;have hf':∀i:Fin d.fs.length,∃r:Option Addr×Nat,∃b off,fa=some ⟨b,off,none⟩∧w.cell? ⟨b,off+i.val,none⟩=some (.slice r.1 d.fs[i.val].length r.2)∧xB w r.1 d.fs[i.val]:=fun i=>by
  obtain⟨b,off,a',c',e,g1,g2⟩:=hf i.val i.isLt;exact⟨(a',c'),b,off,e,g1,g2⟩
 refine⟨List.ofFn fun i=>Classical.choose (hf' i),⟨fun j v hj=>?_,by simp,fun i r l hr hl=>?_,Pz hc,OY hk,hk0,h3,h1,h2⟩⟩
 ·obtain⟨r,l,hr,hl,rfl⟩:=GX _ _ _ _ hj
  have hjl:j<d.fs.length:=(List.getElem?_eq_some_iff.1 hl).1
  rw[List.getElem?_ofFn,dif_pos hjl] at hr
  have hr:=Option.some.inj hr;obtain⟨b,off,e,g1,-⟩:=Classical.choose_spec (hf' ⟨j,hjl⟩)
  rw[hr] at g1;have hl':d.fs[j]=l:=(List.getElem?_eq_some_iff.1 hl).2
  rw[←hl']
  exact⟨b,off,e,g1⟩
 ·have hjl:i<d.fs.length:=(List.getElem?_eq_some_iff.1 hl).1
  rw[List.getElem?_ofFn,dif_pos hjl] at hr
  have hr:=Option.some.inj hr;obtain⟨b,off,e,-,g2⟩:=Classical.choose_spec (hf' ⟨i,hjl⟩)
  rw[hr] at g2;have hl':d.fs[i]=l:=(List.getElem?_eq_some_iff.1 hl).2
  have g2:xB w r.1 l:=by rw[←hl'];exact g2
  have hn:=hne l (by rw[←hl'];exact List.getElem_mem _)
  refine⟨OP g2,fun e0=>?_,by omega⟩
  obtain⟨b',off',e',-⟩:=g2 0 (by omega)
  rw[e0] at e'
  cases e'
theorem JU {nf nc nk:Nat}{lk:Int}{n:Nat}{x:yq}(h:SN nf nc nk lk n x=0):0≤x.1∧x.1≤22:=by
 unfold SN at h;split at h
 ·rename_i hw;simpa [KT] using hw
 ·exact absurd h (by decide)
theorem Em {fs:List (List yq)}{cs:List Int}{lk:Nat}{ks:List T6}(h1:1≤fs.length∧fs.length≤5)(hp:TX cs (lk:Int) ks)(hj:∀k∈ks,K9 cs.length k)(hf:∀l∈fs,Iv fs.length cs.length ks.length (lk:Int) l):PW fs ks cs.length lk:=by
 obtain⟨p1,p2,p3,p4,p5,p6⟩:=hp;refine⟨by omega,fun l hl=>?_,fun l hl x hx=>?_,by omega,fun k hk=>?_,by omega,by omega⟩
 ·have:=(hf l hl).2.1;omega
 ·obtain⟨q1,q2⟩:=(hf l hl).2.2 x hx
  have ho:=JU q1;obtain⟨o,a,b,c⟩:=x;obtain⟨g,hg,hi⟩:=Td fs.length cs.length ks.length (lk:Int) l.length o a b c q2 ho (by omega)
  refine⟨ho.1,?_⟩
  rw[hg];rw[hi] at q1;cases g
  ·exact absurd q1 (by decide)
  ·rfl
 ·obtain⟨q1,q2,q3,q4⟩:=hj k hk
  unfold Kh at q1;split at q1
  ·rename_i hw
   simp only[KT,Bool.and_eq_true,decide_eq_true_eq] at q1;exact⟨by rcases hw with h|h<;>simp[h],q2,fun _=>by omega,q3,q4⟩
  ·have e:k.1=2:=by simpa using q1
   exact⟨.inr (.inr e),q2,fun hn=>absurd e hn,q3,q4⟩
def RA (w:World)(fa:Option Addr)(nf fc:Nat)(ca:Option Addr)(nc cc:Nat)(lk:Int)(ka:Option Addr)(nk kc:Nat)(d:PD):Prop :=
 d.fs.length=nf∧d.cs.length=nc∧d.ks.length=nk∧d.lk=lk∧(nf≤fc∧fc≤maxLen)∧nc≤maxLen∧nk≤maxLen∧Mv w fa d.fs∧yT w ca d.cs∧Yc w ka d.ks∧Fits d
theorem RA.below {w w':World}{fa:Option Addr}{nf fc:Nat}{ca:Option Addr}{nc cc:Nat}{lk:Int}{ka:Option Addr}{nk kc:Nat}{d:PD}(h:RA w fa nf fc ca nc cc lk ka nk kc d)(hb:Below w.heap.size w w'):RA w' fa nf fc ca nc cc lk ka nk kc d:=by
 obtain⟨h1,h2,h3,h4,h5,h6,h7,h8,h9,h10,h11⟩:=h;exact⟨h1,h2,h3,h4,h5,h6,h7,h8.below hb,h9.below hb,h10.below hb,h11⟩
theorem Vl (w:World)(cs:List Value)(t:TypeId)(j:Nat)(v:Value)(h:cs[j]?=some v):(w.alloc (.cells cs.toArray t)).cell? ⟨w.heap.size,j,none⟩=some v:=by
 obtain⟨b,off,e,g⟩:=zr.new w cs t rfl j v h;cases e
 simpa using g
theorem EI (w:World)(a b c:Value):(loadVar 147 ⟨w.heap.size,0,none⟩).run Tryz.prog (w.alloc (.cells #[a,b,c] 147))=.ok (.agg #[a,b,c]) (w.alloc (.cells #[a,b,c] 147)):=by
 have e0:=Vl w [a,b,c] 147 0 _ rfl
 have e1:=Vl w [a,b,c] 147 1 _ rfl
 have e2:=Vl w [a,b,c] 147 2 _ rfl
 simp only[List.toArray] at e0 e1 e2;generalize w.alloc _=w1 at *;simp[go_sem,e0,e1,e2]
theorem FP (w:World)(a b c d e:Value):(loadVar 187 ⟨w.heap.size,0,none⟩).run Tryz.prog (w.alloc (.cells #[a,b,c,d,e] 187))=.ok (.agg #[a,b,c,d,e]) (w.alloc (.cells #[a,b,c,d,e] 187)):=by
 have e0:=Vl w [a,b,c,d,e] 187 0 _ rfl
 have e1:=Vl w [a,b,c,d,e] 187 1 _ rfl
 have e2:=Vl w [a,b,c,d,e] 187 2 _ rfl
 have e3:=Vl w [a,b,c,d,e] 187 3 _ rfl
 have e4:=Vl w [a,b,c,d,e] 187 4 _ rfl
 simp only[List.toArray] at e0 e1 e2 e3 e4;generalize w.alloc _=w1 at *;simp[go_sem,e0,e1,e2,e3,e4]
theorem Pw (w:World)(n:Int):Calls Tryz.prog 54 #[.int .i64 n] w fun e w'=>(∃k:Int,e=.returned (.agg #[.int .i64 (-1),.slice none 0 0,.int .i64 k]))∧Below w.heap.size w w':=by
 go_enter Tryz.func54,Tryz.ntmps54
 go_wp2_with fail
 all_goals exact bodyPost_ret (zu Tryz.results54 _ ⟨w.heap.size,0,none⟩ rfl (EI w _ _ _)) rfl ⟨⟨_,rfl⟩,below_alloc1 _ _⟩
theorem QK (w:World)(n:Int):Calls Tryz.prog 77 #[.int .i64 n] w fun e w'=>(∃k:Int,e=.returned (.agg #[.int .i64 k,.slice none 0 0,.slice none 0 0,.slice none 0 0,.bool false]))∧Below w.heap.size w w':=by
 go_enter Tryz.func77,Tryz.ntmps77
 go_wp2_with fail
 all_goals exact bodyPost_ret (zu Tryz.results77 _ ⟨w.heap.size,0,none⟩ rfl (FP w _ _ _ _ _)) rfl ⟨⟨_,rfl⟩,below_alloc1 _ _⟩
theorem Wl (w:World)(n v:Int):Calls Tryz.prog 76 #[.int .i64 n,.int .i64 v] w fun e w'=>(∃b,e=.returned (.slice (some ⟨b,0,none⟩) 1 1))∧Below w.heap.size w w':=by
 go_enter Tryz.func76,Tryz.ntmps76
 go_wp2_with fail;go_ret;exact⟨⟨_,rfl⟩,(below_alloc1 _ _).alloc (by simp) _⟩
def KU (P:List Value)(gs ch lo:Value):List Value:=P++[gs,.int .u64 0,ch,lo,.slice none 0 0,.int .u64 0,.slice none 0 0,.int .i64 0,.int .i64 0,.slice none 0 0]
def ZS (fa ca ka:Option Addr)(nf fc nc cc nk kc lk:Nat):List Value:=[.slice fa nf fc,.slice ca nc cc,.int .i64 (lk:Int),.slice ka nk kc]
def Eg:List Value:=[.slice none 0 0,.slice none 0 0,.int .i64 0,.slice none 0 0,.slice none 0 0,.int .u64 0,.slice none 0 0,.slice none 0 0,.slice none 0 0,.int .u64 0,.slice none 0 0,.int .i64 0,.int .i64 0,.slice none 0 0]
theorem N4:(Tryz.prog.info? 187).map (fun i=>(i.zero,i.size,i.bytes))=some (some (.agg #[.int .i64 0,.slice none 0 0,.slice none 0 0,.slice none 0 0,.bool false]),5,88):=by kernel_rfl
theorem OI:(Tryz.prog.info? 319).map (fun i=>(i.zero,i.size,i.bytes))=some (some (.agg #[.slice none 0 0]),1,24):=by kernel_rfl
theorem Et {w:World}{b:Nat}{v0 v1 v2 v3 v4 v5 v6 v7 v8 v9 v10 v11 v12 v13:Value}(h:zH w b [v0,v1,v2,v3,v4,v5,v6,v7,v8,v9,v10,v11,v12,v13]):(loadVar 41 ⟨b,0,none⟩).run Tryz.prog w=.ok (.agg #[v0,v1,v2,v3,v4,v5,v6,v7,v8,v9,v10,v11,v12,v13]) w:=by
 have e0:=(h 0 _ rfl).1
 have e1:=(h 1 _ rfl).1
 have e2:=(h 2 _ rfl).1
 have e3:=(h 3 _ rfl).1
 have e4:=(h 4 _ rfl).1
 have e5:=(h 5 _ rfl).1
 have e6:=(h 6 _ rfl).1
 have e7:=(h 7 _ rfl).1
 have e8:=(h 8 _ rfl).1
 have e9:=(h 9 _ rfl).1
 have e10:=(h 10 _ rfl).1
 have e11:=(h 11 _ rfl).1
 have e12:=(h 12 _ rfl).1
 have e13:=(h 13 _ rfl).1
 simp[go_sem,e0,e1,e2,e3,e4,e5,e6,e7,e8,e9,e10,e11,e12,e13]
theorem NV (w:World)(n:Nat)(hn:n≤1000000):∃w1 a c,(Instr.makeSlice 35 (.int .i64 (n:Int)) (.int .i64 (n:Int))).run Tryz.prog w=.ok (.slice a n c) w1∧Below w.heap.size w w1:=by
 obtain⟨i0,hi,hz0,hz1,hz2⟩:=info_parts OI;obtain⟨w1,h1,h2,h3⟩:=run_make_full (P:=Tryz.prog) w w.heap.size 35 319 i0 _ 1 Tryz.underlying35 hi hz0 hz1 .i64 .i64 n (by rw[hz2];omega) (by unfold maxLen;omega) (Nat.le_refl _)
 obtain⟨a,cap,e,hr,hb⟩:=zT.xH h2;simp only[Value.slice.injEq] at e;obtain⟨e1,e2,e3⟩:=e;exact⟨w1,_,_,h1,(yy h3).ZZ⟩
theorem Q8 (w:World)(fa ca ka:Option Addr)(nf fc cc nk kc lk:Nat)(cs:List Int)(hc:yT w ca cs)(hcl:cs.length≤1000)(hlk:lk≤1000):Calls Tryz.prog 53 #[.agg #[.slice fa nf fc,.slice ca cs.length cc,.int .i64 (lk:Int),.slice ka nk kc]] w fun e w'=>(∃g xa xn xc la ln lc,e=.returned (.agg (KU (ZS fa ca ka nf fc cs.length cc nk kc lk) (.slice (some ⟨g,0,none⟩) 1 1) (.slice xa xn xc) (.slice la ln lc)).toArray))∧Below w.heap.size w w':=by
 obtain⟨nc,hnc⟩:∃nc,nc=cs.length:=⟨_,rfl⟩
 rw[←hnc] at hcl ⊢;have HNC:=Qq hnc;clear hnc
 have HC:=Qq hc;clear hc
 go_enter Tryz.func53,Tryz.ntmps53
 have O0:=Qq (((Own.nil (Below.refl _ w)).alloc (ZS fa ca ka nf fc nc cc nk kc lk) 26 (b:=w.heap.size) rfl).alloc [.slice none 0 0,.slice none 0 0,.int .i64 0,.slice none 0 0,.slice none 0 0,.int .u64 0,.slice none 0 0,.slice none 0 0,.slice none 0 0,.int .u64 0,.slice none 0 0,.int .i64 0,.int .i64 0,.slice none 0 0] 41 (b:=w.heap.size+1) (by simp))
 go_upto_region 1 with fail
 generalize hwx:((w.alloc (.cells #[.slice fa nf fc,.slice ca nc cc,.int .i64 (lk:Int),.slice ka nk kc] 26)).alloc (.cells #[.slice none 0 0,.slice none 0 0,.int .i64 0,.slice none 0 0,.slice none 0 0,.int .u64 0,.slice none 0 0,.slice none 0 0,.slice none 0 0,.int .u64 0,.slice none 0 0,.int .i64 0,.int .i64 0,.slice none 0 0] 41))=wX
 have O1:Hid (Own w wX [ze (w.heap.size+1) [.slice none 0 0,.slice none 0 0,.int .i64 0,.slice none 0 0,.slice none 0 0,.int .u64 0,.slice none 0 0,.slice none 0 0,.slice none 0 0,.int .u64 0,.slice none 0 0,.int .i64 0,.int .i64 0,.slice none 0 0],ze w.heap.size (ZS fa ca ka nf fc nc cc nk kc lk)]):=Qq (by rw[←hwx];exact O0.out)
 clear O0 hwx;generalize w.heap.size+1=o at *
 generalize hq:w.heap.size=q at *
 have HQ:=Qq hq;clear hq
 have SB:Hid (∀(wx:World) (As:List zv) (k:Nat),Own w wx As→As[k]?=some (ze q (ZS fa ca ka nf fc nc cc nk kc lk))→wx.cell? ⟨q,0,none⟩=some (.slice fa nf fc)∧wx.cell? ⟨q,1,none⟩=some (.slice ca nc cc)∧wx.cell? ⟨q,2,none⟩=some (.int .i64 (lk:Int))∧wx.cell? ⟨q,3,none⟩=some (.slice ka nk kc)) :=
  Qq (fun wx As k h hk=>⟨(h.zi k hk 0 _ rfl).1,(h.zi k hk 1 _ rfl).1,(h.zi k hk 2 _ rfl).1,(h.zi k hk 3 _ rfl).1⟩)
 go_cut [3] (fun sv wx=>∃b3 g,sv=.pointer (some ⟨b3,0,none⟩)∧Hid (∃R,Own w wx (ze b3 (KU (ZS fa ca ka nf fc nc cc nk kc lk) (.slice (some ⟨g,0,none⟩) 1 1) (.slice none 0 0) (.slice none 0 0))::ze q (ZS fa ca ka nf fc nc cc nk kc lk)::ze o Eg::R)))
 case first =>
  have o0:Own w wX.drew [ze q (ZS fa ca ka nf fc nc cc nk kc lk),ze o Eg]:=(O1.out.pick 1 rfl).step (zg wX)
  refine xh (fun wx=>wx.cell? ⟨q,0,none⟩=some (.slice fa nf fc)∧wx.cell? ⟨q,1,none⟩=some (.slice ca nc cc)∧wx.cell? ⟨q,2,none⟩=some (.int .i64 (lk:Int))∧wx.cell? ⟨q,3,none⟩=some (.slice ka nk kc)) 7 (Array.replicate 7 false) (by kernel_rfl) (by kernel_rfl) ?_
  generalize wX.drew=w3 at *;refine zF 0 1 _ (Qj 7 1) 6 (by kernel_rfl) za (SB.out _ _ 0 o0 rfl) (by kernel_rfl) ?_
  simp only[QX,QV,QJ];(repeat((first|refine Qx (h:=?_)|refine Qv (h:=?_));simp only[Act.put,QW,QY,QZ]));refine zb ?_;refine xI 1 5 _ (Qj 7 3) (Qj 7 33) 5 (by kernel_rfl) (fun K hK=>?_) (fun K hK=>?_)
  ·skip
   have HKK:=Qq hK;clear hK;simp only[QQ,QJ];refine zc (by rfl) ?_;go_simp;refine(Wl _ 0 0).mono ?_
   rintro r w4 ⟨⟨b,rfl⟩,hb⟩;have o1:=o0.step hb;clear hb;refine HKK.out _ _ (SB.out _ _ 0 o1 rfl) ?_
   clear HKK K;refine zF 2 1 _ (Qj 7 7) 4 (by kernel_rfl) za (SB.out _ _ 0 o1 rfl) (by kernel_rfl) ?_
   simp only[QX,QV,QQ,QJ];(repeat((first|refine Qx (h:=?_)|refine Qv (h:=?_));simp only[Act.put,QW,QY,QZ]));refine zb ?_;refine xI 3 5 _ (Qj 7 15) (Qj 7 39) 3 (by kernel_rfl) (fun K hK=>?_) (fun K hK=>?_)
   ·skip
    have HKK:=Qq hK;clear hK;simp only[QQ,QJ];refine zc (by rfl) ?_;go_simp;have o2:=o1.alloc [.int .i64 1,.slice (some ⟨b,0,none⟩) 1 1,.int .i64 0,.int .i64 0,.int .i64 0,.int .i64 0] 184 rfl
    refine HKK.out _ _ (SB.out _ _ 1 o2 rfl) ?_
    clear HKK K;generalize w4.alloc _=w5 at *;generalize w4.heap.size=g at *;refine zF 4 1 _ (Qj 7 31) 2 (by kernel_rfl) za (SB.out _ _ 1 o2 rfl) (by kernel_rfl) ?_
    simp only[QX,QV,QQ,QJ];(repeat((first|refine Qx (h:=?_)|refine Qv (h:=?_));simp only[Act.put,QW,QY,QZ]));refine zb ?_;refine zM 5 _ (Qj 7 63) 1 (by kernel_rfl) (fun K hK=>?_)
    have HKK:=Qq hK;clear hK;simp only[QQ,QJ];refine zc (by rfl) ?_;go_simp;have o3:=o2.alloc [.slice none 0 0,.slice none 0 0,.int .i64 0,.slice none 0 0,.slice none 0 0,.int .u64 0,.slice none 0 0,.slice none 0 0,.slice none 0 0,.int .u64 0,.slice none 0 0,.int .i64 0,.int .i64 0,.slice none 0 0] 41 rfl
    refine HKK.out _ _ (SB.out _ _ 2 o3 rfl) ?_
    clear HKK K;generalize w5.alloc _=w6 at *;generalize w5.heap.size=b3 at *;obtain⟨f0,g0⟩:=o3.zi 0 rfl 0 _ rfl;obtain⟨f1,g1⟩:=o3.zi 0 rfl 1 _ rfl;obtain⟨f2,g2⟩:=o3.zi 0 rfl 2 _ rfl;obtain⟨f3,g3⟩:=o3.zi 0 rfl 3 _ rfl;obtain⟨f4,g4⟩:=o3.zi 0 rfl 4 _ rfl;obtain⟨f5,g5⟩:=o3.zi 0 rfl 5 _ rfl;obtain⟨f6,g6⟩:=o3.zi 0 rfl 6 _ rfl;obtain⟨f7,g7⟩:=o3.zi 0 rfl 7 _ rfl;obtain⟨f8,g8⟩:=o3.zi 0 rfl 8 _ rfl;obtain⟨f9,g9⟩:=o3.zi 0 rfl 9 _ rfl;obtain⟨f10,g10⟩:=o3.zi 0 rfl 10 _ rfl;obtain⟨f11,g11⟩:=o3.zi 0 rfl 11 _ rfl;obtain⟨f12,g12⟩:=o3.zi 0 rfl 12 _ rfl;obtain⟨f13,g13⟩:=o3.zi 0 rfl 13 _ rfl;refine yG 6 _ (Qj 7 127) (by kernel_rfl) (fun K hK=>?_)
    have HKK:=Qq hK;clear hK;simp only[QQ,QJ];refine zc (by rfl) ?_;go_simp;refine HKK.out _ _ (NoPanic.normal ?_)
    clear HKK K;clear f0 g0 f1 g1 f2 g2 f3 g3 f4 g4 f5 g5 f6 g6 f7 g7 f8 g8 f9 g9 f10 g10 f11 g11 f12 g12 f13 g13;go_wp2_with fail;go_meet;refine⟨b3,g,rfl,Qq ⟨[ze g [.int .i64 1,.slice (some ⟨b,0,none⟩) 1 1,.int .i64 0,.int .i64 0,.int .i64 0,.int .i64 0]],?_⟩⟩
    exact(((((((((((((((o3).set 0 _).set 1 _).set 2 _).set 3 _).set 4 _).set 5 _).set 6 _).set 7 _).set 8 _).set 9 _).set 10 _).set 11 _).set 12 _).set 13 _).perm (((List.Perm.swap _ _ _).trans ((List.Perm.swap _ _ _).cons _)).cons _)
   ·skip
    have HKK:=Qq hK;clear hK;simp only[QQ,QJ];refine zc (by rfl) ?_;go_simp;have o2:=o1.alloc [.slice none 0 0,.slice none 0 0,.int .i64 0,.slice none 0 0,.slice none 0 0,.int .u64 0,.slice none 0 0,.slice none 0 0,.slice none 0 0,.int .u64 0,.slice none 0 0,.int .i64 0,.int .i64 0,.slice none 0 0] 41 rfl
    refine HKK.out _ _ (SB.out _ _ 1 o2 rfl) ?_
    clear HKK K;generalize w4.alloc _=w5 at *;generalize w4.heap.size=b3 at *;refine zM 3 _ (Qj 7 47) 2 (by kernel_rfl) (fun K hK=>?_)
    have HKK:=Qq hK;clear hK;simp only[QQ,QJ];refine zc (by rfl) ?_;go_simp;have o3:=o2.alloc [.int .i64 1,.slice (some ⟨b,0,none⟩) 1 1,.int .i64 0,.int .i64 0,.int .i64 0,.int .i64 0] 184 rfl
    refine HKK.out _ _ (SB.out _ _ 2 o3 rfl) ?_
    clear HKK K;generalize w5.alloc _=w6 at *;generalize w5.heap.size=g at *;refine zF 4 1 _ (Qj 7 63) 1 (by kernel_rfl) za (SB.out _ _ 2 o3 rfl) (by kernel_rfl) ?_
    simp only[QX,QV,QQ,QJ];(repeat((first|refine Qx (h:=?_)|refine Qv (h:=?_));simp only[Act.put,QW,QY,QZ]));refine zb ?_;obtain⟨f0,g0⟩:=o3.zi 1 rfl 0 _ rfl;obtain⟨f1,g1⟩:=o3.zi 1 rfl 1 _ rfl;obtain⟨f2,g2⟩:=o3.zi 1 rfl 2 _ rfl;obtain⟨f3,g3⟩:=o3.zi 1 rfl 3 _ rfl;obtain⟨f4,g4⟩:=o3.zi 1 rfl 4 _ rfl;obtain⟨f5,g5⟩:=o3.zi 1 rfl 5 _ rfl;obtain⟨f6,g6⟩:=o3.zi 1 rfl 6 _ rfl;obtain⟨f7,g7⟩:=o3.zi 1 rfl 7 _ rfl;obtain⟨f8,g8⟩:=o3.zi 1 rfl 8 _ rfl;obtain⟨f9,g9⟩:=o3.zi 1 rfl 9 _ rfl;obtain⟨f10,g10⟩:=o3.zi 1 rfl 10 _ rfl;obtain⟨f11,g11⟩:=o3.zi 1 rfl 11 _ rfl;obtain⟨f12,g12⟩:=o3.zi 1 rfl 12 _ rfl;obtain⟨f13,g13⟩:=o3.zi 1 rfl 13 _ rfl;refine yG 6 _ (Qj 7 127) (by kernel_rfl) (fun K hK=>?_)
    have HKK:=Qq hK;clear hK;simp only[QQ,QJ];refine zc (by rfl) ?_;go_simp;refine HKK.out _ _ (NoPanic.normal ?_)
    clear HKK K;clear f0 g0 f1 g1 f2 g2 f3 g3 f4 g4 f5 g5 f6 g6 f7 g7 f8 g8 f9 g9 f10 g10 f11 g11 f12 g12 f13 g13;go_wp2_with fail;go_meet;refine⟨b3,g,rfl,Qq ⟨[ze g [.int .i64 1,.slice (some ⟨b,0,none⟩) 1 1,.int .i64 0,.int .i64 0,.int .i64 0,.int .i64 0]],?_⟩⟩
    exact((((((((((((((((o3.pick 1 rfl)).set 0 _).set 1 _).set 2 _).set 3 _).set 4 _).set 5 _).set 6 _).set 7 _).set 8 _).set 9 _).set 10 _).set 11 _).set 12 _).set 13 _).perm (((List.Perm.swap _ _ _).trans ((List.Perm.swap _ _ _).cons _)).cons _)
  ·skip
   have HKK:=Qq hK;clear hK;simp only[QQ,QJ];refine zc (by rfl) ?_;go_simp;have o1:=o0.alloc [.slice none 0 0,.slice none 0 0,.int .i64 0,.slice none 0 0,.slice none 0 0,.int .u64 0,.slice none 0 0,.slice none 0 0,.slice none 0 0,.int .u64 0,.slice none 0 0,.int .i64 0,.int .i64 0,.slice none 0 0] 41 rfl
   refine HKK.out _ _ (SB.out _ _ 1 o1 rfl) ?_
   clear HKK K;generalize w3.alloc _=w4 at *;generalize w3.heap.size=b3 at *;refine zM 1 _ (Qj 7 35) 4 (by kernel_rfl) (fun K hK=>?_)
   have HKK:=Qq hK;clear hK;simp only[QQ,QJ];refine zc (by rfl) ?_;go_simp;refine(Wl _ 0 0).mono ?_
   rintro r w5 ⟨⟨b,rfl⟩,hb⟩;have o2:=o1.step hb;clear hb;refine HKK.out _ _ (SB.out _ _ 1 o2 rfl) ?_
   clear HKK K;refine zF 2 1 _ (Qj 7 39) 3 (by kernel_rfl) za (SB.out _ _ 1 o2 rfl) (by kernel_rfl) ?_
   simp only[QX,QV,QQ,QJ];(repeat((first|refine Qx (h:=?_)|refine Qv (h:=?_));simp only[Act.put,QW,QY,QZ]));refine zb ?_;refine zM 3 _ (Qj 7 47) 2 (by kernel_rfl) (fun K hK=>?_)
   have HKK:=Qq hK;clear hK;simp only[QQ,QJ];refine zc (by rfl) ?_;go_simp;have o3:=o2.alloc [.int .i64 1,.slice (some ⟨b,0,none⟩) 1 1,.int .i64 0,.int .i64 0,.int .i64 0,.int .i64 0] 184 rfl
   refine HKK.out _ _ (SB.out _ _ 2 o3 rfl) ?_
   clear HKK K;generalize w5.alloc _=w6 at *;generalize w5.heap.size=g at *;refine zF 4 1 _ (Qj 7 63) 1 (by kernel_rfl) za (SB.out _ _ 2 o3 rfl) (by kernel_rfl) ?_
   simp only[QX,QV,QQ,QJ];(repeat((first|refine Qx (h:=?_)|refine Qv (h:=?_));simp only[Act.put,QW,QY,QZ]));refine zb ?_;obtain⟨f0,g0⟩:=o3.zi 1 rfl 0 _ rfl;obtain⟨f1,g1⟩:=o3.zi 1 rfl 1 _ rfl;obtain⟨f2,g2⟩:=o3.zi 1 rfl 2 _ rfl;obtain⟨f3,g3⟩:=o3.zi 1 rfl 3 _ rfl;obtain⟨f4,g4⟩:=o3.zi 1 rfl 4 _ rfl;obtain⟨f5,g5⟩:=o3.zi 1 rfl 5 _ rfl;obtain⟨f6,g6⟩:=o3.zi 1 rfl 6 _ rfl;obtain⟨f7,g7⟩:=o3.zi 1 rfl 7 _ rfl;obtain⟨f8,g8⟩:=o3.zi 1 rfl 8 _ rfl;obtain⟨f9,g9⟩:=o3.zi 1 rfl 9 _ rfl;obtain⟨f10,g10⟩:=o3.zi 1 rfl 10 _ rfl;obtain⟨f11,g11⟩:=o3.zi 1 rfl 11 _ rfl;obtain⟨f12,g12⟩:=o3.zi 1 rfl 12 _ rfl;obtain⟨f13,g13⟩:=o3.zi 1 rfl 13 _ rfl;refine yG 6 _ (Qj 7 127) (by kernel_rfl) (fun K hK=>?_)
   have HKK:=Qq hK;clear hK;simp only[QQ,QJ];refine zc (by rfl) ?_;go_simp;refine HKK.out _ _ (NoPanic.normal ?_)
   clear HKK K;clear f0 g0 f1 g1 f2 g2 f3 g3 f4 g4 f5 g5 f6 g6 f7 g7 f8 g8 f9 g9 f10 g10 f11 g11 f12 g12 f13 g13;go_wp2_with fail;go_meet;refine⟨b3,g,rfl,Qq ⟨[ze g [.int .i64 1,.slice (some ⟨b,0,none⟩) 1 1,.int .i64 0,.int .i64 0,.int .i64 0,.int .i64 0]],?_⟩⟩
   exact((((((((((((((((o3.pick 1 rfl)).set 0 _).set 1 _).set 2 _).set 3 _).set 4 _).set 5 _).set 6 _).set 7 _).set 8 _).set 9 _).set 10 _).set 11 _).set 12 _).set 13 _).perm (((List.Perm.swap _ _ _).trans ((List.Perm.swap _ _ _).cons _)).cons _)
 case rest =>
  obtain⟨b3,g,rfl,⟨R,o1⟩⟩:=hcut;have e1:=(o1.zi 1 rfl 1 _ rfl).1
  obtain⟨cx,hcx⟩:∃cx,cx=ca:=⟨_,rfl⟩
  have hpp:ZS fa ca ka nf fc nc cc nk kc lk=[.slice fa nf fc,.slice cx nc cc,.int .i64 (lk:Int),.slice ka nk kc]:=by rw[hcx];rfl
  rw[hpp] at o1;have HCX:=Qq hcx;clear hcx hpp
  have e9:Hid (∀(wx:World) (As:List zv) (k:Nat),Own w wx As→As[k]?=some (ze q [.slice fa nf fc,.slice cx nc cc,.int .i64 (lk:Int),.slice ka nk kc])→wx.cell? ⟨q,2,none⟩=some (.int .i64 (lk:Int))):=Qq (fun wx As k h hk=>(h.zi k hk 2 _ rfl).1)
  have H1:Hid (∃xs,Own w wc (zd 5 none 0 0 xs::ze b3 (KU [.slice fa nf fc,.slice cx nc cc,.int .i64 (lk:Int),.slice ka nk kc] (.slice (some ⟨g,0,none⟩) 1 1) (.slice none 0 0) (.slice none 0 0))::ze q [.slice fa nf fc,.slice cx nc cc,.int .i64 (lk:Int),.slice ka nk kc]::ze o Eg::R)):=Qq ⟨[],o1.add (Below.refl _ _) (A:=zd 5 none 0 0 []) (F:=[]) ⟨rfl,zT.nil 5 _⟩ (by simp)⟩
  clear o1 SB O1;obtain⟨i0,hi1,hz0,hz1,hz2⟩:=info_parts N4;have Hi:=Qq hi1;clear hi1
  have Hz0:=Qq hz0;clear hz0
  have Hz1:=Qq hz1;clear hz1
  have Hz2:=Qq hz2;clear hz2
  have e1':wc.cell? ⟨q,1,none⟩=some (.slice ca nc cc):=e1
  clear e1;go_wp2_with fail;clear e1';go_loopw [5,14] (fun nv c wr=>∃k:Nat,∃xa xc,k≤nc∧c=.int .i64 k∧Hid (∃xs,Own w wr (zd 5 xa xc k xs::ze b3 (KU [.slice fa nf fc,.slice cx nc cc,.int .i64 (lk:Int),.slice ka nk kc] (.slice (some ⟨g,0,none⟩) 1 1) (.slice xa k xc) (.slice none 0 0))::ze q [.slice fa nf fc,.slice cx nc cc,.int .i64 (lk:Int),.slice ka nk kc]::ze o Eg::R))) (fun _ c _=>nc-(intOf c).toNat)
  case atStart=>exact⟨0,none,0,by omega,rfl,H1⟩
  case round =>
   obtain⟨k,xa,xc,hk,rfl,⟨xs,o1⟩⟩:=hrel;by_cases hlt:k<nc
   ·obtain⟨cb,coff,rfl,hcc⟩:=HC.out k (by have:=HNC.out;omega)
    have hbl:cb<w.heap.size:=World.block_lt_of_cell? w _ hcc
    have g0:=o1.bel.cell (p:=⟨cb,coff+k,none⟩) hbl
    rw[hcc] at g0;generalize cs[k]'(by have:=HNC.out;omega)=room at g0
    clear hcc;have HO:=Qq o1;clear o1
    go_upto_region 5 with fail
    have o1:=HO.out.step (zg wr)
    clear g0;have SB:Hid (∀(wx:World) (As:List zv) (j:Nat),Own w wx As→As[j]?=some (ze b3 (KU [.slice fa nf fc,.slice cx nc cc,.int .i64 (lk:Int),.slice ka nk kc] (.slice (some ⟨g,0,none⟩) 1 1) (.slice xa k xc) (.slice none 0 0)))→wx.cell? ⟨b3,6,none⟩=some (.slice xa k xc)):=Qq (fun wx As j h hj=>(h.zi j hj 6 _ rfl).1)
    refine xh (fun wx=>wx.cell? ⟨b3,6,none⟩=some (.slice xa k xc)) 8 (Array.replicate 8 false) (by kernel_rfl) (by kernel_rfl) ?_
    generalize wr.drew=w3 at *;refine zF 0 3 _ (Qj 8 7) 5 (by kernel_rfl) za (SB.out _ _ 1 o1 rfl) (by kernel_rfl) ?_
    simp only[QX,QV,QJ];(repeat((first|refine Qx (h:=?_)|refine Qv (h:=?_));simp only[Act.put,QW,QY,QZ]));refine zb ?_;refine zM 3 _ (Qj 8 15) 4 (by kernel_rfl) (fun K hK=>?_)
    have HKK:=Qq hK;clear hK;simp only[QQ,QJ];refine zc (by rfl) ?_;go_simp;refine(QK _ room).mono ?_
    rintro r w4 ⟨⟨rm,rfl⟩,hb⟩;have o2:=o1.step hb;clear hb o1;refine HKK.out _ _ (SB.out _ _ 1 o2 rfl) ?_
    clear HKK K;refine zM 4 _ (Qj 8 31) 3 (by kernel_rfl) (fun K hK=>?_)
    have HKK:=Qq hK;clear hK;simp only[QQ,QJ];refine zc (by rfl) ?_;go_simp;have o3:=o2.step (below_alloc1 w4 (.cells #[.int .i64 rm,.slice none 0 0,.slice none 0 0,.slice none 0 0,.bool false] 187))
    refine HKK.out _ _ (SB.out _ _ 1 o3 rfl) ?_
    clear HKK K;refine zM 5 _ (Qj 8 63) 2 (by kernel_rfl) (fun K hK=>?_)
    have HKK:=Qq hK;clear hK;simp only[QQ,QJ];refine zc (by rfl) ?_;refine yx (n:=k) (m:=1) (cs:=xs) (ds:=[.int .i64 rm,.slice none 0 0,.slice none 0 0,.slice none 0 0,.bool false]) _ _ 34 (by rfl) 187 i0 _ Tryz.underlying34 Hi.out Hz0.out Hz1.out Hz2.out rfl (by omega) (by omega) (by rfl) (by rfl) (o3.xl 0 rfl) (zr.new _ [.int .i64 rm,.slice none 0 0,.slice none 0 0,.slice none 0 0,.bool false] _ rfl) rfl (by simp[Value.oneCell']) (by omega) ?_
    intro a9 c9 w9 k9 ch9 f9;have o4:=Own.yJ o3 k9 ch9 (fun x hx=>by simpa using f9 x hx)
    clear o2 o3 k9 ch9 f9;refine HKK.out _ _ (SB.out _ _ 1 o4 rfl) ?_
    clear HKK K;refine zF 6 1 _ (Qj 8 127) 1 (by kernel_rfl) za (SB.out _ _ 1 o4 rfl) (by kernel_rfl) ?_
    simp only[QX,QV,QQ,QJ];(repeat((first|refine Qx (h:=?_)|refine Qv (h:=?_));simp only[Act.put,QW,QY,QZ]));refine zb ?_;obtain⟨z6,f6⟩:=o4.zi 1 rfl 6 _ rfl;refine yG 7 _ (Qj 8 255) (by kernel_rfl) (fun K hK=>?_)
    have HKK:=Qq hK;clear hK;simp only[QQ,QJ];refine zc (by rfl) ?_;go_simp;refine HKK.out _ _ (NoPanic.normal ?_)
    clear HKK K;have H5:Hid (∃xs,Own w (w9.setCell ⟨b3,6,none⟩ (.slice a9 (k+1) c9)) (zd 5 a9 c9 (k+1) xs::ze b3 (KU [.slice fa nf fc,.slice cx nc cc,.int .i64 (lk:Int),.slice ka nk kc] (.slice (some ⟨g,0,none⟩) 1 1) (.slice a9 (k+1) c9) (.slice none 0 0))::ze q [.slice fa nf fc,.slice cx nc cc,.int .i64 (lk:Int),.slice ka nk kc]::ze o Eg::R)):=Qq ⟨_,o4.setAt 1 rfl 6 (.slice a9 (k+1) c9)⟩
    clear o4 z6 f6 SB HO;generalize w9.setCell ⟨b3,6,none⟩ (.slice a9 (k+1) c9)=w10 at *
    go_wp2;exact⟨⟨k+1,a9,c9,by omega,by go_num,H5⟩,by simp[intOf];omega⟩
   ·obtain rfl:k=nc:=by omega
    clear HC H1 hk hlt Hi Hz0 Hz1 Hz2;have hkk:¬(k:Int)<(k:Int):=by omega
    have e2:=e9.out _ _ 2 o1 rfl;obtain⟨w5,la,lc,hmk,hmb⟩:=NV wr lk (by omega)
    have o2:=o1.step hmb;obtain⟨z7,f7⟩:=o2.zi 1 rfl 7 _ rfl;have o3:=o2.setAt 1 rfl 7 (.slice la lk lc)
    have H3:=Qq o3;clear o1 o2 o3 hmb;go_upto_region 8 with fail
    clear e2 hmk z7 f7;generalize w5.setCell ⟨b3,7,none⟩ (.slice la lk lc)=w6 at *
    obtain⟨z0,-⟩:=H3.out.zi 1 rfl 0 _ rfl;obtain⟨z1,-⟩:=H3.out.zi 1 rfl 1 _ rfl;obtain⟨z2,-⟩:=H3.out.zi 1 rfl 2 _ rfl;obtain⟨z3,-⟩:=H3.out.zi 1 rfl 3 _ rfl;obtain⟨z4,-⟩:=H3.out.zi 1 rfl 4 _ rfl;obtain⟨z5,-⟩:=H3.out.zi 1 rfl 5 _ rfl;obtain⟨z6,-⟩:=H3.out.zi 1 rfl 6 _ rfl;obtain⟨z7,-⟩:=H3.out.zi 1 rfl 7 _ rfl;obtain⟨z8,-⟩:=H3.out.zi 1 rfl 8 _ rfl;obtain⟨z9,-⟩:=H3.out.zi 1 rfl 9 _ rfl;obtain⟨z10,-⟩:=H3.out.zi 1 rfl 10 _ rfl;obtain⟨z11,-⟩:=H3.out.zi 1 rfl 11 _ rfl;obtain⟨z12,-⟩:=H3.out.zi 1 rfl 12 _ rfl;obtain⟨z13,-⟩:=H3.out.zi 1 rfl 13 _ rfl;obtain⟨y0,f0⟩:=H3.out.zi 3 rfl 0 _ rfl;obtain⟨y1,f1⟩:=H3.out.zi 3 rfl 1 _ rfl;obtain⟨y2,f2⟩:=H3.out.zi 3 rfl 2 _ rfl;obtain⟨y3,f3⟩:=H3.out.zi 3 rfl 3 _ rfl;obtain⟨y4,f4⟩:=H3.out.zi 3 rfl 4 _ rfl;obtain⟨y5,f5⟩:=H3.out.zi 3 rfl 5 _ rfl;obtain⟨y6,f6⟩:=H3.out.zi 3 rfl 6 _ rfl;obtain⟨y7,f7⟩:=H3.out.zi 3 rfl 7 _ rfl;obtain⟨y8,f8⟩:=H3.out.zi 3 rfl 8 _ rfl;obtain⟨y9,f9⟩:=H3.out.zi 3 rfl 9 _ rfl;obtain⟨y10,f10⟩:=H3.out.zi 3 rfl 10 _ rfl;obtain⟨y11,f11⟩:=H3.out.zi 3 rfl 11 _ rfl;obtain⟨y12,f12⟩:=H3.out.zi 3 rfl 12 _ rfl;obtain⟨y13,f13⟩:=H3.out.zi 3 rfl 13 _ rfl;go_wp2_with fail;clear z0 y0 f0 z1 y1 f1 z2 y2 f2 z3 y3 f3 z4 y4 f4 z5 y5 f5 z6 y6 f6 z7 y7 f7 z8 y8 f8 z9 y9 f9 z10 y10 f10 z11 y11 f11 z12 y12 f12 z13 y13 f13;have o4:=(((((((((((((((H3.out.pick 3 rfl)).set 0 (.slice fa nf fc)).set 1 (.slice cx k cc)).set 2 (.int .i64 (lk:Int))).set 3 (.slice ka nk kc)).set 4 (.slice (some ⟨g,0,none⟩) 1 1)).set 5 (.int .u64 0)).set 6 (.slice xa k xc)).set 7 (.slice la lk lc)).set 8 (.slice none 0 0)).set 9 (.int .u64 0)).set 10 (.slice none 0 0)).set 11 (.int .i64 0)).set 12 (.int .i64 0)).set 13 (.slice none 0 0)
    have hg:=Et (v0:=.slice fa nf fc) (v1:=.slice cx k cc) (v2:=.int .i64 (lk:Int)) (v3:=.slice ka nk kc) (v4:=.slice (some ⟨g,0,none⟩) 1 1) (v5:=.int .u64 0) (v6:=.slice xa k xc) (v7:=.slice la lk lc) (v8:=.slice none 0 0) (v9:=.int .u64 0) (v10:=.slice none 0 0) (v11:=.int .i64 0) (v12:=.int .i64 0) (v13:=.slice none 0 0) (o4.zi 0 rfl)
    exact bodyPost_ret (zu Tryz.results53 _ ⟨o,0,none⟩ rfl hg) rfl ⟨⟨_,_,_,_,_,_,_,by rw[HCX.out];rfl⟩,by rw[←HQ.out] at *;exact o4.bel⟩
section
variable {P:Program} {Q:Exit→Act→World→Prop} {S:World→Prop}
theorem Sb {l:List Oper}(k k' k3:Nat)(listed listed' listed'' listed3:Array Bool)(fuel:Nat){a:Act}{w:World}(hB:(decide (Region.ready .any l.toArray listed=[k,k',k3])&&(listed.setIfInBounds k true==listed')&&(listed.setIfInBounds k' true==listed'')&&(listed.setIfInBounds k3 true==listed3))=true)
  (h1:∀K:Act→World→Prop,(∀a' w',S w'→wpAnyH P .any l.toArray Q S fuel listed' a' w'→K a' w')→xR P l.toArray Q K a w (l.drop k))
  (h2:∀K:Act→World→Prop,(∀a' w',S w'→wpAnyH P .any l.toArray Q S fuel listed'' a' w'→K a' w')→xR P l.toArray Q K a w (l.drop k'))
  (h3:∀K:Act→World→Prop,(∀a' w',S w'→wpAnyH P .any l.toArray Q S fuel listed3 a' w'→K a' w')→xR P l.toArray Q K a w (l.drop k3)):wpAnyH P .any l.toArray Q S (fuel+1) listed a w:=by
 simp only[Bool.and_eq_true,decide_eq_true_eq,beq_iff_eq] at hB;obtain⟨⟨⟨hr,rfl⟩,rfl⟩,rfl⟩:=hB;refine wpAnyH_all hr (by simp) (fun i hi=>?_)
 have h:∀K:Act→World→Prop,(∀a' w',S w'→wpAnyH P .any l.toArray Q S fuel (listed.setIfInBounds i true) a' w'→K a' w')→xR P l.toArray Q K a w (l.drop i):=by
  have hik:i=k∨i=k'∨i=k3:=by simpa using hi
  rcases hik with rfl|rfl|rfl
  ·exact h1
  ·exact h2
  ·exact h3
 have h1:=h (fun a' w'=>S w'∧wpAnyH P .any l.toArray Q S fuel (listed.setIfInBounds i true) a' w') (fun a' w' h2 h3=>⟨h2,h3⟩)
 cases hd:l.drop i with
 | nil=>rw[hd] at h1;exact h1.elim
 | cons o r =>
  rw[hd] at h1;have h0:l.toArray[i]?=some o:=by
   have:(l.drop i)[0]?=some o:=by rw[hd];rfl
   rw[List.getElem?_drop] at this
   simpa using this
  unfold wpOp;simp only[h0];rw[if_pos h1.1];exact .inl h1.2
end
end Go.Proofs.YtlkjheheofgdgaaGreat
open Go Go.RowKit
namespace Go.Proofs.YtlkjheheofgdgaaGreat
def YJ (np nm:Nat)(ring sl:Int):List Value:=[.int .i64 (np:Int),.int .i64 (nm:Int),.int .i64 ring,.int .i64 sl]
def XM (na:Option Addr)(nn nnc:Nat):List Value:=[.slice na nn nnc,.slice none 0 0,.bool false,.bool false,.slice none 0 0]
def Sg:List Value:=[.int .i64 0,.int .i64 0,.int .i64 0,.int .i64 0,.slice none 0 0,.slice none 0 0,.int .i64 0,.slice none 0 0,.slice none 0 0,.int .u64 0,.slice none 0 0,.slice none 0 0,.slice none 0 0,.int .u64 0,.slice none 0 0,.int .i64 0,.int .i64 0,.slice none 0 0,.slice none 0 0,.slice none 0 0,.slice none 0 0,.slice none 0 0,.slice none 0 0,.bool false,.bool false,.slice none 0 0,.int .i64 0]
theorem Own.Ho {w0:World}{b:Nat}{R:List zv}:∀(vs cs:List Value) (o:Nat) (w:World),Own w0 w (ze b cs::R)→Own w0 (w.setCells b o vs) (ze b (setL cs o vs)::R)
 | [],cs,o,w,h=>h
 | v::r,cs,o,w,h=>Own.Ho r (cs.set o v) (o+1) _ (h.set o v)
theorem NO {cs vs:List Value}(h:cs.length=vs.length):setL cs 0 vs=vs:=by
 apply List.ext_getElem?
 intro j;rw[Sm];by_cases hj:j<vs.length
 ·rw[if_pos ⟨Nat.zero_le _,by omega,by omega⟩,Nat.sub_zero]
 ·rw[if_neg (by omega),List.getElem?_eq_none (by omega),List.getElem?_eq_none (by omega)]
theorem Own.Yb {w0 w:World}{b:Nat}{cs vs:List Value}{R:List zv}(h:Own w0 w (ze b cs::R))(e:cs.length=vs.length):Own w0 (w.setCells b 0 vs) (ze b vs::R):=by
 have:=Own.Ho vs cs 0 w h
 rw[NO e] at this;exact this
theorem SS:(Tryz.prog.info? 150).map (fun i=>(i.zero,i.size,i.bytes))=some (some (.agg #[.int .i64 0,.slice none 0 0,.int .i64 0,.int .i64 0,.int .i64 0]),5,56):=by kernel_rfl
theorem RN:(Tryz.prog.info? 151).map (fun i=>(i.zero,i.size,i.bytes))=some (some (.agg #[.int .i64 0,.int .i64 0,.int .i64 0]),3,24):=by kernel_rfl
def Tb (C P D:List Value)(gs ch lo ps ms gl:Value):List Value:=C++(KU P gs ch lo++(ps::ms::gl::(D++[.int .i64 0])))
theorem Po (w:World)(fa ca ka:Option Addr)(nf fc cc nk kc lk:Nat)(cs:List Int)(hc:yT w ca cs)(hcl:cs.length≤1000)(hlk:lk≤1000)(np nm:Nat)(ring sl:Int)(hnp:np≤1000)(hnm:nm≤1000)(na:Option Addr)(nn nnc:Nat) :
  Calls Tryz.prog 28 #[.agg #[.slice fa nf fc,.slice ca cs.length cc,.int .i64 (lk:Int),.slice ka nk kc],.agg #[.int .i64 (np:Int),.int .i64 (nm:Int),.int .i64 ring,.int .i64 sl],.agg #[.slice na nn nnc,.slice none 0 0,.bool false,.bool false,.slice none 0 0]] w fun e w'=>(∃gsg cha chn chc loa lon loc psa psn psc msa msn msc gb,e=.returned (.agg (Tb (YJ np nm ring sl) (ZS fa ca ka nf fc cs.length cc nk kc lk) (XM na nn nnc) (.slice (some ⟨gsg,0,none⟩) 1 1) (.slice cha chn chc) (.slice loa lon loc) (.slice psa psn psc) (.slice msa msn msc) (.slice (some ⟨gb,0,none⟩) 1 1)).toArray))∧Below w.heap.size w w':=by
 obtain⟨nc,hnc⟩:∃nc,nc=cs.length:=⟨_,rfl⟩
 rw[←hnc] at hcl ⊢;have HNC:=Qq hnc;clear hnc
 have HC:=Qq hc;clear hc
 have Mc:∀wx:World,yT wx ca cs→Calls Tryz.prog 53 #[.agg #[.slice fa nf fc,.slice ca nc cc,.int .i64 (lk:Int),.slice ka nk kc]] wx fun e w'=>(∃g xa xn xc la ln lc,e=.returned (.agg #[.slice fa nf fc,.slice ca nc cc,.int .i64 (lk:Int),.slice ka nk kc,.slice (some ⟨g,0,none⟩) 1 1,.int .u64 0,.slice xa xn xc,.slice la ln lc,.slice none 0 0,.int .u64 0,.slice none 0 0,.int .i64 0,.int .i64 0,.slice none 0 0]))∧Below wx.heap.size wx w':=fun wx hx=>by
  have h:=Q8 wx fa ca ka nf fc cc nk kc lk cs hx (by rw[←HNC.out];exact hcl) hlk
  rw[←HNC.out] at h;exact h
 have C16:=Qq Mc;clear Mc
 go_enter Tryz.func28,Tryz.ntmps28
 have O0:=Qq (((((Own.nil (Below.refl _ w)).alloc (ZS fa ca ka nf fc nc cc nk kc lk) 26 (b:=w.heap.size) rfl).alloc (YJ np nm ring sl) 28 (b:=w.heap.size+1) (by simp)).alloc (XM na nn nnc) 46 (b:=w.heap.size+1+1) (by simp)).alloc Sg 48 (b:=w.heap.size+1+1+1) (by simp))
 go_upto_region 1 with fail
 generalize hwx:(((w.alloc (.cells #[.slice fa nf fc,.slice ca nc cc,.int .i64 (lk:Int),.slice ka nk kc] 26)).alloc (.cells #[.int .i64 (np:Int),.int .i64 (nm:Int),.int .i64 ring,.int .i64 sl] 28)).alloc (.cells #[.slice na nn nnc,.slice none 0 0,.bool false,.bool false,.slice none 0 0] 46)).alloc (.cells #[.int .i64 0,.int .i64 0,.int .i64 0,.int .i64 0,.slice none 0 0,.slice none 0 0,.int .i64 0,.slice none 0 0,.slice none 0 0,.int .u64 0,.slice none 0 0,.slice none 0 0,.slice none 0 0,.int .u64 0,.slice none 0 0,.int .i64 0,.int .i64 0,.slice none 0 0,.slice none 0 0,.slice none 0 0,.slice none 0 0,.slice none 0 0,.slice none 0 0,.bool false,.bool false,.slice none 0 0,.int .i64 0] 48)=wX
 have o1:Own w wX [ze (w.heap.size+1+1+1) Sg,ze (w.heap.size+1+1) (XM na nn nnc),ze (w.heap.size+1) (YJ np nm ring sl),ze w.heap.size (ZS fa ca ka nf fc nc cc nk kc lk)]:=by rw[←hwx];exact O0.out
 clear O0 hwx;generalize w.heap.size+1+1+1=ob at *
 generalize w.heap.size+1+1=db at *
 generalize w.heap.size+1=cb at *
 generalize hq:w.heap.size=pb at *
 have HQ:=Qq hq;clear hq
 have O1:Hid (Own w wX (ze cb (YJ np nm ring sl)::ze pb (ZS fa ca ka nf fc nc cc nk kc lk)::ze db (XM na nn nnc)::ze ob Sg::[])):=Qq (((o1.pick 1 rfl).pick 3 rfl).pick 3 rfl)
 clear o1;have SB:Hid (∀(wx:World) (L:List zv),Own w wx (L++(ze cb (YJ np nm ring sl)::ze pb (ZS fa ca ka nf fc nc cc nk kc lk)::ze db (XM na nn nnc)::ze ob Sg::[]))→wx.cell? ⟨cb,0,none⟩=some (.int .i64 (np:Int))∧wx.cell? ⟨cb,1,none⟩=some (.int .i64 (nm:Int))∧wx.cell? ⟨cb,2,none⟩=some (.int .i64 ring)∧wx.cell? ⟨cb,3,none⟩=some (.int .i64 sl)∧wx.cell? ⟨pb,0,none⟩=some (.slice fa nf fc)∧wx.cell? ⟨pb,1,none⟩=some (.slice ca nc cc)∧wx.cell? ⟨pb,2,none⟩=some (.int .i64 (lk:Int))∧wx.cell? ⟨pb,3,none⟩=some (.slice ka nk kc)∧wx.cell? ⟨db,0,none⟩=some (.slice na nn nnc)∧wx.cell? ⟨db,1,none⟩=some (.slice none 0 0)∧wx.cell? ⟨db,2,none⟩=some (.bool false)∧wx.cell? ⟨db,3,none⟩=some (.bool false)∧wx.cell? ⟨db,4,none⟩=some (.slice none 0 0)) :=
  Qq (fun wx L h=>by
   have h:=Own.Zj h;exact⟨(h.zi 0 rfl 0 _ rfl).1,(h.zi 0 rfl 1 _ rfl).1,(h.zi 0 rfl 2 _ rfl).1,(h.zi 0 rfl 3 _ rfl).1,(h.zi 1 rfl 0 _ rfl).1,(h.zi 1 rfl 1 _ rfl).1,(h.zi 1 rfl 2 _ rfl).1,(h.zi 1 rfl 3 _ rfl).1,(h.zi 2 rfl 0 _ rfl).1,(h.zi 2 rfl 1 _ rfl).1,(h.zi 2 rfl 2 _ rfl).1,(h.zi 2 rfl 3 _ rfl).1,(h.zi 2 rfl 4 _ rfl).1⟩)
 go_cut [7] (fun sv wx=>∃b3 gb gsg cha chn chc loa lon loc,sv=.pointer (some ⟨b3,0,none⟩)∧Hid (Own w wx (ze b3 (Tb (YJ np nm ring sl) (ZS fa ca ka nf fc nc cc nk kc lk) (XM na nn nnc) (.slice (some ⟨gsg,0,none⟩) 1 1) (.slice cha chn chc) (.slice loa lon loc) (.slice none 0 0) (.slice none 0 0) (.slice (some ⟨gb,0,none⟩) 1 1))::ze gb [.int .i64 0]::ze cb (YJ np nm ring sl)::ze pb (ZS fa ca ka nf fc nc cc nk kc lk)::ze db (XM na nn nnc)::ze ob Sg::[])))
 case first =>
  have o0:=O1.out.step (zg wX)
  refine zV (fun wx=>wx.cell? ⟨cb,0,none⟩=some (.int .i64 (np:Int))∧wx.cell? ⟨cb,1,none⟩=some (.int .i64 (nm:Int))∧wx.cell? ⟨cb,2,none⟩=some (.int .i64 ring)∧wx.cell? ⟨cb,3,none⟩=some (.int .i64 sl)∧wx.cell? ⟨pb,0,none⟩=some (.slice fa nf fc)∧wx.cell? ⟨pb,1,none⟩=some (.slice ca nc cc)∧wx.cell? ⟨pb,2,none⟩=some (.int .i64 (lk:Int))∧wx.cell? ⟨pb,3,none⟩=some (.slice ka nk kc)∧wx.cell? ⟨db,0,none⟩=some (.slice na nn nnc)∧wx.cell? ⟨db,1,none⟩=some (.slice none 0 0)∧wx.cell? ⟨db,2,none⟩=some (.bool false)∧wx.cell? ⟨db,3,none⟩=some (.bool false)∧wx.cell? ⟨db,4,none⟩=some (.slice none 0 0)) 8 (Array.replicate 8 false) (by kernel_rfl) (by kernel_rfl) ?_
  generalize wX.drew=w3 at *;refine zm 0 2 _ (Qj 8 3) 6 (by kernel_rfl) za (SB.out _ [] o0) (by kernel_rfl) ?_
  simp only[QX,QV,QJ];(repeat((first|refine Qx (h:=?_)|refine Qv (h:=?_));simp only[Act.put,QW,QY,QZ]));refine zb ?_;refine zm 4 1 _ (Qj 8 19) 5 (by kernel_rfl) za (SB.out _ [] o0) (by kernel_rfl) ?_
  simp only[QX,QV,QQ,QJ];(repeat((first|refine Qx (h:=?_)|refine Qv (h:=?_));simp only[Act.put,QW,QY,QZ]));refine zb ?_;refine Sb 2 3 6 _ (Qj 8 23) (Qj 8 27) (Qj 8 83) 4 (by kernel_rfl) (fun K hK=>?_) (fun K hK=>?_) (fun K hK=>?_)
  ·skip
   have HKK:=Qq hK;clear hK;simp only[QQ,QJ];refine zc (by rfl) ?_;go_simp;refine(C16.out _ (HC.out.below o0.bel)).mono ?_
   rintro r w4 ⟨⟨gsg,cha,chn,chc,loa,lon,loc,rfl⟩,hb⟩;have o1:=o0.step hb;clear hb;refine HKK.out _ _ (SB.out _ [] o1) ?_
   clear HKK K;refine yz 3 6 _ (Qj 8 31) (Qj 8 87) 3 (by kernel_rfl) (fun K hK=>?_) (fun K hK=>?_)
   ·skip
    have HKK:=Qq hK;clear hK;simp only[QQ,QJ];refine zc (by rfl) ?_;go_simp;have o2:=o1.alloc [.int .i64 0] 3 rfl
    refine HKK.out _ _ (SB.out _ [_] o2) ?_
    clear HKK K;generalize w4.alloc _=w5 at *;generalize w4.heap.size=gb at *;refine zm 5 1 _ (Qj 8 63) 2 (by kernel_rfl) za (SB.out _ [_] o2) (by kernel_rfl) ?_
    simp only[QX,QV,QQ,QJ];(repeat((first|refine Qx (h:=?_)|refine Qv (h:=?_));simp only[Act.put,QW,QY,QZ]));refine zb ?_;refine zh 6 _ (Qj 8 127) 1 (by kernel_rfl) (fun K hK=>?_)
    have HKK:=Qq hK;clear hK;simp only[QQ,QJ];refine zc (by rfl) ?_;go_simp;have o3:=o2.alloc [.int .i64 0,.int .i64 0,.int .i64 0,.int .i64 0,.slice none 0 0,.slice none 0 0,.int .i64 0,.slice none 0 0,.slice none 0 0,.int .u64 0,.slice none 0 0,.slice none 0 0,.slice none 0 0,.int .u64 0,.slice none 0 0,.int .i64 0,.int .i64 0,.slice none 0 0,.slice none 0 0,.slice none 0 0,.slice none 0 0,.slice none 0 0,.slice none 0 0,.bool false,.bool false,.slice none 0 0,.int .i64 0] 48 rfl
    refine HKK.out _ _ (SB.out _ [_,_] o3) ?_
    clear HKK K;generalize w5.alloc _=w6 at *;generalize w5.heap.size=b3 at *;have o4:=Own.Yb (vs:=[.int .i64 (np:Int),.int .i64 (nm:Int),.int .i64 ring,.int .i64 sl,.slice fa nf fc,.slice ca nc cc,.int .i64 (lk:Int),.slice ka nk kc,.slice (some ⟨gsg,0,none⟩) 1 1,.int .u64 0,.slice cha chn chc,.slice loa lon loc,.slice none 0 0,.int .u64 0,.slice none 0 0,.int .i64 0,.int .i64 0,.slice none 0 0,.slice none 0 0,.slice none 0 0,.slice (some ⟨gb,0,none⟩) 1 1,.slice na nn nnc,.slice none 0 0,.bool false,.bool false,.slice none 0 0,.int .i64 0]) o3 rfl
    have ht:=(o3.zi 0 rfl).there 27 (Nat.le_refl _)
    refine zh 7 _ (Qj 8 255) 0 (by kernel_rfl) (fun K hK=>?_)
    have HKK:=Qq hK;clear hK;simp only[QQ,QJ];refine zc (by rfl) ?_;refine wp_store_mid _ _ _ (by rfl) b3 0 #[.int .i64 (np:Int),.int .i64 (nm:Int),.int .i64 ring,.int .i64 sl,.slice fa nf fc,.slice ca nc cc,.int .i64 (lk:Int),.slice ka nk kc,.slice (some ⟨gsg,0,none⟩) 1 1,.int .u64 0,.slice cha chn chc,.slice loa lon loc,.slice none 0 0,.int .u64 0,.slice none 0 0,.int .i64 0,.int .i64 0,.slice none 0 0,.slice none 0 0,.slice none 0 0,.slice (some ⟨gb,0,none⟩) 1 1,.slice na nn nnc,.slice none 0 0,.bool false,.bool false,.slice none 0 0,.int .i64 0] (by rfl) (by rfl) ht (by kernel_rfl) (by simp[Value.oneCell']) ?_
    refine HKK.out _ _ (SB.out _ [_,_] o4) ?_
    clear HKK K;clear ht;refine wpAnyH_done (by kernel_rfl) (NoPanic.normal ?_) _
    go_wp2_with fail;go_meet;exact⟨b3,gb,gsg,cha,chn,chc,loa,lon,loc,rfl,Qq o4⟩
   ·skip
    have HKK:=Qq hK;clear hK;simp only[QQ,QJ];refine zc (by rfl) ?_;go_simp;have o2:=o1.alloc [.int .i64 0,.int .i64 0,.int .i64 0,.int .i64 0,.slice none 0 0,.slice none 0 0,.int .i64 0,.slice none 0 0,.slice none 0 0,.int .u64 0,.slice none 0 0,.slice none 0 0,.slice none 0 0,.int .u64 0,.slice none 0 0,.int .i64 0,.int .i64 0,.slice none 0 0,.slice none 0 0,.slice none 0 0,.slice none 0 0,.slice none 0 0,.slice none 0 0,.bool false,.bool false,.slice none 0 0,.int .i64 0] 48 rfl
    refine HKK.out _ _ (SB.out _ [_] o2) ?_
    clear HKK K;generalize w4.alloc _=w5 at *;generalize w4.heap.size=b3 at *;refine zh 3 _ (Qj 8 95) 2 (by kernel_rfl) (fun K hK=>?_)
    have HKK:=Qq hK;clear hK;simp only[QQ,QJ];refine zc (by rfl) ?_;go_simp;have o3:=o2.alloc [.int .i64 0] 3 rfl
    refine HKK.out _ _ (SB.out _ [_,_] o3) ?_
    clear HKK K;generalize w5.alloc _=w6 at *;generalize w5.heap.size=gb at *;refine zm 5 1 _ (Qj 8 127) 1 (by kernel_rfl) za (SB.out _ [_,_] o3) (by kernel_rfl) ?_
    simp only[QX,QV,QQ,QJ];(repeat((first|refine Qx (h:=?_)|refine Qv (h:=?_));simp only[Act.put,QW,QY,QZ]));refine zb ?_;have o4:=Own.Yb (vs:=[.int .i64 (np:Int),.int .i64 (nm:Int),.int .i64 ring,.int .i64 sl,.slice fa nf fc,.slice ca nc cc,.int .i64 (lk:Int),.slice ka nk kc,.slice (some ⟨gsg,0,none⟩) 1 1,.int .u64 0,.slice cha chn chc,.slice loa lon loc,.slice none 0 0,.int .u64 0,.slice none 0 0,.int .i64 0,.int .i64 0,.slice none 0 0,.slice none 0 0,.slice none 0 0,.slice (some ⟨gb,0,none⟩) 1 1,.slice na nn nnc,.slice none 0 0,.bool false,.bool false,.slice none 0 0,.int .i64 0]) (o3.pick 1 rfl) rfl
    have ht:=((o3.pick 1 rfl).zi 0 rfl).there 27 (Nat.le_refl _)
    refine zh 7 _ (Qj 8 255) 0 (by kernel_rfl) (fun K hK=>?_)
    have HKK:=Qq hK;clear hK;simp only[QQ,QJ];refine zc (by rfl) ?_;refine wp_store_mid _ _ _ (by rfl) b3 0 #[.int .i64 (np:Int),.int .i64 (nm:Int),.int .i64 ring,.int .i64 sl,.slice fa nf fc,.slice ca nc cc,.int .i64 (lk:Int),.slice ka nk kc,.slice (some ⟨gsg,0,none⟩) 1 1,.int .u64 0,.slice cha chn chc,.slice loa lon loc,.slice none 0 0,.int .u64 0,.slice none 0 0,.int .i64 0,.int .i64 0,.slice none 0 0,.slice none 0 0,.slice none 0 0,.slice (some ⟨gb,0,none⟩) 1 1,.slice na nn nnc,.slice none 0 0,.bool false,.bool false,.slice none 0 0,.int .i64 0] (by rfl) (by rfl) ht (by kernel_rfl) (by simp[Value.oneCell']) ?_
    refine HKK.out _ _ (SB.out _ [_,_] o4) ?_
    clear HKK K;clear ht;refine wpAnyH_done (by kernel_rfl) (NoPanic.normal ?_) _
    go_wp2_with fail;go_meet;exact⟨b3,gb,gsg,cha,chn,chc,loa,lon,loc,rfl,Qq o4⟩
  ·skip
   have HKK:=Qq hK;clear hK;simp only[QQ,QJ];refine zc (by rfl) ?_;go_simp;have o1:=o0.alloc [.int .i64 0] 3 rfl
   refine HKK.out _ _ (SB.out _ [_] o1) ?_
   clear HKK K;generalize w3.alloc _=w4 at *;generalize w3.heap.size=gb at *;refine yz 2 6 _ (Qj 8 31) (Qj 8 91) 3 (by kernel_rfl) (fun K hK=>?_) (fun K hK=>?_)
   ·skip
    have HKK:=Qq hK;clear hK;simp only[QQ,QJ];refine zc (by rfl) ?_;go_simp;refine(C16.out _ (HC.out.below o1.bel)).mono ?_
    rintro r w5 ⟨⟨gsg,cha,chn,chc,loa,lon,loc,rfl⟩,hb⟩;have o2:=o1.step hb;clear hb;refine HKK.out _ _ (SB.out _ [_] o2) ?_
    clear HKK K;refine zm 5 1 _ (Qj 8 63) 2 (by kernel_rfl) za (SB.out _ [_] o2) (by kernel_rfl) ?_
    simp only[QX,QV,QQ,QJ];(repeat((first|refine Qx (h:=?_)|refine Qv (h:=?_));simp only[Act.put,QW,QY,QZ]));refine zb ?_;refine zh 6 _ (Qj 8 127) 1 (by kernel_rfl) (fun K hK=>?_)
    have HKK:=Qq hK;clear hK;simp only[QQ,QJ];refine zc (by rfl) ?_;go_simp;have o3:=o2.alloc [.int .i64 0,.int .i64 0,.int .i64 0,.int .i64 0,.slice none 0 0,.slice none 0 0,.int .i64 0,.slice none 0 0,.slice none 0 0,.int .u64 0,.slice none 0 0,.slice none 0 0,.slice none 0 0,.int .u64 0,.slice none 0 0,.int .i64 0,.int .i64 0,.slice none 0 0,.slice none 0 0,.slice none 0 0,.slice none 0 0,.slice none 0 0,.slice none 0 0,.bool false,.bool false,.slice none 0 0,.int .i64 0] 48 rfl
    refine HKK.out _ _ (SB.out _ [_,_] o3) ?_
    clear HKK K;generalize w5.alloc _=w6 at *;generalize w5.heap.size=b3 at *;have o4:=Own.Yb (vs:=[.int .i64 (np:Int),.int .i64 (nm:Int),.int .i64 ring,.int .i64 sl,.slice fa nf fc,.slice ca nc cc,.int .i64 (lk:Int),.slice ka nk kc,.slice (some ⟨gsg,0,none⟩) 1 1,.int .u64 0,.slice cha chn chc,.slice loa lon loc,.slice none 0 0,.int .u64 0,.slice none 0 0,.int .i64 0,.int .i64 0,.slice none 0 0,.slice none 0 0,.slice none 0 0,.slice (some ⟨gb,0,none⟩) 1 1,.slice na nn nnc,.slice none 0 0,.bool false,.bool false,.slice none 0 0,.int .i64 0]) o3 rfl
    have ht:=(o3.zi 0 rfl).there 27 (Nat.le_refl _)
    refine zh 7 _ (Qj 8 255) 0 (by kernel_rfl) (fun K hK=>?_)
    have HKK:=Qq hK;clear hK;simp only[QQ,QJ];refine zc (by rfl) ?_;refine wp_store_mid _ _ _ (by rfl) b3 0 #[.int .i64 (np:Int),.int .i64 (nm:Int),.int .i64 ring,.int .i64 sl,.slice fa nf fc,.slice ca nc cc,.int .i64 (lk:Int),.slice ka nk kc,.slice (some ⟨gsg,0,none⟩) 1 1,.int .u64 0,.slice cha chn chc,.slice loa lon loc,.slice none 0 0,.int .u64 0,.slice none 0 0,.int .i64 0,.int .i64 0,.slice none 0 0,.slice none 0 0,.slice none 0 0,.slice (some ⟨gb,0,none⟩) 1 1,.slice na nn nnc,.slice none 0 0,.bool false,.bool false,.slice none 0 0,.int .i64 0] (by rfl) (by rfl) ht (by kernel_rfl) (by simp[Value.oneCell']) ?_
    refine HKK.out _ _ (SB.out _ [_,_] o4) ?_
    clear HKK K;clear ht;refine wpAnyH_done (by kernel_rfl) (NoPanic.normal ?_) _
    go_wp2_with fail;go_meet;exact⟨b3,gb,gsg,cha,chn,chc,loa,lon,loc,rfl,Qq o4⟩
   ·skip
    have HKK:=Qq hK;clear hK;simp only[QQ,QJ];refine zc (by rfl) ?_;go_simp;have o2:=o1.alloc [.int .i64 0,.int .i64 0,.int .i64 0,.int .i64 0,.slice none 0 0,.slice none 0 0,.int .i64 0,.slice none 0 0,.slice none 0 0,.int .u64 0,.slice none 0 0,.slice none 0 0,.slice none 0 0,.int .u64 0,.slice none 0 0,.int .i64 0,.int .i64 0,.slice none 0 0,.slice none 0 0,.slice none 0 0,.slice none 0 0,.slice none 0 0,.slice none 0 0,.bool false,.bool false,.slice none 0 0,.int .i64 0] 48 rfl
    refine HKK.out _ _ (SB.out _ [_,_] o2) ?_
    clear HKK K;generalize w4.alloc _=w5 at *;generalize w4.heap.size=b3 at *;refine zh 2 _ (Qj 8 95) 2 (by kernel_rfl) (fun K hK=>?_)
    have HKK:=Qq hK;clear hK;simp only[QQ,QJ];refine zc (by rfl) ?_;go_simp;refine(C16.out _ (HC.out.below o2.bel)).mono ?_
    rintro r w6 ⟨⟨gsg,cha,chn,chc,loa,lon,loc,rfl⟩,hb⟩;have o3:=o2.step hb;clear hb;refine HKK.out _ _ (SB.out _ [_,_] o3) ?_
    clear HKK K;refine zm 5 1 _ (Qj 8 127) 1 (by kernel_rfl) za (SB.out _ [_,_] o3) (by kernel_rfl) ?_
    simp only[QX,QV,QQ,QJ];(repeat((first|refine Qx (h:=?_)|refine Qv (h:=?_));simp only[Act.put,QW,QY,QZ]));refine zb ?_;have o4:=Own.Yb (vs:=[.int .i64 (np:Int),.int .i64 (nm:Int),.int .i64 ring,.int .i64 sl,.slice fa nf fc,.slice ca nc cc,.int .i64 (lk:Int),.slice ka nk kc,.slice (some ⟨gsg,0,none⟩) 1 1,.int .u64 0,.slice cha chn chc,.slice loa lon loc,.slice none 0 0,.int .u64 0,.slice none 0 0,.int .i64 0,.int .i64 0,.slice none 0 0,.slice none 0 0,.slice none 0 0,.slice (some ⟨gb,0,none⟩) 1 1,.slice na nn nnc,.slice none 0 0,.bool false,.bool false,.slice none 0 0,.int .i64 0]) o3 rfl
    have ht:=(o3.zi 0 rfl).there 27 (Nat.le_refl _)
    refine zh 7 _ (Qj 8 255) 0 (by kernel_rfl) (fun K hK=>?_)
    have HKK:=Qq hK;clear hK;simp only[QQ,QJ];refine zc (by rfl) ?_;refine wp_store_mid _ _ _ (by rfl) b3 0 #[.int .i64 (np:Int),.int .i64 (nm:Int),.int .i64 ring,.int .i64 sl,.slice fa nf fc,.slice ca nc cc,.int .i64 (lk:Int),.slice ka nk kc,.slice (some ⟨gsg,0,none⟩) 1 1,.int .u64 0,.slice cha chn chc,.slice loa lon loc,.slice none 0 0,.int .u64 0,.slice none 0 0,.int .i64 0,.int .i64 0,.slice none 0 0,.slice none 0 0,.slice none 0 0,.slice (some ⟨gb,0,none⟩) 1 1,.slice na nn nnc,.slice none 0 0,.bool false,.bool false,.slice none 0 0,.int .i64 0] (by rfl) (by rfl) ht (by kernel_rfl) (by simp[Value.oneCell']) ?_
    refine HKK.out _ _ (SB.out _ [_,_] o4) ?_
    clear HKK K;clear ht;refine wpAnyH_done (by kernel_rfl) (NoPanic.normal ?_) _
    go_wp2_with fail;go_meet;exact⟨b3,gb,gsg,cha,chn,chc,loa,lon,loc,rfl,Qq o4⟩
  ·skip
   have HKK:=Qq hK;clear hK;simp only[QQ,QJ];refine zc (by rfl) ?_;go_simp;have o1:=o0.alloc [.int .i64 0,.int .i64 0,.int .i64 0,.int .i64 0,.slice none 0 0,.slice none 0 0,.int .i64 0,.slice none 0 0,.slice none 0 0,.int .u64 0,.slice none 0 0,.slice none 0 0,.slice none 0 0,.int .u64 0,.slice none 0 0,.int .i64 0,.int .i64 0,.slice none 0 0,.slice none 0 0,.slice none 0 0,.slice none 0 0,.slice none 0 0,.slice none 0 0,.bool false,.bool false,.slice none 0 0,.int .i64 0] 48 rfl
   refine HKK.out _ _ (SB.out _ [_] o1) ?_
   clear HKK K;generalize w3.alloc _=w4 at *;generalize w3.heap.size=b3 at *;refine yz 2 3 _ (Qj 8 87) (Qj 8 91) 3 (by kernel_rfl) (fun K hK=>?_) (fun K hK=>?_)
   ·skip
    have HKK:=Qq hK;clear hK;simp only[QQ,QJ];refine zc (by rfl) ?_;go_simp;refine(C16.out _ (HC.out.below o1.bel)).mono ?_
    rintro r w5 ⟨⟨gsg,cha,chn,chc,loa,lon,loc,rfl⟩,hb⟩;have o2:=o1.step hb;clear hb;refine HKK.out _ _ (SB.out _ [_] o2) ?_
    clear HKK K;refine zh 3 _ (Qj 8 95) 2 (by kernel_rfl) (fun K hK=>?_)
    have HKK:=Qq hK;clear hK;simp only[QQ,QJ];refine zc (by rfl) ?_;go_simp;have o3:=o2.alloc [.int .i64 0] 3 rfl
    refine HKK.out _ _ (SB.out _ [_,_] o3) ?_
    clear HKK K;generalize w5.alloc _=w6 at *;generalize w5.heap.size=gb at *;refine zm 5 1 _ (Qj 8 127) 1 (by kernel_rfl) za (SB.out _ [_,_] o3) (by kernel_rfl) ?_
    simp only[QX,QV,QQ,QJ];(repeat((first|refine Qx (h:=?_)|refine Qv (h:=?_));simp only[Act.put,QW,QY,QZ]));refine zb ?_;have o4:=Own.Yb (vs:=[.int .i64 (np:Int),.int .i64 (nm:Int),.int .i64 ring,.int .i64 sl,.slice fa nf fc,.slice ca nc cc,.int .i64 (lk:Int),.slice ka nk kc,.slice (some ⟨gsg,0,none⟩) 1 1,.int .u64 0,.slice cha chn chc,.slice loa lon loc,.slice none 0 0,.int .u64 0,.slice none 0 0,.int .i64 0,.int .i64 0,.slice none 0 0,.slice none 0 0,.slice none 0 0,.slice (some ⟨gb,0,none⟩) 1 1,.slice na nn nnc,.slice none 0 0,.bool false,.bool false,.slice none 0 0,.int .i64 0]) (o3.pick 1 rfl) rfl
    have ht:=((o3.pick 1 rfl).zi 0 rfl).there 27 (Nat.le_refl _)
    refine zh 7 _ (Qj 8 255) 0 (by kernel_rfl) (fun K hK=>?_)
    have HKK:=Qq hK;clear hK;simp only[QQ,QJ];refine zc (by rfl) ?_;refine wp_store_mid _ _ _ (by rfl) b3 0 #[.int .i64 (np:Int),.int .i64 (nm:Int),.int .i64 ring,.int .i64 sl,.slice fa nf fc,.slice ca nc cc,.int .i64 (lk:Int),.slice ka nk kc,.slice (some ⟨gsg,0,none⟩) 1 1,.int .u64 0,.slice cha chn chc,.slice loa lon loc,.slice none 0 0,.int .u64 0,.slice none 0 0,.int .i64 0,.int .i64 0,.slice none 0 0,.slice none 0 0,.slice none 0 0,.slice (some ⟨gb,0,none⟩) 1 1,.slice na nn nnc,.slice none 0 0,.bool false,.bool false,.slice none 0 0,.int .i64 0] (by rfl) (by rfl) ht (by kernel_rfl) (by simp[Value.oneCell']) ?_
    refine HKK.out _ _ (SB.out _ [_,_] o4) ?_
    clear HKK K;clear ht;refine wpAnyH_done (by kernel_rfl) (NoPanic.normal ?_) _
    go_wp2_with fail;go_meet;exact⟨b3,gb,gsg,cha,chn,chc,loa,lon,loc,rfl,Qq o4⟩
   ·skip
    have HKK:=Qq hK;clear hK;simp only[QQ,QJ];refine zc (by rfl) ?_;go_simp;have o2:=o1.alloc [.int .i64 0] 3 rfl
    refine HKK.out _ _ (SB.out _ [_,_] o2) ?_
    clear HKK K;generalize w4.alloc _=w5 at *;generalize w4.heap.size=gb at *;refine zh 2 _ (Qj 8 95) 2 (by kernel_rfl) (fun K hK=>?_)
    have HKK:=Qq hK;clear hK;simp only[QQ,QJ];refine zc (by rfl) ?_;go_simp;refine(C16.out _ (HC.out.below o2.bel)).mono ?_
    rintro r w6 ⟨⟨gsg,cha,chn,chc,loa,lon,loc,rfl⟩,hb⟩;have o3:=o2.step hb;clear hb;refine HKK.out _ _ (SB.out _ [_,_] o3) ?_
    clear HKK K;refine zm 5 1 _ (Qj 8 127) 1 (by kernel_rfl) za (SB.out _ [_,_] o3) (by kernel_rfl) ?_
    simp only[QX,QV,QQ,QJ];(repeat((first|refine Qx (h:=?_)|refine Qv (h:=?_));simp only[Act.put,QW,QY,QZ]));refine zb ?_;have o4:=Own.Yb (vs:=[.int .i64 (np:Int),.int .i64 (nm:Int),.int .i64 ring,.int .i64 sl,.slice fa nf fc,.slice ca nc cc,.int .i64 (lk:Int),.slice ka nk kc,.slice (some ⟨gsg,0,none⟩) 1 1,.int .u64 0,.slice cha chn chc,.slice loa lon loc,.slice none 0 0,.int .u64 0,.slice none 0 0,.int .i64 0,.int .i64 0,.slice none 0 0,.slice none 0 0,.slice none 0 0,.slice (some ⟨gb,0,none⟩) 1 1,.slice na nn nnc,.slice none 0 0,.bool false,.bool false,.slice none 0 0,.int .i64 0]) (o3.pick 1 rfl) rfl
    have ht:=((o3.pick 1 rfl).zi 0 rfl).there 27 (Nat.le_refl _)
    refine zh 7 _ (Qj 8 255) 0 (by kernel_rfl) (fun K hK=>?_)
    have HKK:=Qq hK;clear hK;simp only[QQ,QJ];refine zc (by rfl) ?_;refine wp_store_mid _ _ _ (by rfl) b3 0 #[.int .i64 (np:Int),.int .i64 (nm:Int),.int .i64 ring,.int .i64 sl,.slice fa nf fc,.slice ca nc cc,.int .i64 (lk:Int),.slice ka nk kc,.slice (some ⟨gsg,0,none⟩) 1 1,.int .u64 0,.slice cha chn chc,.slice loa lon loc,.slice none 0 0,.int .u64 0,.slice none 0 0,.int .i64 0,.int .i64 0,.slice none 0 0,.slice none 0 0,.slice none 0 0,.slice (some ⟨gb,0,none⟩) 1 1,.slice na nn nnc,.slice none 0 0,.bool false,.bool false,.slice none 0 0,.int .i64 0] (by rfl) (by rfl) ht (by kernel_rfl) (by simp[Value.oneCell']) ?_
    refine HKK.out _ _ (SB.out _ [_,_] o4) ?_
    clear HKK K;clear ht;refine wpAnyH_done (by kernel_rfl) (NoPanic.normal ?_) _
    go_wp2_with fail;go_meet;exact⟨b3,gb,gsg,cha,chn,chc,loa,lon,loc,rfl,Qq o4⟩
 case rest =>
  obtain⟨b3,gb,gsg,cha,chn,chc,loa,lon,loc,rfl,HR⟩:=hcut;clear SB O1 C16 HC;have H1:Hid (∃xs,Own w wc (zd 5 none 0 0 xs::ze b3 (Tb (YJ np nm ring sl) (ZS fa ca ka nf fc nc cc nk kc lk) (XM na nn nnc) (.slice (some ⟨gsg,0,none⟩) 1 1) (.slice cha chn chc) (.slice loa lon loc) (.slice none 0 0) (.slice none 0 0) (.slice (some ⟨gb,0,none⟩) 1 1))::ze gb [.int .i64 0]::ze cb (YJ np nm ring sl)::ze pb (ZS fa ca ka nf fc nc cc nk kc lk)::ze db (XM na nn nnc)::ze ob Sg::[])):=Qq ⟨[],HR.out.add (Below.refl _ _) (A:=zd 5 none 0 0 []) (F:=[]) ⟨rfl,zT.nil 5 _⟩ (by simp)⟩
  clear HR;obtain⟨i0,hi1,hz0,hz1,hz2⟩:=info_parts SS;have Hi:=Qq hi1;clear hi1
  have Hz0:=Qq hz0;clear hz0
  have Hz1:=Qq hz1;clear hz1
  have Hz2:=Qq hz2;clear hz2
  go_wp2_with fail;go_loopw [8] (fun c wr=>∃i:Nat,∃pa pc,i≤np∧c=.int .i64 i∧Hid (∃xs,Own w wr (zd 5 pa pc i xs::ze b3 (Tb (YJ np nm ring sl) (ZS fa ca ka nf fc nc cc nk kc lk) (XM na nn nnc) (.slice (some ⟨gsg,0,none⟩) 1 1) (.slice cha chn chc) (.slice loa lon loc) (.slice pa i pc) (.slice none 0 0) (.slice (some ⟨gb,0,none⟩) 1 1))::ze gb [.int .i64 0]::ze cb (YJ np nm ring sl)::ze pb (ZS fa ca ka nf fc nc cc nk kc lk)::ze db (XM na nn nnc)::ze ob Sg::[]))) (fun c _=>np-(intOf c).toNat)
  case atStart=>exact⟨0,none,0,by omega,rfl,H1⟩
  case round =>
   obtain⟨i,pa,pc,hi,rfl,⟨xs,o1⟩⟩:=hrel;have c0:=(o1.zi 3 rfl 0 _ rfl).1
   by_cases hlt:i<np
   ·have HO:=Qq o1;clear o1
    go_upto_region 5 with fail
    clear c0;have o1:=HO.out.step (zg wr)
    have SB:Hid (∀(wx:World) (L:List zv),Own w wx (L++(ze b3 (Tb (YJ np nm ring sl) (ZS fa ca ka nf fc nc cc nk kc lk) (XM na nn nnc) (.slice (some ⟨gsg,0,none⟩) 1 1) (.slice cha chn chc) (.slice loa lon loc) (.slice pa i pc) (.slice none 0 0) (.slice (some ⟨gb,0,none⟩) 1 1))::ze gb [.int .i64 0]::ze cb (YJ np nm ring sl)::ze pb (ZS fa ca ka nf fc nc cc nk kc lk)::ze db (XM na nn nnc)::ze ob Sg::[]))→wx.cell? ⟨b3,18,none⟩=some (.slice pa i pc)∧wx.cell? ⟨cb,2,none⟩=some (.int .i64 ring)):=Qq (fun wx L h=>by
     have h:=Own.Zj h;exact⟨(h.zi 0 rfl 18 _ rfl).1,(h.zi 2 rfl 2 _ rfl).1⟩)
    refine xh (fun wx=>wx.cell? ⟨b3,18,none⟩=some (.slice pa i pc)∧wx.cell? ⟨cb,2,none⟩=some (.int .i64 ring)) 10 (Array.replicate 10 false) (by kernel_rfl) (by kernel_rfl) ?_
    generalize wr.drew=w3 at *;refine zF 0 4 _ (Qj 10 15) 6 (by kernel_rfl) za (SB.out _ [_] o1) (by kernel_rfl) ?_
    simp only[QX,QV,QJ];(repeat((first|refine Qx (h:=?_)|refine Qv (h:=?_));simp only[Act.put,QW,QY,QZ]));refine zb ?_;refine zM 4 _ (Qj 10 31) 5 (by kernel_rfl) (fun K hK=>?_)
    have HKK:=Qq hK;clear hK;simp only[QQ,QJ];refine zc (by rfl) ?_;go_simp;refine(Pw _ ring).mono ?_
    rintro r w4 ⟨⟨rm,rfl⟩,hb⟩;have o2:=o1.step hb;clear hb o1;refine HKK.out _ _ (SB.out _ [_] o2) ?_
    clear HKK K;refine zF 5 1 _ (Qj 10 63) 4 (by kernel_rfl) za (SB.out _ [_] o2) (by kernel_rfl) ?_
    simp only[QX,QV,QQ,QJ];(repeat((first|refine Qx (h:=?_)|refine Qv (h:=?_));simp only[Act.put,QW,QY,QZ]));refine zb ?_;refine zM 6 _ (Qj 10 127) 3 (by kernel_rfl) (fun K hK=>?_)
    have HKK:=Qq hK;clear hK;simp only[QQ,QJ];refine zc (by rfl) ?_;go_simp;have o3:=o2.step (below_alloc1 w4 (.cells #[.int .i64 (-1),.slice none 0 0,.int .i64 rm,.int .i64 0,.int .i64 (-1)] 150))
    refine HKK.out _ _ (SB.out _ [_] o3) ?_
    clear HKK K;refine zM 7 _ (Qj 10 255) 2 (by kernel_rfl) (fun K hK=>?_)
    have HKK:=Qq hK;clear hK;simp only[QQ,QJ];refine zc (by rfl) ?_;refine yx (n:=i) (m:=1) (cs:=xs) (ds:=[.int .i64 (-1),.slice none 0 0,.int .i64 rm,.int .i64 0,.int .i64 (-1)]) _ _ 42 (by rfl) 150 i0 _ Tryz.underlying42 Hi.out Hz0.out Hz1.out Hz2.out rfl (by omega) (by omega) (by rfl) (by rfl) (o3.xl 0 rfl) (zr.new _ [.int .i64 (-1),.slice none 0 0,.int .i64 rm,.int .i64 0,.int .i64 (-1)] _ rfl) rfl (by simp[Value.oneCell']) (by omega) ?_
    intro a9 c9 w9 k9 ch9 f9;have o4:=Own.yJ o3 k9 ch9 (fun x hx=>by simpa using f9 x hx)
    clear o2 o3 k9 ch9 f9;refine HKK.out _ _ (SB.out _ [_] o4) ?_
    clear HKK K;refine zF 8 1 _ (Qj 10 511) 1 (by kernel_rfl) za (SB.out _ [_] o4) (by kernel_rfl) ?_
    simp only[QX,QV,QQ,QJ];(repeat((first|refine Qx (h:=?_)|refine Qv (h:=?_));simp only[Act.put,QW,QY,QZ]));refine zb ?_;obtain⟨z6,f6⟩:=o4.zi 1 rfl 18 _ rfl;refine yG 9 _ (Qj 10 1023) (by kernel_rfl) (fun K hK=>?_)
    have HKK:=Qq hK;clear hK;simp only[QQ,QJ];refine zc (by rfl) ?_;go_simp;refine HKK.out _ _ (NoPanic.normal ?_)
    clear HKK K;have H5:Hid (∃xs,Own w (w9.setCell ⟨b3,18,none⟩ (.slice a9 (i+1) c9)) (zd 5 a9 c9 (i+1) xs::ze b3 (Tb (YJ np nm ring sl) (ZS fa ca ka nf fc nc cc nk kc lk) (XM na nn nnc) (.slice (some ⟨gsg,0,none⟩) 1 1) (.slice cha chn chc) (.slice loa lon loc) (.slice a9 (i+1) c9) (.slice none 0 0) (.slice (some ⟨gb,0,none⟩) 1 1))::ze gb [.int .i64 0]::ze cb (YJ np nm ring sl)::ze pb (ZS fa ca ka nf fc nc cc nk kc lk)::ze db (XM na nn nnc)::ze ob Sg::[])):=Qq ⟨_,o4.setAt 1 rfl 18 (.slice a9 (i+1) c9)⟩
    clear o4 z6 f6 SB HO;generalize w9.setCell ⟨b3,18,none⟩ (.slice a9 (i+1) c9)=w10 at *
    go_wp2;exact⟨⟨i+1,a9,c9,by omega,by go_num,H5⟩,by simp[intOf];omega⟩
   ·obtain rfl:i=np:=by omega
    have hkk:¬(i:Int)<(i:Int):=by omega
    clear H1 Hi Hz0 Hz1 Hz2 hlt hi;obtain⟨i0,hi1,hz0,hz1,hz2⟩:=info_parts RN;have Hi:=Qq hi1;clear hi1
    have Hz0:=Qq hz0;clear hz0
    have Hz1:=Qq hz1;clear hz1
    have Hz2:=Qq hz2;clear hz2
    have H1:Hid (∃ys,Own w wr (zd 3 none 0 0 ys::zd 5 pa pc i xs::ze b3 (Tb (YJ i nm ring sl) (ZS fa ca ka nf fc nc cc nk kc lk) (XM na nn nnc) (.slice (some ⟨gsg,0,none⟩) 1 1) (.slice cha chn chc) (.slice loa lon loc) (.slice pa i pc) (.slice none 0 0) (.slice (some ⟨gb,0,none⟩) 1 1))::ze gb [.int .i64 0]::ze cb (YJ i nm ring sl)::ze pb (ZS fa ca ka nf fc nc cc nk kc lk)::ze db (XM na nn nnc)::ze ob Sg::[])):=Qq ⟨[],o1.add (Below.refl _ _) (A:=zd 3 none 0 0 []) (F:=[]) ⟨rfl,zT.nil 3 _⟩ (by simp)⟩
    clear o1;go_wp2_with fail;go_loopw [9] (fun c w9=>∃j:Nat,∃ma mc,j≤nm∧c=.int .i64 j∧Hid (∃ys,Own w w9 (zd 3 ma mc j ys::zd 5 pa pc i xs::ze b3 (Tb (YJ i nm ring sl) (ZS fa ca ka nf fc nc cc nk kc lk) (XM na nn nnc) (.slice (some ⟨gsg,0,none⟩) 1 1) (.slice cha chn chc) (.slice loa lon loc) (.slice pa i pc) (.slice ma j mc) (.slice (some ⟨gb,0,none⟩) 1 1))::ze gb [.int .i64 0]::ze cb (YJ i nm ring sl)::ze pb (ZS fa ca ka nf fc nc cc nk kc lk)::ze db (XM na nn nnc)::ze ob Sg::[]))) (fun c _=>nm-(intOf c).toNat)
    case atStart=>exact⟨0,none,0,by omega,rfl,H1⟩
    case round =>
     clear c0;obtain⟨j,ma,mc,hj,rfl,⟨ys,o1⟩⟩:=hrel;have c1:=(o1.zi 4 rfl 1 _ rfl).1
     by_cases hjt:j<nm
     ·obtain⟨z9,f9⟩:=o1.zi 2 rfl 19 _ rfl
      have O2:=Qq (o1.step (below_alloc1 wr (.cells #[.int .i64 (-1),.int .i64 (-1),.int .i64 0] 151)))
      clear o1;go_wp2_with (at_builtin;go_loud (refine yk rfl _ _ 43 rfl 151 i0 _ Tryz.underlying43 Hi.out Hz0.out Hz1.out Hz2.out rfl (by decide) (by decide) (n:=j) (m:=1) (cs:=ys) (ds:=[.int .i64 (-1),.int .i64 (-1),.int .i64 0]) (by rfl) (by rfl) (O2.out.xl 0 rfl) (zr.new _ [.int .i64 (-1),.int .i64 (-1),.int .i64 0] _ rfl) rfl (by simp[Value.oneCell']) (by omega) ?_))
      intro a9 c9 w9 k9 ch9 q9;have o3:=Own.yJ O2.out k9 ch9 (fun x hx=>by simpa using q9 x hx)
      clear z9 f9 c1 k9 ch9 q9 O2;obtain⟨z9,f9⟩:=o3.zi 2 rfl 19 _ rfl;have H5:Hid (∃ys,Own w (w9.setCell ⟨b3,19,none⟩ (.slice a9 (j+1) c9)) (zd 3 a9 c9 (j+1) ys::zd 5 pa pc i xs::ze b3 (Tb (YJ i nm ring sl) (ZS fa ca ka nf fc nc cc nk kc lk) (XM na nn nnc) (.slice (some ⟨gsg,0,none⟩) 1 1) (.slice cha chn chc) (.slice loa lon loc) (.slice pa i pc) (.slice a9 (j+1) c9) (.slice (some ⟨gb,0,none⟩) 1 1))::ze gb [.int .i64 0]::ze cb (YJ i nm ring sl)::ze pb (ZS fa ca ka nf fc nc cc nk kc lk)::ze db (XM na nn nnc)::ze ob Sg::[])):=Qq ⟨_,o3.setAt 2 rfl 19 (.slice a9 (j+1) c9)⟩
      clear o3;go_wp2;exact⟨⟨j+1,a9,c9,by omega,by go_num,H5⟩,by simp[intOf];omega⟩
     ·obtain rfl:j=nm:=by omega
      have hjj:¬(j:Int)<(j:Int):=by omega
      have HO:=Qq o1;clear o1
      go_upto_region 10 with fail
      clear c1;have hrg:wr.rangeAt b3 0 [.int .i64 (i:Int),.int .i64 (j:Int),.int .i64 ring,.int .i64 sl,.slice fa nf fc,.slice ca nc cc,.int .i64 (lk:Int),.slice ka nk kc,.slice (some ⟨gsg,0,none⟩) 1 1,.int .u64 0,.slice cha chn chc,.slice loa lon loc,.slice none 0 0,.int .u64 0,.slice none 0 0,.int .i64 0,.int .i64 0,.slice none 0 0,.slice pa i pc,.slice ma j mc,.slice (some ⟨gb,0,none⟩) 1 1,.slice na nn nnc,.slice none 0 0,.bool false,.bool false,.slice none 0 0,.int .i64 0]:=(HO.out.zi 2 rfl).range
      have hth:=(HO.out.zi 7 rfl).there 27 (Nat.le_refl _)
      have o4:=Own.Yb (vs:=[.int .i64 (i:Int),.int .i64 (j:Int),.int .i64 ring,.int .i64 sl,.slice fa nf fc,.slice ca nc cc,.int .i64 (lk:Int),.slice ka nk kc,.slice (some ⟨gsg,0,none⟩) 1 1,.int .u64 0,.slice cha chn chc,.slice loa lon loc,.slice none 0 0,.int .u64 0,.slice none 0 0,.int .i64 0,.int .i64 0,.slice none 0 0,.slice pa i pc,.slice ma j mc,.slice (some ⟨gb,0,none⟩) 1 1,.slice na nn nnc,.slice none 0 0,.bool false,.bool false,.slice none 0 0,.int .i64 0]) (HO.out.pick 7 rfl) rfl
      have hgr:=(o4.zi 0 rfl).range
      have H4:=Qq (And.intro o4.bel hgr);clear o4 hgr
      go_wp2_with (first
       | (with_reducible refine wpList_load_mid rfl _ _ rfl _ _ rfl _ _ hrg Tryz.underlying48 rfl (by kernel_rfl) ?_)
       | (with_reducible refine wpList_store_mid rfl _ _ _ rfl _ _ _ rfl rfl hth (by kernel_rfl) (by simp[Value.oneCell']) ?_)
       | fail)
      have hgv:=run_loadVar_mid (P:=Tryz.prog) _ ob 0 48 _ _ H4.out.2 Tryz.underlying48 rfl (by kernel_rfl)
      exact bodyPost_ret (zu Tryz.results28 _ ⟨ob,0,none⟩ rfl hgv) rfl ⟨⟨gsg,cha,chn,chc,loa,lon,loc,pa,i,pc,ma,j,mc,gb,rfl⟩,by rw[←HQ.out] at *;exact H4.out.1⟩
theorem RA.FY {w:World}{fa:Option Addr}{nf fc:Nat}{ca:Option Addr}{nc cc:Nat}{lk:Int}{ka:Option Addr}{nk kc:Nat}{d:PD}(h:RA w fa nf fc ca nc cc lk ka nk kc d) :
  Calls Tryz.prog 22 #[.agg #[.slice fa nf fc,.slice ca nc cc,.int .i64 lk,.slice ka nk kc]] w fun r w'=>Hg w r w':=by
 obtain⟨h1,h2,h3,h4,h5,h6,h7,h8,h9,h10,h11⟩:=h;unfold maxLen at h6 h7;have:=Nn fa fc ca cc ka kc d w h8 h9 h10 h11 (by rw[h1];exact h5.1) h5.2 (by omega) (by omega)
 rw[h1,h2,h3,h4] at this;exact this
theorem results3 {P:Program}{fn:Func}{t1 p t2:Tmp}{ty:TypeId}{v:Value}{w w':World}(h:fn.results=#[.tmp t1,.cell p ty,.tmp t2])(tmps:Array Value)(a:Addr)(hp:tmps.getD p undef=.pointer (some a))(hl:(loadVar ty a).run P w=.ok v w') :
  (results fn tmps).run P w=.ok (.tuple #[tmps.getD t1 undef,v,tmps.getD t2 undef]) w':=by
 have hp':tmps[p]?.getD undef=.pointer (some a):=by simpa using hp
 simp[results,h,hp',asAddr,hl]
theorem Own.Ep {w0 w w':World}{As Bs:List zv}(h:Own w0 w As)(k:Own w w' Bs):Own w0 w' (Bs++As):=by
 obtain⟨hb,G,hG,hG2⟩:=h;obtain⟨kb,F,hF,hF2⟩:=k;refine⟨hb.trans (kb.mono hb.size),F++G,Sep.app hF (Sep.yE (zK.zO (F:=[]) kb) hG (fun _ _=>by simp)) (fun x hx hg=>?_),fun x hx=>?_⟩
 ·have:=hG.lt x hg;have:=hF2 x hx;omega
 ·rcases List.mem_append.1 hx with h|h
  ·exact Nat.le_trans hb.size (hF2 x h)
  ·exact hG2 x h
def Ha (fa:Option Addr)(fc:Nat)(ca:Option Addr)(cc:Nat)(ka:Option Addr)(kc:Nat)(rs:List Fr)(cs:List Int)(ks:List T6):List zv:=zd 1 fa fc rs.length (WN rs)::zd 1 ca cc cs.length (zt cs)::zd 3 ka kc ks.length (ZW ks)::fns rs
def R3 (rs:List Fr)(cs:List Int)(lk:Nat)(ks:List T6):PD:=⟨rs.map (·.l),cs,(lk:Int),ks⟩
theorem Gc {w0 w:World}{fa ca ka:Option Addr}{fc cc kc lk:Nat}{rs:List Fr}{cs:List Int}{ks:List T6}{L R:List zv}(h:Own w0 w (L++(Ha fa fc ca cc ka kc rs cs ks++R))):JZ w fa ca ka (R3 rs cs lk ks):=by
 have h:=Own.Zj h;have h1:Own w0 w (zd 1 fa fc rs.length (WN rs)::zd 1 ca cc cs.length (zt cs)::zd 3 ka kc ks.length (ZW ks)::(fns rs++R)):=h
 exact⟨Own.Gb (As:=[]) h1.drop.drop.drop (h1.xl 0 rfl),yT.Xz (h1.xl 1 rfl).cells,Yc.Xz (h1.xl 2 rfl).cells⟩
theorem JB {w0 w:World}{O S C P B Rb:zv}{G R:List zv}(h:Own w0 w (O::S::C::P::B::(G++(Rb::R)))):Own w0 w (S::C::(G++R)):=by
 have h2:Own w0 w ([P,B]++([S,C]++(G++(Rb::R)))):=h.drop.perm (List.perm_append_comm_assoc [S,C] [P,B] _)
 have h3:Own w0 w ((S::C::G)++Rb::R):=h2.drop.drop
 exact(h3.perm List.perm_middle).drop
theorem LB {w0 w:World}{R:List zv}(h:Own w0 w R)(fa:Option Addr)(nf fc:Nat)(ca:Option Addr)(nc cc:Nat)(lk:Int)(ka:Option Addr)(nk kc:Nat)(d:PD)(hd:RA w fa nf fc ca nc cc lk ka nk kc d)(np nm:Nat)(ring sl:Int)(hnp:np≤1000)(hnm:nm≤1000)(na:Option Addr)(nn nnc:Nat)(nums:List Nat)(hnn:nn=nums.length)(hn:zr w na (Zl nums))(hn0:na=none→nums.length=0∧nnc=0)(hnl:nums.length≤1000) :
  Calls Tryz.prog 7 #[.agg #[.slice fa nf fc,.slice ca nc cc,.int .i64 lk,.slice ka nk kc],.agg #[.int .i64 (np:Int),.int .i64 (nm:Int),.int .i64 ring,.int .i64 sl],.slice na nn nnc] w fun r w'=>∃b sp pa pc qa qc ua uc rs cs ks lk',PW (R3 rs cs lk' ks).fs ks cs.length lk'∧(cs.length≤4∧ks.length≤8∧lk'≤3∧1≤rs.length∧rs.length≤5)∧(∃v1 v2 v3 v4 v5 v6 v7 v8 v9 v10 v11 v12 v13 v14,r=.returned (.tuple #[.pointer (some ⟨b,0,none⟩),.agg (Tb (YJ np nm ring sl) (ZS pa qa ua rs.length pc cs.length qc ks.length uc lk') (XM na nn nnc) (.slice (some ⟨v1,0,none⟩) 1 1) (.slice v2 v3 v4) (.slice v5 v6 v7) (.slice v8 v9 v10) (.slice v11 v12 v13) (.slice (some ⟨v14,0,none⟩) 1 1)).toArray,.pointer (some ⟨sp,0,none⟩)])) ∧
   Own w0 w' (Zb b sp (Zy (Za (R3 rs cs lk' ks).fs ks cs lk') np nm ring sl)::x5 sp 0 ⟨[],nums,[]⟩ .nilFunc::(Ha pa pc qa qc ua uc rs cs ks++R)):=by
 have HD:=Qq hd;clear hd
 have HN:=Qq (And.intro hn hn0);clear hn hn0
 have HNN:=Qq hnn;have hnl2:nn≤1000:=by omega
 clear hnn;have O0:=Qq (((h.alloc [.slice fa nf fc,.slice ca nc cc,.int .i64 lk,.slice ka nk kc] 26 (b:=w.heap.size) rfl).alloc (YJ np nm ring sl) 28 (b:=w.heap.size+1) (by simp)).alloc Sg 48 (b:=w.heap.size+1+1) (by simp))
 go_enter Tryz.func7,Tryz.ntmps7
 go_upto_region 1 with fail
 generalize hwx:((w.alloc (.cells #[.slice fa nf fc,.slice ca nc cc,.int .i64 lk,.slice ka nk kc] 26)).alloc (.cells #[.int .i64 (np:Int),.int .i64 (nm:Int),.int .i64 ring,.int .i64 sl] 28)).alloc (.cells #[.int .i64 0,.int .i64 0,.int .i64 0,.int .i64 0,.slice none 0 0,.slice none 0 0,.int .i64 0,.slice none 0 0,.slice none 0 0,.int .u64 0,.slice none 0 0,.slice none 0 0,.slice none 0 0,.int .u64 0,.slice none 0 0,.int .i64 0,.int .i64 0,.slice none 0 0,.slice none 0 0,.slice none 0 0,.slice none 0 0,.slice none 0 0,.slice none 0 0,.bool false,.bool false,.slice none 0 0,.int .i64 0] 48)=wX
 have o1:Own w0 wX (ze (w.heap.size+1+1) Sg::ze (w.heap.size+1) (YJ np nm ring sl)::ze w.heap.size [.slice fa nf fc,.slice ca nc cc,.int .i64 lk,.slice ka nk kc]::R):=by rw[←hwx];exact O0.out
 have hb1:Below w.heap.size w wX:=by
  rw[←hwx];exact((below_alloc1 w _).alloc (by simp) _).alloc (by simp;omega) _
 clear O0 hwx;have HX:=Qq (HD.out.below hb1).FY;clear HD
 have HN1:=Qq (And.intro (HN.out.1.below hb1) HN.out.2);clear HN hb1
 generalize w.heap.size+1+1=ob at *
 generalize w.heap.size+1=cb at *
 generalize w.heap.size=rb at *;have O1:=Qq o1;obtain⟨x0,-⟩:=o1.zi 2 rfl 0 _ rfl;obtain⟨x1,-⟩:=o1.zi 2 rfl 1 _ rfl;obtain⟨x2,-⟩:=o1.zi 2 rfl 2 _ rfl;obtain⟨x3,-⟩:=o1.zi 2 rfl 3 _ rfl;clear o1;go_wp2_with fail;refine HX.out.mono ?_
 rintro r wS ⟨pa,pc,rs,qa,qc,cs,ua,uc,ks,lk1,rfl,hrl,hpo,hcj,hfn,hS⟩;clear x0 x1 x2 x3 HX;obtain⟨lk',rfl⟩:∃n:Nat,lk1=(n:Int):=⟨lk1.toNat,by rw[Int.toNat_of_nonneg hpo.2.2.1]⟩
 have hpw:PW (R3 rs cs lk' ks).fs ks cs.length lk':=Em (by show 1≤(rs.map (·.l)).length∧(rs.map (·.l)).length≤5;rw[List.length_map];exact hrl) hpo hcj (fun l hl=>by
  obtain⟨r,hr,rfl⟩:=List.mem_map.1 hl;have:=hfn r hr
  show Iv (rs.map (·.l)).length _ _ _ _
  rw[List.length_map];exact this)
 have hne:∀l∈(R3 rs cs lk' ks).fs,1≤l.length∧l.length≤20:=fun l hl=>by
  obtain⟨r,hr,rfl⟩:=List.mem_map.1 hl;exact⟨(hfn r hr).1,(hfn r hr).2.1⟩
 have HPW:=Qq (And.intro hpw (And.intro hne (And.intro hrl hpo)));clear hpw hne hpo hcj hfn hrl
 have o2:Own w0 wS (Ha pa pc qa qc ua uc rs cs ks++(ze ob Sg::ze cb (YJ np nm ring sl)::ze rb [.slice fa nf fc,.slice ca nc cc,.int .i64 lk,.slice ka nk kc]::R)):=O1.out.Ep hS
 have HN2:=Qq (And.intro (HN1.out.1.below hS.bel) HN1.out.2);clear HN1
 have o3:=(o2.perm (List.perm_append_comm_assoc _ [ze ob Sg,ze cb (YJ np nm ring sl)] _)).alloc (ZS pa qa ua rs.length pc cs.length qc ks.length uc lk') 26 (b:=wS.heap.size) rfl
 have o4:Own w0 (wS.alloc (.cells (ZS pa qa ua rs.length pc cs.length qc ks.length uc lk').toArray 26)) (ze wS.heap.size (ZS pa qa ua rs.length pc cs.length qc ks.length uc lk')::ze cb (YJ np nm ring sl)::ze ob Sg::(Ha pa pc qa qc ua uc rs cs ks++(ze rb [.slice fa nf fc,.slice ca nc cc,.int .i64 lk,.slice ka nk kc]::R))):=o3.perm ((List.Perm.swap _ _ _).cons _)
 have O4:=Qq o4;have HN3:=Qq (And.intro (HN2.out.1.below (below_alloc1 wS (.cells (ZS pa qa ua rs.length pc cs.length qc ks.length uc lk').toArray 26))) HN2.out.2)
 clear o2 o3 o4 hS HN2 O1;go_upto_region 2 with fail
 have e0:wS.alloc (.cells #[.slice pa rs.length pc,.slice qa cs.length qc,.int .i64 (lk':Int),.slice ua ks.length uc] 26)=wS.alloc (.cells (ZS pa qa ua rs.length pc cs.length qc ks.length uc lk').toArray 26):=rfl
 rw[e0];clear e0;generalize wS.alloc (.cells (ZS pa qa ua rs.length pc cs.length qc ks.length uc lk').toArray 26)=wP at *
 generalize wS.heap.size=pb at *;have hon:=S9 O4.out na nnc nums HN3.out.1 HN3.out.2 (by omega)
 rw[←HNN.out] at hon;go_wp2_with fail;refine hon.mono ?_
 rintro r wo ⟨sp,rfl,o5,-⟩
 clear hon HN3 O4;have SB:Hid (∀(wx:World) (L:List zv),Own w0 wx (L++(ze pb (ZS pa qa ua rs.length pc cs.length qc ks.length uc lk')::ze cb (YJ np nm ring sl)::ze ob Sg::(Ha pa pc qa qc ua uc rs cs ks++(ze rb [.slice fa nf fc,.slice ca nc cc,.int .i64 lk,.slice ka nk kc]::R))))→wx.cell? ⟨pb,0,none⟩=some (.slice pa rs.length pc)∧wx.cell? ⟨pb,1,none⟩=some (.slice qa cs.length qc)∧wx.cell? ⟨pb,2,none⟩=some (.int .i64 (lk':Int))∧wx.cell? ⟨pb,3,none⟩=some (.slice ua ks.length uc)∧wx.cell? ⟨cb,0,none⟩=some (.int .i64 (np:Int))∧wx.cell? ⟨cb,1,none⟩=some (.int .i64 (nm:Int))∧wx.cell? ⟨cb,2,none⟩=some (.int .i64 ring)∧wx.cell? ⟨cb,3,none⟩=some (.int .i64 sl)) :=
  Qq (fun wx L h=>by
   have h:=Own.Zj h;exact⟨(h.zi 0 rfl 0 _ rfl).1,(h.zi 0 rfl 1 _ rfl).1,(h.zi 0 rfl 2 _ rfl).1,(h.zi 0 rfl 3 _ rfl).1,(h.zi 1 rfl 0 _ rfl).1,(h.zi 1 rfl 1 _ rfl).1,(h.zi 1 rfl 2 _ rfl).1,(h.zi 1 rfl 3 _ rfl).1⟩)
 have PT:Hid (∀(wx:World) (L:List zv),Own w0 wx (L++(ze pb (ZS pa qa ua rs.length pc cs.length qc ks.length uc lk')::ze cb (YJ np nm ring sl)::ze ob Sg::(Ha pa pc qa qc ua uc rs cs ks++(ze rb [.slice fa nf fc,.slice ca nc cc,.int .i64 lk,.slice ka nk kc]::R))))→JZ wx pa qa ua (R3 rs cs lk' ks)):=Qq (fun wx L h=>Gc (L:=[ze pb _,ze cb _,ze ob _]) (Own.Zj h))
 have c1:∀wx:World,JZ wx pa qa ua (R3 rs cs lk' ks)→Calls Tryz.prog 13 #[.agg #[.slice pa rs.length pc,.slice qa cs.length qc,.int .i64 (lk':Int),.slice ua ks.length uc]] wx fun e w'=>∃fa' fc' ca' cc' ka' kc',e=.returned (.agg #[.slice fa' rs.length fc',.slice ca' cs.length cc',.int .i64 (lk':Int),.slice ka' ks.length kc'])∧JZ w' fa' ca' ka' (R3 rs cs lk' ks)∧Below wx.heap.size wx w'∧(ka'=none→kc'=0):=fun wx hx=>by
  have hq:=Mz pa pc qa qc ua uc (R3 rs cs lk' ks) wx hx (by show(rs.map (·.l)).length≤_;rw[List.length_map];have:=HPW.out.2.2.1;omega) (fun f hf=>by have:=HPW.out.2.1 f hf;omega) (by show cs.length≤_;have:=HPW.out.2.2.2.1;omega) (by show ks.length≤_;have:=HPW.out.2.2.2.2.1;omega)
  have e:(R3 rs cs lk' ks).fs.length=rs.length:=List.length_map _
  rw[e] at hq;exact hq
 have C1:=Qq c1;clear c1
 have c2:∀(wx:World) (As:List zv) (fa':Option Addr) (fc':Nat) (ca':Option Addr) (cc':Nat) (ka':Option Addr) (kc':Nat),Own w0 wx As→JZ wx fa' ca' ka' (R3 rs cs lk' ks)→(ka'=none→kc'=0)→Calls Tryz.prog 12 #[.agg #[.slice fa' rs.length fc',.slice ca' cs.length cc',.int .i64 (lk':Int),.slice ka' ks.length kc'],.agg #[.int .i64 (np:Int),.int .i64 (nm:Int),.int .i64 ring,.int .i64 sl],.pointer (some ⟨sp,0,none⟩)] wx fun r w'=>∃b,r=.returned (.pointer (some ⟨b,0,none⟩))∧Own w0 w' (Zb b sp (Zy (Za (R3 rs cs lk' ks).fs ks cs lk') np nm ring sl)::As):=fun wx As fa' fc' ca' cc' ka' kc' ho hp hk=>by
  have e:(R3 rs cs lk' ks).fs.length=rs.length:=List.length_map _
  obtain⟨fr,hpr⟩:=NX hp hk (fun l hl=>by have:=HPW.out.2.1 l hl;omega) (by rw[e];have:=HPW.out.2.2.1;omega) (by show cs.length≤_;have:=HPW.out.2.2.2.1;omega) (by show ks.length≤_;have:=HPW.out.2.2.2.2.1;omega)
  have hq:=Ra ho fa' fc' fr (R3 rs cs lk' ks).fs ca' cc' cs lk' ka' kc' ks hpr (by have:=HPW.out.2.2.2;unfold TX at this;omega) np nm ring sl hnp hnm sp
  rw[e] at hq;exact hq
 have C2:=Qq c2;clear c2
 have c3:∀wx:World,yT wx qa cs→Calls Tryz.prog 28 #[.agg #[.slice pa rs.length pc,.slice qa cs.length qc,.int .i64 (lk':Int),.slice ua ks.length uc],.agg #[.int .i64 (np:Int),.int .i64 (nm:Int),.int .i64 ring,.int .i64 sl],.agg #[.slice na nn nnc,.slice none 0 0,.bool false,.bool false,.slice none 0 0]] wx fun e w'=>(∃v1 v2 v3 v4 v5 v6 v7 v8 v9 v10 v11 v12 v13 v14,e=.returned (.agg #[.int .i64 (np:Int),.int .i64 (nm:Int),.int .i64 ring,.int .i64 sl,.slice pa rs.length pc,.slice qa cs.length qc,.int .i64 (lk':Int),.slice ua ks.length uc,.slice (some ⟨v1,0,none⟩) 1 1,.int .u64 0,.slice v2 v3 v4,.slice v5 v6 v7,.slice none 0 0,.int .u64 0,.slice none 0 0,.int .i64 0,.int .i64 0,.slice none 0 0,.slice v8 v9 v10,.slice v11 v12 v13,.slice (some ⟨v14,0,none⟩) 1 1,.slice na nn nnc,.slice none 0 0,.bool false,.bool false,.slice none 0 0,.int .i64 0]))∧Below wx.heap.size wx w':=fun wx hx =>
  Po wx pa qa ua rs.length pc qc ks.length uc lk' cs hx (by have:=HPW.out.2.2.2.1;omega) (by have:=HPW.out.2.2.2;unfold TX at this;omega) np nm ring sl hnp hnm na nn nnc
 have C3:=Qq c3;clear c3
 have O5:=Qq o5;clear o5
 go_upto_region 3 with fail
 have o0:=O5.out.step (zg wo)
 clear O5;refine zV (fun wx=>wx.cell? ⟨pb,0,none⟩=some (.slice pa rs.length pc)∧wx.cell? ⟨pb,1,none⟩=some (.slice qa cs.length qc)∧wx.cell? ⟨pb,2,none⟩=some (.int .i64 (lk':Int))∧wx.cell? ⟨pb,3,none⟩=some (.slice ua ks.length uc)∧wx.cell? ⟨cb,0,none⟩=some (.int .i64 (np:Int))∧wx.cell? ⟨cb,1,none⟩=some (.int .i64 (nm:Int))∧wx.cell? ⟨cb,2,none⟩=some (.int .i64 ring)∧wx.cell? ⟨cb,3,none⟩=some (.int .i64 sl)) 14 (Array.replicate 14 false) (by kernel_rfl) (by kernel_rfl) ?_
 generalize wo.drew=w3 at *;refine zm 0 1 _ (Qj 14 1) 13 (by kernel_rfl) za (SB.out _ [_] o0) (by kernel_rfl) ?_
 simp only[QX,QV,QJ];(repeat((first|refine Qx (h:=?_)|refine Qv (h:=?_));simp only[Act.put,QW,QY,QZ]));refine zb ?_;refine zm 2 2 _ (Qj 14 13) 11 (by kernel_rfl) za (SB.out _ [_] o0) (by kernel_rfl) ?_
 simp only[QX,QV,QQ,QJ];(repeat((first|refine Qx (h:=?_)|refine Qv (h:=?_));simp only[Act.put,QW,QY,QZ]));refine zb ?_;refine zm 5 4 _ (Qj 14 493) 7 (by kernel_rfl) za (SB.out _ [_] o0) (by kernel_rfl) ?_
 simp only[QX,QV,QQ,QJ];(repeat((first|refine Qx (h:=?_)|refine Qv (h:=?_));simp only[Act.put,QW,QY,QZ]));refine zb ?_;refine zm 10 1 _ (Qj 14 1517) 6 (by kernel_rfl) za (SB.out _ [_] o0) (by kernel_rfl) ?_
 simp only[QX,QV,QQ,QJ];(repeat((first|refine Qx (h:=?_)|refine Qv (h:=?_));simp only[Act.put,QW,QY,QZ]));refine zb ?_;refine zh 1 _ (Qj 14 1519) 5 (by kernel_rfl) (fun K hK=>?_)
 have HKK:=Qq hK;clear hK;simp only[QQ,QJ];refine zc (by rfl) ?_;go_simp;refine(C1.out _ (PT.out _ [_] o0)).mono ?_
 rintro r w4 ⟨fa',fc',ca',cc',ka',kc',rfl,hpt,hb,hk0⟩;have o1:=o0.step hb;clear o0 hb;refine HKK.out _ _ (SB.out _ [_] o1) ?_
 clear HKK K;refine zh 4 _ (Qj 14 1535) 4 (by kernel_rfl) (fun K hK=>?_)
 have HKK:=Qq hK;clear hK;simp only[QQ,QJ];refine zc (by rfl) ?_;go_simp;refine(C2.out _ _ fa' fc' ca' cc' ka' kc' o1 hpt hk0).mono ?_
 rintro r w5 ⟨b,rfl,o2⟩;clear o1 hpt hk0;refine HKK.out _ _ (SB.out _ [_,_] o2) ?_
 clear HKK K;refine zh 9 _ (Qj 14 2047) 3 (by kernel_rfl) (fun K hK=>?_)
 have HKK:=Qq hK;clear hK;simp only[QQ,QJ];refine zc (by rfl) ?_;go_simp;refine(C3.out _ (PT.out _ [_,_] o2).2.1).mono ?_
 rintro r w6 ⟨⟨v1,v2,v3,v4,v5,v6,v7,v8,v9,v10,v11,v12,v13,v14,rfl⟩,hb⟩;have o3:=o2.step hb;clear o2 hb;refine HKK.out _ _ (SB.out _ [_,_] o3) ?_
 clear HKK K;refine zm 11 1 _ (Qj 14 4095) 2 (by kernel_rfl) za (SB.out _ [_,_] o3) (by kernel_rfl) ?_
 simp only[QX,QV,QQ,QJ];(repeat((first|refine Qx (h:=?_)|refine Qv (h:=?_));simp only[Act.put,QW,QY,QZ]));refine zb ?_;have o4:=Own.Yb (vs:=[.int .i64 (np:Int),.int .i64 (nm:Int),.int .i64 ring,.int .i64 sl,.slice pa rs.length pc,.slice qa cs.length qc,.int .i64 (lk':Int),.slice ua ks.length uc,.slice (some ⟨v1,0,none⟩) 1 1,.int .u64 0,.slice v2 v3 v4,.slice v5 v6 v7,.slice none 0 0,.int .u64 0,.slice none 0 0,.int .i64 0,.int .i64 0,.slice none 0 0,.slice v8 v9 v10,.slice v11 v12 v13,.slice (some ⟨v14,0,none⟩) 1 1,.slice na nn nnc,.slice none 0 0,.bool false,.bool false,.slice none 0 0,.int .i64 0]) (o3.pick 4 rfl) rfl
 have ht:=(o3.zi 4 rfl).there 27 (Nat.le_refl _)
 refine zh 12 _ (Qj 14 8191) 1 (by kernel_rfl) (fun K hK=>?_)
 have HKK:=Qq hK;clear hK;simp only[QQ,QJ];refine zc (by rfl) ?_;refine wp_store_mid _ _ _ (by rfl) ob 0 #[.int .i64 (np:Int),.int .i64 (nm:Int),.int .i64 ring,.int .i64 sl,.slice pa rs.length pc,.slice qa cs.length qc,.int .i64 (lk':Int),.slice ua ks.length uc,.slice (some ⟨v1,0,none⟩) 1 1,.int .u64 0,.slice v2 v3 v4,.slice v5 v6 v7,.slice none 0 0,.int .u64 0,.slice none 0 0,.int .i64 0,.int .i64 0,.slice none 0 0,.slice v8 v9 v10,.slice v11 v12 v13,.slice (some ⟨v14,0,none⟩) 1 1,.slice na nn nnc,.slice none 0 0,.bool false,.bool false,.slice none 0 0,.int .i64 0] (by rfl) (by rfl) ht (by kernel_rfl) (by simp[Value.oneCell']) ?_
 have SB2:Hid (∀wx:World,Own w0 wx (ze ob [.int .i64 (np:Int),.int .i64 (nm:Int),.int .i64 ring,.int .i64 sl,.slice pa rs.length pc,.slice qa cs.length qc,.int .i64 (lk':Int),.slice ua ks.length uc,.slice (some ⟨v1,0,none⟩) 1 1,.int .u64 0,.slice v2 v3 v4,.slice v5 v6 v7,.slice none 0 0,.int .u64 0,.slice none 0 0,.int .i64 0,.int .i64 0,.slice none 0 0,.slice v8 v9 v10,.slice v11 v12 v13,.slice (some ⟨v14,0,none⟩) 1 1,.slice na nn nnc,.slice none 0 0,.bool false,.bool false,.slice none 0 0,.int .i64 0]::Zb b sp (Zy (Za (R3 rs cs lk' ks).fs ks cs lk') np nm ring sl)::x5 sp 0 ⟨[],nums,[]⟩ .nilFunc::ze pb (ZS pa qa ua rs.length pc cs.length qc ks.length uc lk')::ze cb (YJ np nm ring sl)::(Ha pa pc qa qc ua uc rs cs ks++(ze rb [.slice fa nf fc,.slice ca nc cc,.int .i64 lk,.slice ka nk kc]::R)))→wx.cell? ⟨pb,0,none⟩=some (.slice pa rs.length pc)∧wx.cell? ⟨pb,1,none⟩=some (.slice qa cs.length qc)∧wx.cell? ⟨pb,2,none⟩=some (.int .i64 (lk':Int))∧wx.cell? ⟨pb,3,none⟩=some (.slice ua ks.length uc)∧wx.cell? ⟨cb,0,none⟩=some (.int .i64 (np:Int))∧wx.cell? ⟨cb,1,none⟩=some (.int .i64 (nm:Int))∧wx.cell? ⟨cb,2,none⟩=some (.int .i64 ring)∧wx.cell? ⟨cb,3,none⟩=some (.int .i64 sl)) :=
  Qq (fun wx h=>⟨(h.zi 3 rfl 0 _ rfl).1,(h.zi 3 rfl 1 _ rfl).1,(h.zi 3 rfl 2 _ rfl).1,(h.zi 3 rfl 3 _ rfl).1,(h.zi 4 rfl 0 _ rfl).1,(h.zi 4 rfl 1 _ rfl).1,(h.zi 4 rfl 2 _ rfl).1,(h.zi 4 rfl 3 _ rfl).1⟩)
 refine HKK.out _ _ (SB2.out _ o4) ?_
 clear HKK K;refine zm 13 1 _ (Qj 14 16383) 0 (by kernel_rfl) za (SB2.out _ o4) (by kernel_rfl) ?_
 simp only[QX,QV,QQ,QJ];(repeat((first|refine Qx (h:=?_)|refine Qv (h:=?_));simp only[Act.put,QW,QY,QZ]));refine zb ?_;refine wpAnyH_done (by kernel_rfl) (NoPanic.normal ?_) _
 have hrg:=(o4.zi 0 rfl).range
 have hgv:=run_loadVar_mid (P:=Tryz.prog) _ ob 0 48 _ _ hrg Tryz.underlying48 rfl (by kernel_rfl)
 go_wp2_with fail;refine bodyPost_ret (results3 Tryz.results7 _ ⟨ob,0,none⟩ rfl hgv) rfl ⟨b,sp,pa,pc,qa,qc,ua,uc,rs,cs,ks,lk',HPW.out.1,⟨HPW.out.2.2.2.1,HPW.out.2.2.2.2.1,by have:=HPW.out.2.2.2.2.2.2.1;omega,HPW.out.2.2.1.1,HPW.out.2.2.1.2⟩,⟨v1,v2,v3,v4,v5,v6,v7,v8,v9,v10,v11,v12,v13,v14,rfl⟩,?_⟩
 exact JB o4
theorem RZ:∀(l:List Int) (X:Sd) (i:Nat),(yn X i l).W=X.W
 | [],X,i=>rfl
 | g::t,X,i=>RZ t _ i
theorem IY (X:Sd)(i:Nat):(nearM X i).1.W=X.W:=by
 unfold nearM;split
 ·rfl
 ·split<;>rfl
theorem Pp (X:Sd)(i v:Nat):(zz X i v).1.W=X.W:=by
 have h:(nearM (yQ X i) i).1.W=X.W:=IY _ _
 unfold zz;simp only
 split
 ·exact h
 ·split
  ·split<;>exact h
  ·exact h
theorem Jo (X:Sd)(m v:Nat):(yM X m v).1.W=X.W:=by
 unfold yM;simp only
 split
 ·rfl
 ·split<;>exact Pp _ _ _
theorem IJ (X:Sd)(m:Nat):(holdM X m).1.W=X.W:=by
 unfold holdM;split<;>rfl
theorem Ff (X:Sd)(m:Nat)(v:Int):(runM X m v).1.W=(zR X.W (X.m m).G v).1:=by
 have h:=RZ (zR X.W (X.m m).G v).2.2 { X with W:=(zR X.W (X.m m).G v).1 } (X.m m).P.toNat
 unfold runM;simp only
 split<;>exact h
theorem Iw (X:Sd)(m:Nat)(v:Int):(xp X m v).1.W=X.W∨(xp X m v).1.W=(yY X.W).1∨(m≠X.ms.length∧(X.m m).G ≠ -1∧(xp X m v).1.W=(zR X.W (X.m m).G v).1):=by
 unfold xp yd;split
 ·exact .inr (.inl rfl)
 ·rename_i hm
  split
  ·exact .inl (IJ X m)
  ·split
   ·exact .inl (Jo X m _)
   ·rename_i hG
    exact .inr (.inr ⟨hm,hG,Ff X m v⟩)
theorem ID {X:Sd}(h:xU X=0)(h2:X.W.en=0∨X.W.en=1∨X.W.en=2):X.W.en=0:=by
 unfold xU at h;rcases h2 with e|e|e
 ·exact e
 ·rw[if_pos e] at h;cases h
 ·rw[if_neg (by omega),if_pos e] at h;cases h
theorem Rq:∀(l:List It) (W:Wd),(wokeM W l).en=W.en
 | [],W=>rfl
 | x::l,W=>by unfold wokeM;exact(Rq l _).trans rfl
theorem KA (W:Wd):(yY W).1.en=W.en:=by
 unfold yY;split
 ·exact Rq _ _
 ·rfl
theorem O6 {B:Nat}{X:Sd}(h:yF B X)(hB:B≤80000)(hen:X7 X.W.en)(m:Nat)(v:Int):(xp X m v).1.W.ks=X.W.ks∧X7 (xp X m v).1.W.en:=by
 rcases Iw X m v with e|e|⟨-,-,e⟩
 ·rw[e];exact⟨rfl,hen⟩
 ·rw[e];exact⟨h.wf.tick.2.ks,by rw[KA];exact hen⟩
 ·rw[e];exact⟨(h.wf.exec hB _ _).2.ks,Jd hen _ _⟩
theorem Pb {sp kk:Nat}{S S':Src}{X X':Sd}{j B:Nat}{e:Ev}{k:Int}(hs:Vn (XI sp kk) S X j e k X' S')(h:yF B X)(hB:B≤80000)(hen:X7 X.W.en) :
  yF (B+X.W.ks.length+1) X'∧X'.W.ks=X.W.ks∧X7 X'.W.en∧(XI sp kk).ok j S'∧(k=0∨k=1∨k=2):=by
 rcases hs with⟨-,-,rfl,rfl,rfl,hok⟩|⟨hov,hok,⟨m,v,s1,hm,-,hf,-,rfl,rfl⟩|⟨r,-,-,-,hk,rfl⟩⟩
 ·exact⟨h.mono (by omega),rfl,hen,(XI sp kk).less j _ ((XI sp kk).less (j+1) _ hok),.inl rfl⟩
 ·have hz:=ID hov hen
  obtain⟨q1,q2⟩:=O6 h hB hen m v;refine⟨h.step hB hm hz (fun kd n ha=>?_),q1,q2,hok,.inl rfl⟩
  rcases hf with⟨h1,-⟩|⟨k2,n2,h1,h2,-⟩
  ·rw[ha] at h1;cases h1
  ·rw[ha] at h1;cases h1;exact h2
 ·exact⟨h.mono (by omega),rfl,hen,hok,.inr hk⟩
theorem M3 (sp:Nat):∀(s:(XI sp 0).T) (kd n:Int) (r:Ending) (s':(XI sp 0).T),(XI sp 0).Dp s kd n r s'→∃k u,YH r k u∧(k=1∨k=2):=by
 rintro s kd n r s' ⟨-,h|h⟩
 ·exact⟨1,uz,.inr (.inl ⟨h.2,rfl,rfl⟩),.inl rfl⟩
 ·exact⟨2,_,.inr (.inr ⟨_,_,_,_,h.2.2,rfl,rfl⟩),.inr rfl⟩
theorem KY {w:World}{a:Option Addr}{len cap:Nat}{zs:List Int}(h:IsRow .u64 w a len cap zs) :
  ∃l:List Nat,l.length=len∧len≤cap∧zr w a (Zl l)∧(∀n∈l,n<18446744073709551616)∧(a=none→len=0∧cap=0):=by
 have h0:a=none→len=0∧cap=0:=by
  intro ha;rcases h with⟨_,h1,h2,_⟩|⟨x,h1,_⟩
  ·exact⟨h1,h2⟩
  ·rw[ha] at h1;cases h1
 obtain⟨h1,h2,h3,h4⟩:=h.cells;refine⟨(zs.take len).map Int.toNat,by rw[List.length_map];exact h3,h1,fun j v hj=>?_,fun n hn=>?_,h0⟩
 ·have hl:j<(zs.take len).length:=by have:=(List.getElem?_eq_some_iff.1 hj).1;simpa [Zl] using this
  obtain⟨b,off,h5,h6,h7⟩:=h4 j hl;have b1:=bounds_u64 h7;have e:(Zl ((zs.take len).map Int.toNat))[j]?=some (.int .u64 (((zs.take len)[j].toNat:Nat):Int)):=by
   unfold Zl;rw[List.map_map,List.getElem?_map,List.getElem?_eq_getElem hl];rfl
  rw[e] at hj;cases hj
  exact⟨b,off,h5,by rw[h6,Int.toNat_of_nonneg b1.1]⟩
 ·obtain⟨z,hz,rfl⟩:=List.mem_map.1 hn
  obtain⟨i,hi,rfl⟩:=List.mem_iff_getElem.1 hz;obtain⟨_,_,_,_,h7⟩:=h4 i hi;have b1:=bounds_u64 h7;omega
end Go.Proofs.YtlkjheheofgdgaaGreat
open Go Go.RowKit Go.Deep Go.WideShapes Go.ChangeShapes
namespace Go.Proofs.YtlkjheheofgdgaaGreat
abbrev E9:=Int×Int×Int
def IL (w:World)(a:Option Addr)(l:List E9):Prop :=
 ∀i (h:i<l.length),∃b off,a=some ⟨b,off,none⟩∧w.cell? ⟨b,off+i*3,none⟩=some (.int .i64 l[i].1)∧w.cell? ⟨b,off+i*3+1,none⟩=some (.int .i64 l[i].2.1)∧w.cell? ⟨b,off+i*3+2,none⟩=some (.int .i64 l[i].2.2)
def Tk (z:Int):Prop:=-9223372036854775808≤z∧z≤9223372036854775807
def Ih (w:World)(a:Option Addr)(len cap:Nat)(l:List E9):Prop:=len=l.length∧len≤cap∧cap≤maxLen∧IL w a l∧∀r∈l,Tk r.1∧Tk r.2.1∧Tk r.2.2
theorem JT {α:Type}{n:Nat}{p:Nat→α→Prop}(h:∀i,i<n→∃x,p i x):∃l:List α,l.length=n∧∀i (h:i<l.length),p i l[i]:=by
 have hv:∀i:Fin n,∃x,p i.val x:=fun i=>h i.val i.isLt
 refine⟨List.ofFn fun i:Fin n=>Classical.choose (hv i),by simp,fun i h=>?_⟩
 simp at h
 simp only[List.getElem_ofFn];exact Classical.choose_spec (hv ⟨i,h⟩)
theorem PA {H:Type}{enc:TypeId×Value→H}{P:Program}{w:World}{base:Nat}{spare:Nat→Bool}{held:Bool}{t e:TypeId}{f0 f1 f2:Field}{fuel:Nat}{a:Option Addr}{len cap:Nat}{x:DataW H×List MemPlace}
  (ht:P.underlying t=some (.slice e)) (he:P.underlying e=some (.struct #[f0,f1,f2])) (ce:P.cellsOf e=3) (o0:f0.offset=0) (o1:f1.offset=1) (o2:f2.offset=2) (c0:P.cellsOf f0.type=1) (c1:P.cellsOf f1.type=1) (c2:P.cellsOf f2.type=1)
  (t0:P.underlying f0.type=some (.int .i64)) (t1:P.underlying f1.type=some (.int .i64)) (t2:P.underlying f2.type=some (.int .i64))
  (h:DataW.trod enc P w base spare held fuel t [.slice a len cap]=some x):∃l,Ih w a len cap l:=by
 rcases open_slice ht h with⟨hcs,_⟩|⟨b,l',c',m,n,D,Pl,hcs,_,hl,hm,hmm,_,hi⟩
 ·simp at hcs
  obtain⟨rfl,rfl,rfl⟩:=hcs;exact⟨[],rfl,Nat.le_refl _,Nat.zero_le _,fun i hi=>by simp at hi,fun r hr=>by simp at hr⟩
 ·simp at hcs
  obtain⟨rfl,rfl,rfl⟩:=hcs;have hlm:len≤m:=by rw[hmm];split<;>omega
  obtain⟨l,hll,hat⟩:=JT (p:=fun i (r:E9)=>w.cell? (b.add (i*3))=some (.int .i64 r.1)∧w.cell? (b.add (i*3+1))=some (.int .i64 r.2.1)∧w.cell? (b.add (i*3+2))=some (.int .i64 r.2.2)∧Tk r.1∧Tk r.2.1∧Tk r.2.2) (n:=len) (fun i hil=>by
   obtain⟨cs',h1,h2⟩:=hi i (by omega)
   rw[ce] at h1;obtain⟨_,hlen,hcell⟩:=World.cells?_some h1
   obtain⟨xs,k,hk,hxy,_,hxl,hf⟩:=DataW.trod_struct he h2;match xs,hxl,cs',hlen with
   | [y0,y1,y2],_,[v0,v1,v2],_ =>
    have g0:=hf 0 f0 rfl;have g1:=hf 1 f1 rfl;have g2:=hf 2 f2 rfl;simp[o0,o1,o2,c0,c1,c2] at g0 g1 g2
    have e0:=hcell 0 (by omega)
    have e1:=hcell 1 (by omega)
    have e2:=hcell 2 (by omega)
    rw[Addr.add_add] at e0 e1 e2;obtain⟨z0,q0,_,w0⟩:=DataW.trod_int t0 g0;obtain⟨z1,q1,_,w1⟩:=DataW.trod_int t1 g1;obtain⟨z2,q2,_,w2⟩:=DataW.trod_int t2 g2;simp at q0 q1 q2
    subst q0 q1 q2;exact⟨(z0,z1,z2),by simpa using e0,by simpa using e1,by simpa using e2,bounds_i64 w0,bounds_i64 w1,bounds_i64 w2⟩)
  refine⟨l,hll.symm,hl,hm,fun i h=>?_,fun r hr=>?_⟩
  ·obtain⟨g0,g1,g2,_⟩:=hat i h
   obtain⟨bb,off,spot⟩:=b;obtain rfl:spot=none:=by have:=(hat 0 (by omega)).1;simpa [Addr.add] using World.cell?_spot this
   rw[Go.WideShapes.add_plain] at g0 g1 g2;exact⟨bb,off,rfl,g0,by rw[Nat.add_assoc];exact g1,by rw[Nat.add_assoc];exact g2⟩
  ·obtain⟨i,h,rfl⟩:=List.mem_iff_getElem.1 hr
   exact(hat i h).2.2.2
abbrev EV:=Int×Int×Int×Int
def KB (k0 k1 k2 k3:IntKind)(w:World)(a:Option Addr)(l:List EV):Prop :=
 ∀i (h:i<l.length),∃b off,a=some ⟨b,off,none⟩∧w.cell? ⟨b,off+i*4,none⟩=some (.int k0 l[i].1)∧w.cell? ⟨b,off+i*4+1,none⟩=some (.int k1 l[i].2.1)∧w.cell? ⟨b,off+i*4+2,none⟩=some (.int k2 l[i].2.2.1)∧w.cell? ⟨b,off+i*4+3,none⟩=some (.int k3 l[i].2.2.2)
def Ka (k0 k1 k2 k3:IntKind)(w:World)(a:Option Addr)(len cap:Nat)(l:List EV):Prop:=len=l.length∧len≤cap∧cap≤maxLen∧KB k0 k1 k2 k3 w a l∧∀r∈l,(Lit.int k0 r.1).wf=true∧(Lit.int k1 r.2.1).wf=true∧(Lit.int k2 r.2.2.1).wf=true∧(Lit.int k3 r.2.2.2).wf=true
theorem KC {α:Type}{n:Nat}{p:Nat→α→Prop}(h:∀i,i<n→∃x,p i x):∃l:List α,l.length=n∧∀i (h:i<l.length),p i l[i]:=by
 have hv:∀i:Fin n,∃x,p i.val x:=fun i=>h i.val i.isLt
 refine⟨List.ofFn fun i:Fin n=>Classical.choose (hv i),by simp,fun i h=>?_⟩
 simp at h
 simp only[List.getElem_ofFn];exact Classical.choose_spec (hv ⟨i,h⟩)
theorem RY {H:Type}{enc:TypeId×Value→H}{k0 k1 k2 k3:IntKind}{P:Program}{w:World}{base:Nat}{spare:Nat→Bool}{held:Bool}{t e:TypeId}{f0 f1 f2 f3:Field}{fuel:Nat}{a:Option Addr}{len cap:Nat}{x:DataW H×List MemPlace}
  (ht:P.underlying t=some (.slice e)) (he:P.underlying e=some (.struct #[f0,f1,f2,f3])) (ce:P.cellsOf e=4) (o0:f0.offset=0) (o1:f1.offset=1) (o2:f2.offset=2) (o3:f3.offset=3) (c0:P.cellsOf f0.type=1) (c1:P.cellsOf f1.type=1) (c2:P.cellsOf f2.type=1) (c3:P.cellsOf f3.type=1)
  (t0:P.underlying f0.type=some (.int k0)) (t1:P.underlying f1.type=some (.int k1)) (t2:P.underlying f2.type=some (.int k2)) (t3:P.underlying f3.type=some (.int k3))
  (h:DataW.trod enc P w base spare held fuel t [.slice a len cap]=some x):∃l,Ka k0 k1 k2 k3 w a len cap l:=by
 rcases open_slice ht h with⟨hcs,_⟩|⟨b,l',c',m,n,D,Pl,hcs,_,hl,hm,hmm,_,hi⟩
 ·simp at hcs
  obtain⟨rfl,rfl,rfl⟩:=hcs;exact⟨[],rfl,Nat.le_refl _,Nat.zero_le _,fun i hi=>by simp at hi,fun r hr=>by simp at hr⟩
 ·simp at hcs
  obtain⟨rfl,rfl,rfl⟩:=hcs;have hlm:len≤m:=by rw[hmm];split<;>omega
  obtain⟨l,hll,hat⟩:=KC (p:=fun i (r:EV)=>w.cell? (b.add (i*4))=some (.int k0 r.1)∧w.cell? (b.add (i*4+1))=some (.int k1 r.2.1)∧w.cell? (b.add (i*4+2))=some (.int k2 r.2.2.1)∧w.cell? (b.add (i*4+3))=some (.int k3 r.2.2.2)∧(Lit.int k0 r.1).wf=true∧(Lit.int k1 r.2.1).wf=true∧(Lit.int k2 r.2.2.1).wf=true∧(Lit.int k3 r.2.2.2).wf=true) (n:=len) (fun i hil=>by
   obtain⟨cs',h1,h2⟩:=hi i (by omega)
   rw[ce] at h1;obtain⟨_,hlen,hcell⟩:=World.cells?_some h1
   obtain⟨xs,k,hk,hxy,_,hxl,hf⟩:=DataW.trod_struct he h2;match xs,hxl,cs',hlen with
   | [y0,y1,y2,y3],_,[v0,v1,v2,v3],_ =>
    have g0:=hf 0 f0 rfl;have g1:=hf 1 f1 rfl;have g2:=hf 2 f2 rfl;have g3:=hf 3 f3 rfl;simp[o0,o1,o2,o3,c0,c1,c2,c3] at g0 g1 g2 g3
    have e0:=hcell 0 (by omega)
    have e1:=hcell 1 (by omega)
    have e2:=hcell 2 (by omega)
    have e3:=hcell 3 (by omega)
    rw[Addr.add_add] at e0 e1 e2 e3;obtain⟨z0,q0,_,w0⟩:=DataW.trod_int t0 g0;obtain⟨z1,q1,_,w1⟩:=DataW.trod_int t1 g1;obtain⟨z2,q2,_,w2⟩:=DataW.trod_int t2 g2;obtain⟨z3,q3,_,w3⟩:=DataW.trod_int t3 g3;simp at q0 q1 q2 q3
    subst q0 q1 q2 q3;exact⟨(z0,z1,z2,z3),by simpa using e0,by simpa using e1,by simpa using e2,by simpa using e3,w0,w1,w2,w3⟩)
  refine⟨l,hll.symm,hl,hm,fun i h=>?_,fun r hr=>?_⟩
  ·obtain⟨g0,g1,g2,g3,_⟩:=hat i h
   obtain⟨bb,off,spot⟩:=b;obtain rfl:spot=none:=by have:=(hat 0 (by omega)).1;simpa [Addr.add] using World.cell?_spot this
   rw[Go.WideShapes.add_plain] at g0 g1 g2 g3;exact⟨bb,off,rfl,g0,by rw[Nat.add_assoc];exact g1,by rw[Nat.add_assoc];exact g2,by rw[Nat.add_assoc];exact g3⟩
  ·obtain⟨i,h,rfl⟩:=List.mem_iff_getElem.1 hr
   exact(hat i h).2.2.2.2
end Go.Proofs.YtlkjheheofgdgaaGreat
open Go Go.RowKit Go.ChangeShapes Go.WideShapes Go.ChangeAt Go.Deep
set_option maxRecDepth 100000
namespace Go.Proofs.YtlkjheheofgdgaaGreat
section
variable {H:Type} {enc:TypeId×Value→H} {W:World} {base:Nat} {sp:Nat→Bool} {held:Bool}
theorem Wk {P:Program}{t e:TypeId}{fuel:Nat}{V:Value}{x:DataW H×List MemPlace}(ht:P.underlying t=some (.slice e))(h:DataW.trod enc P W base sp held fuel t [V]=some x) :
  ∃a len cap,V=.slice a len cap∧len≤cap∧cap≤maxLen:=by
 rcases DataW.trod_slice ht h with⟨hcs,hx⟩|⟨a,len,cap,elems,rest,n,_,hcs,hx,_,h1,h2,h3,_⟩
 ·simp at hcs
  exact⟨none,0,0,hcs,Nat.le_refl _,Nat.zero_le _⟩
 ·simp at hcs
  exact⟨some a,len,cap,hcs,h1,h2⟩
theorem FB {fuel:Nat}{a:Option Addr}{len cap:Nat}{x:DataW H×List MemPlace}(h:DataW.trod enc Tryz.prog W base sp held fuel 78 [.slice a len cap]=some x) :
  ∃l:List yq,l.length=len∧xB W a l∧∀y∈l,yh y.2.2.1:=by
 obtain⟨l,h1,_,_,h4,h5⟩:=RY Tryz.underlying78 Tryz.underlying80 (by kernel_rfl) rfl rfl rfl rfl (by kernel_rfl) (by kernel_rfl) (by kernel_rfl) (by kernel_rfl) Tryz.underlying3 Tryz.underlying3 Tryz.underlying3 Tryz.underlying3 h
 exact⟨l,h1.symm,h4,fun y hy=>bounds_i64 (h5 y hy).2.2.1⟩
theorem Jm {fuel:Nat}{V:Value}{x:DataW H×List MemPlace}(h:DataW.trod enc Tryz.prog W base sp held fuel 22 [V]=some x) :
  ∃a len cap,∃l:List (List yq),V=.slice a len cap∧l.length=len∧len≤cap∧cap≤maxLen∧Mv W a l∧(∀f∈l,∀y∈f,yh y.2.2.1):=by
 obtain⟨a,len,cap,rfl,h1,h2⟩:=Wk Tryz.underlying22 h;rcases DataW.trod_slice Tryz.underlying22 h with⟨hcs,hx⟩|⟨b,len',cap',elems,rest,n,_,hcs,hx,_,_,_,hel,hat,_⟩
 ·simp at hcs
  obtain⟨rfl,rfl,rfl⟩:=hcs;exact⟨none,0,0,[],rfl,rfl,h1,h2,fun i hi=>by simp at hi,fun f hf=>by simp at hf⟩
 ·simp at hcs
  obtain⟨rfl,rfl,rfl⟩:=hcs;have c1:Tryz.prog.cellsOf 78=1:=by kernel_rfl
  have hv:∀i:Fin len,∃l:List yq,∃ai ci,W.cell? (b.add i.val)=some (.slice ai l.length ci)∧l.length≤ci∧ci≤maxLen∧xB W ai l∧(∀y∈l,yh y.2.2.1):=fun i=>by
   have g:=hat i.val i.isLt;rw[c1,Nat.mul_one,List.getElem?_eq_getElem (by omega:i.val<elems.length)] at g
   obtain⟨cs',g1,g2⟩:=Option.bind_eq_some_iff.1 g;obtain⟨_,hlen,hcell⟩:=World.cells?_some g1
   match cs',hlen with
   | [v],_ =>
    have e0:=hcell 0 (by omega)
    obtain⟨ai,li,ci,rfl,k1,k2⟩:=Wk Tryz.underlying78 g2;obtain⟨l,l1,l2,l3⟩:=FB g2;subst l1;exact⟨l,ai,ci,by simpa [Addr.add] using e0,k1,k2,l2,l3⟩
  refine⟨some b,len,cap,List.ofFn fun i:Fin len=>Classical.choose (hv i),rfl,by simp,h1,h2,fun i hi=>?_,fun f hf=>?_⟩
  ·simp at hi
   obtain⟨ai,ci,q1,q2,q3,q4,_⟩:=Classical.choose_spec (hv ⟨i,hi⟩)
   simp only[List.getElem_ofFn];obtain⟨bb,off,spot⟩:=b;obtain rfl:spot=none:=by
    obtain⟨_,_,_,g0,_⟩:=hv ⟨0,by omega⟩
    simpa [Addr.add] using World.cell?_spot g0
   exact⟨bb,off,ai,ci,rfl,by rw[←Go.WideShapes.add_plain];exact q1,q2,q3,q4⟩
  ·obtain⟨i,hi,rfl⟩:=List.mem_iff_getElem.1 hf
   simp at hi
   simp only[List.getElem_ofFn];obtain⟨ai,ci,q1,q2,q3,q4,q5⟩:=Classical.choose_spec (hv ⟨i,hi⟩)
   exact q5
theorem IX {fuel:Nat}{a:Option Addr}{len cap:Nat}{x:DataW H×List MemPlace}(h:DataW.trod enc Tryz.prog W base sp held fuel 23 [.slice a len cap]=some x):∃l:List Int,l.length=len∧yT W a l:=by
 rcases open_ints Tryz.underlying23 Tryz.underlying3 (by kernel_rfl) h with⟨hcs,_⟩|⟨b,l',c',zs,hcs,_,hl,hm,hz,_,hcell,_⟩
 ·simp at hcs
  obtain⟨rfl,rfl,rfl⟩:=hcs;exact⟨[],rfl,fun i hi=>by simp at hi⟩
 ·simp at hcs
  obtain⟨rfl,rfl,rfl⟩:=hcs;have hzl:len≤zs.length:=by rw[hz];split<;>omega
  refine⟨zs.take len,by rw[List.length_take];omega,fun i hi=>?_⟩
  rw[List.length_take] at hi;have g:=hcell i (by omega)
  obtain⟨bb,off,spot⟩:=b;obtain rfl:spot=none:=by simpa [Addr.add] using World.cell?_spot (hcell 0 (by omega))
  rw[Go.WideShapes.add_plain] at g;refine⟨bb,off,rfl,?_⟩
  rw[g];simp[List.getD,List.getElem?_eq_getElem (by omega:i<zs.length)]
theorem M1 {fuel:Nat}{a:Option Addr}{len cap:Nat}{x:DataW H×List MemPlace}(h:DataW.trod enc Tryz.prog W base sp held fuel 24 [.slice a len cap]=some x):∃l:List T6,l.length=len∧Yc W a l:=by
 obtain⟨l,h1,_,_,h4,_⟩:=PA Tryz.underlying24 Tryz.underlying128 (by kernel_rfl) rfl rfl rfl (by kernel_rfl) (by kernel_rfl) (by kernel_rfl) Tryz.underlying3 Tryz.underlying3 Tryz.underlying3 h
 exact⟨l,h1.symm,h4⟩
theorem isPg_of {r:Reach}{b0:Nat}{v:Value}{d:DataW H}{p:List MemPlace}(hv:Value.okWide Tryz.prog W r b0 26 v)(h:DataW.Trod enc Tryz.prog W base sp held 26 v d p) :
  ∃fa nf fc ca nc cc lk ka nk kc dd,v=.agg #[.slice fa nf fc,.slice ca nc cc,.int .i64 lk,.slice ka nk kc]∧RA W fa nf fc ca nc cc lk ka nk kc dd:=by
 obtain⟨v0,v1,v2,v3,y0,y1,y2,y3,n,rfl,rfl,_,g0,g1,g2,g3⟩:=Go.Joins.open_agg4 Tryz.underlying26 (by kernel_rfl) (by kernel_rfl) hv h
 obtain⟨fa,nf,fc,fs,rfl,f1,f2,f3,f4,f5⟩:=Jm g0;obtain⟨ca,nc,cc,rfl,c1,c2⟩:=Wk Tryz.underlying23 g1;obtain⟨cs,c4,c5⟩:=IX g1;obtain⟨lk,e2,_,_⟩:=DataW.trod_int Tryz.underlying3 g2;obtain rfl:v2=.int .i64 lk:=by simpa using e2
 obtain⟨ka,nk,kc,rfl,k1,k2⟩:=Wk Tryz.underlying24 g3;obtain⟨ks,k4,k5⟩:=M1 g3;exact⟨fa,nf,fc,ca,nc,cc,lk,ka,nk,kc,⟨fs,cs,lk,ks⟩,rfl,⟨f1,c4,k4,rfl,⟨f2,f3⟩,by omega,by omega,f4,c5,k5,f5⟩⟩
end
end Go.Proofs.YtlkjheheofgdgaaGreat
open Go Go.RowKit
namespace Go.Proofs.YtlkjheheofgdgaaGreat.schedLost
theorem Dg:True:=by
 have:=@isPg_of
 trivial
theorem Mf {w0 w:World}{bs sp:Nat}{X:Sd}{S:Src}{B j:Nat}(h:Own w0 w (Zb bs sp X::x5 sp 0 S .nilFunc::[]))(hok:(XI sp 0).ok (j+2) S)(wf:yF B X)(hB:B≤70000)(hks:X.W.ks.length≤8)(hen:X7 X.W.en) :
  Calls Tryz.prog 9 #[.pointer (some ⟨bs,0,none⟩)] w fun r w'=>∃(kk mm gg:Int) (rn:Nat) (ra:Option Addr) (rc:Nat) (k:Int) (X':Sd) (S':Src),r=.returned (.tuple #[.agg #[.int .i64 kk,.int .i64 mm,.int .i64 gg,.slice ra rn rc],.int .i64 k])∧yF (B+9) X'∧X'.W.ks.length≤8∧X7 X'.W.en∧(XI sp 0).ok j S'∧(k=0∨k=1∨k=2)∧Own w0 w' (Zb bs sp X'::x5 sp 0 S' .nilFunc::[]):=by
 refine(OZ (D:=XI sp 0) (s:=S) (R:=[]) (j:=j) h hok wf (by omega) hen (M3 sp)).mono (fun r w' hh=>?_)
 obtain⟨e,ra,rc,k,X',S',hl,rfl,ho⟩:=hh;obtain⟨q1,q2,q3,q4,q5⟩:=Pb hl wf (by omega) hen
 exact⟨e.kind,e.M,e.G,e.rd.length,ra,rc,k,X',S',rfl,q1.mono (by omega),by rw[q2];exact hks,q3,q4,q5,ho.drop⟩
theorem YW {w0 w:World}{bs sp:Nat}{X:Sd}{S:Src}{B:Nat}(h:Own w0 w (Zb bs sp X::x5 sp 0 S .nilFunc::[]))(wf:yF B X) :
  Calls Tryz.prog 10 #[.pointer (some ⟨bs,0,none⟩)] w fun r w'=>r=.returned (.bool true)∧Own w0 w' (Zb bs sp X::x5 sp 0 S .nilFunc::[]):=by
 obtain⟨L,hL⟩:=h.sat;exact(Nj hL wf).mono (fun r w' hh=>⟨hh.1,hh.2.to⟩)
theorem Mr {w0 w:World}{bs sp:Nat}{X:Sd}{S:Src}{B:Nat}(h:Own w0 w (Zb bs sp X::x5 sp 0 S .nilFunc::[]))(wf:yF B X) :
  Calls Tryz.prog 11 #[.pointer (some ⟨bs,0,none⟩)] w fun r w'=>r=.returned (.int .i64 (xU X))∧Own w0 w' (Zb bs sp X::x5 sp 0 S .nilFunc::[]):=by
 obtain⟨L,hL⟩:=h.sat;exact(Wy hL (by have:=wf.wf.g1;omega)).mono (fun r w' hh=>⟨hh.1,h.step hh.2⟩)
theorem Vd {w w':World}{O S C:zv}{R:List zv}(h:Own w w' (O::S::C::R)):Own w w' (S::C::[]) :=
 Own.Ft (As:=[S,C]) (Bs:=R) h.drop
theorem walk (fa:Option Addr)(nf fc:Nat)(ca:Option Addr)(nc cc:Nat)(lk:Int)(ka:Option Addr)(nk kc:Nat)(dd:PD)(p m r s:Int)(a3:Option Addr)(len3 cap3:Nat)(z3:List Int)(w:World)(w0:RA w fa nf fc ca nc cc lk ka nk kc dd)(wp:(Lit.int .i64 p).wf=true)(wm:(Lit.int .i64 m).wf=true)(wr:(Lit.int .i64 r).wf=true)(ws:(Lit.int .i64 s).wf=true)(w3:IsRow .u64 w a3 len3 cap3 z3) :
  Calls Tryz.prog 3 #[.agg #[.slice fa nf fc,.slice ca nc cc,.int .i64 lk,.slice ka nk kc],.agg #[.int .i64 p,.int .i64 m,.int .i64 r,.int .i64 s],.slice a3 len3 cap3] w fun e w'=>e=.returned (.bool true)∧Below w.heap.size w w':=by
 obtain⟨a,ha⟩:=Sr p 5 (by omega) (by omega)
 obtain⟨b,hb⟩:=Sr m 5 (by omega) (by omega)
 obtain⟨c,hc⟩:=Sr r 5 (by omega) (by omega)
 obtain⟨d,hd⟩:=Sr s 12 (by omega) (by omega)
 obtain⟨np,hnp⟩:∃np:Nat,1+(a:Int)=(np:Int):=⟨1+a,by omega⟩
 obtain⟨nm,hnm⟩:∃nm:Nat,1+(b:Int)=(nm:Int):=⟨1+b,by omega⟩
 obtain⟨rg,hrg⟩:∃rg:Int,2+(c:Int)=rg:=⟨_,rfl⟩
 obtain⟨sl,hsl0⟩:∃sl:Int,1+(d:Int)=sl:=⟨_,rfl⟩
 have KS:Hid (∀wx,Calls Tryz.prog 8 #[.agg #[.int .i64 p,.int .i64 m,.int .i64 r,.int .i64 s]] wx fun e w'=>e=.returned (.agg #[.int .i64 (np:Int),.int .i64 (nm:Int),.int .i64 rg,.int .i64 sl])∧Below wx.heap.size wx w'):=Qq (fun wx=>by
  have h:=Q0 wx p m r s a b c d ha hb hc hd;rw[hnp,hnm,hrg,hsl0] at h;exact h)
 have ha5:=ha.2.2.2;have hb5:=hb.2.2.2;have hd5:=hd.2.2.2.1;have HCD:Hid ((1≤np∧np≤64)∧(1≤nm∧nm≤64)∧(1≤sl∧sl≤1024)):=Qq ⟨by omega,by omega,by omega⟩
 obtain⟨l,rfl,hlc,hcl,hlu,hn0⟩:=KY w3;obtain⟨k,hk⟩:∃k:Nat,k=min l.length 200:=⟨_,rfl⟩
 have hkif:(if 200<(l.length:Int) then(200:Int) else(l.length:Int))=(k:Int):=by split<;>omega
 have hkl:k≤l.length:=by omega
 have hk1:k≤200:=by omega
 have hNl:(l.take k).length=k:=by rw[List.length_take];omega
 have hNc:zr w a3 (Zl (l.take k)):=fun j v hj=>by
  refine hcl j v ?_
  unfold Zl at hj ⊢
  rw[List.getElem?_map,List.getElem?_take] at hj
  rw[List.getElem?_map]
  split at hj
  ·exact hj
  ·simp at hj
 have hNu:∀y∈l.take k,y<18446744073709551616:=fun y hy=>hlu y (List.mem_of_mem_take hy)
 have hsl:=fun w=>xX (P:=Tryz.prog) (t:=29) w Tryz.underlying29 (fun w=>by first|rfl|kernel_rfl) a3 l.length cap3 k (by omega)
 have hm0:a3=none→k=0∧cap3=0:=fun h=>by obtain⟨h1,h2⟩:=hn0 h;omega
 generalize hNN:l.take k=nums at *
 have HNS:Hid (zr w a3 (Zl nums)∧nums.length=k∧(∀y∈nums,y<18446744073709551616)∧(a3=none→k=0∧cap3=0)∧k≤200):=Qq ⟨hNc,hNl,hNu,hm0,hk1⟩
 obtain⟨nl,hnl⟩:∃nl,nl=l.length:=⟨_,rfl⟩
 rw[←hnl] at hkif hsl hkl hlc ⊢;have HSL:=Qq (And.intro hsl hkif)
 have HD:=Qq w0;clear wp wm wr ws ha hb hc hd ha5 hb5 hd5 hNc hNl hNu hm0 hNN hcl hlu hn0 w3 hk hnl hsl hkif hnp hnm hkl hk1 hrg hsl0 hlc w0;go_enter Tryz.func3,Tryz.ntmps3
 go_upto_region 1 with fail
 have O0:=Qq (((Own.nil (Below.refl _ w)).alloc [.slice fa nf fc,.slice ca nc cc,.int .i64 lk,.slice ka nk kc] 26 (b:=w.heap.size) rfl).alloc [.int .i64 p,.int .i64 m,.int .i64 r,.int .i64 s] 28 (b:=w.heap.size+1) (by simp))
 generalize hwx:((w.alloc (.cells #[.slice fa nf fc,.slice ca nc cc,.int .i64 lk,.slice ka nk kc] 26)).alloc (.cells #[.int .i64 p,.int .i64 m,.int .i64 r,.int .i64 s] 28))=wX
 have o1:Own w wX (ze (w.heap.size+1) [.int .i64 p,.int .i64 m,.int .i64 r,.int .i64 s]::ze w.heap.size [.slice fa nf fc,.slice ca nc cc,.int .i64 lk,.slice ka nk kc]::[]):=by rw[←hwx];exact O0.out
 clear O0 hwx;generalize w.heap.size+1=cq at *
 generalize hpq:w.heap.size=pq at *
 have HPQ:=Qq hpq;clear hpq
 have O1:=Qq o1;clear o1
 go_wp2_with fail;refine(SL _).mono ?_
 rintro e wa ⟨rfl,hb⟩;have O2:=Qq (O1.out.step hb);clear O1 hb
 go_upto_region 3 with fail
 have HMK:Hid (∀(wx:World) (R:List zv),Own w wx R→Calls Tryz.prog 7 #[.agg #[.slice fa nf fc,.slice ca nc cc,.int .i64 lk,.slice ka nk kc],.agg #[.int .i64 (np:Int),.int .i64 (nm:Int),.int .i64 rg,.int .i64 sl],.slice a3 k cap3] wx fun r w'=>∃bs sp X u1 u2 u3 u4 u5 u6 u7 u8 u9 u10 u11 u12 u13 u14 q1 q2 q3 q4 q5 q6 q7 q8 q9 q10,yF 0 X∧X.W.ks.length≤8∧X7 X.W.en∧r=.returned (.tuple #[.pointer (some ⟨bs,0,none⟩),.agg (Tb (YJ np nm rg sl) (ZS q1 q2 q3 q4 q5 q6 q7 q8 q9 q10) (XM a3 k cap3) (.slice (some ⟨u1,0,none⟩) 1 1) (.slice u2 u3 u4) (.slice u5 u6 u7) (.slice u8 u9 u10) (.slice u11 u12 u13) (.slice (some ⟨u14,0,none⟩) 1 1)).toArray,.pointer (some ⟨sp,0,none⟩)])∧Own w w' (Zb bs sp X::x5 sp 0 ⟨[],nums,[]⟩ .nilFunc::R)):=Qq (fun wx R h=>by
  have hnn:=HNS.out.2.1;have hb:=h.bel;refine(LB h fa nf fc ca nc cc lk ka nk kc dd (HD.out.below hb) np nm rg sl (by have:=HCD.out;omega) (by have:=HCD.out;omega) a3 k cap3 nums hnn.symm (HNS.out.1.below hb) (fun e=>by rw[hnn];exact HNS.out.2.2.2.1 e) (by have:=HNS.out.2.2.2.2;omega)).mono ?_
  rintro r w' ⟨bs,sp,pa,pc,qa,qc,ua,uc,rs,cs,ks,lk',hpw,hsz,⟨v1,v2,v3,v4,v5,v6,v7,v8,v9,v10,v11,v12,v13,v14,rfl⟩,ho⟩;refine⟨bs,sp,Zy (Za (R3 rs cs lk' ks).fs ks cs lk') np nm rg sl,v1,v2,v3,v4,v5,v6,v7,v8,v9,v10,v11,v12,v13,v14,pa,qa,ua,rs.length,pc,cs.length,qc,ks.length,uc,lk',Rh hpw HCD.out.1 HCD.out.2.1 HCD.out.2.2,hsz.2.1,.inl rfl,rfl,?_⟩
  have h2:Own w w' ([Zb bs sp _,x5 sp 0 _ _]++(Ha pa pc qa qc ua uc rs cs ks++R)):=ho
  exact(h2.perm (List.perm_append_comm_assoc _ (Ha pa pc qa qc ua uc rs cs ks) R)).Zj)
 clear HD HCD;have SB:Hid (∀(wx:World) (L:List zv),Own w wx (L++(ze cq [.int .i64 p,.int .i64 m,.int .i64 r,.int .i64 s]::ze pq [.slice fa nf fc,.slice ca nc cc,.int .i64 lk,.slice ka nk kc]::[]))→wx.cell? ⟨pq,0,none⟩=some (.slice fa nf fc)∧wx.cell? ⟨pq,1,none⟩=some (.slice ca nc cc)∧wx.cell? ⟨pq,2,none⟩=some (.int .i64 lk)∧wx.cell? ⟨pq,3,none⟩=some (.slice ka nk kc)∧wx.cell? ⟨cq,0,none⟩=some (.int .i64 p)∧wx.cell? ⟨cq,1,none⟩=some (.int .i64 m)∧wx.cell? ⟨cq,2,none⟩=some (.int .i64 r)∧wx.cell? ⟨cq,3,none⟩=some (.int .i64 s)) :=
  Qq (fun wx L h=>by
   have h:=Own.Zj h;exact⟨(h.zi 1 rfl 0 _ rfl).1,(h.zi 1 rfl 1 _ rfl).1,(h.zi 1 rfl 2 _ rfl).1,(h.zi 1 rfl 3 _ rfl).1,(h.zi 0 rfl 0 _ rfl).1,(h.zi 0 rfl 1 _ rfl).1,(h.zi 0 rfl 2 _ rfl).1,(h.zi 0 rfl 3 _ rfl).1⟩)
 obtain⟨hsl,hkif⟩:=HSL.out;clear HSL;have hmin:min (nl:Int) 200=(k:Int):=by rw[←hkif];split<;>omega
 go_cut [7] (fun sv wx=>∃bs sp X,sv=.pointer (some ⟨bs,0,none⟩)∧Hid (yF 0 X∧X.W.ks.length≤8∧X7 X.W.en∧Own w wx (Zb bs sp X::x5 sp 0 ⟨[],nums,[]⟩ .nilFunc::[])))
 case first =>
  have o0:=O2.out.step (zg wa)
  clear O2;refine zV (fun wx=>wx.cell? ⟨pq,0,none⟩=some (.slice fa nf fc)∧wx.cell? ⟨pq,1,none⟩=some (.slice ca nc cc)∧wx.cell? ⟨pq,2,none⟩=some (.int .i64 lk)∧wx.cell? ⟨pq,3,none⟩=some (.slice ka nk kc)∧wx.cell? ⟨cq,0,none⟩=some (.int .i64 p)∧wx.cell? ⟨cq,1,none⟩=some (.int .i64 m)∧wx.cell? ⟨cq,2,none⟩=some (.int .i64 r)∧wx.cell? ⟨cq,3,none⟩=some (.int .i64 s)) 17 (Array.replicate 17 false) (by kernel_rfl) (by kernel_rfl) ?_
  generalize wa.drew=w3 at *;refine zm 0 2 _ (Qj 17 3) 15 (by kernel_rfl) za (SB.out _ [] o0) (by kernel_rfl) ?_
  simp only[QX,QV,QJ];(repeat((first|refine Qx (h:=?_)|refine Qv (h:=?_));simp only[Act.put,QW,QY,QZ]));refine zb ?_;refine zm 3 4 _ (Qj 17 123) 11 (by kernel_rfl) za (SB.out _ [] o0) (by kernel_rfl) ?_
  simp only[QX,QV,QQ,QJ];(repeat((first|refine Qx (h:=?_)|refine Qv (h:=?_));simp only[Act.put,QW,QY,QZ]));refine zb ?_
  try rw[hkif]
  try rw[hmin]
  refine zm 7 1 _ (Qj 17 251) 10 (by kernel_rfl) za (SB.out _ [] o0) (by kernel_rfl) ?_
  simp only[QX,QV,QQ,QJ];(repeat((first|refine Qx (h:=?_)|refine Qv (h:=?_));simp only[Act.put,QW,QY,QZ]));refine zb ?_;refine yz 2 13 _ (Qj 17 255) (Qj 17 8443) 9 (by kernel_rfl) (fun K hK=>?_) (fun K hK=>?_)
  ·skip
   have HKK:=Qq hK;clear hK;simp only[QQ,QJ];refine zc (by rfl) ?_;go_simp;refine(KS.out _).mono ?_
   rintro r w4 ⟨rfl,hb⟩;have o1:=o0.step hb;clear hb;refine HKK.out _ _ (SB.out _ [] o1) ?_
   clear HKK K;refine yz 8 13 _ (Qj 17 511) (Qj 17 8447) 8 (by kernel_rfl) (fun K hK=>?_) (fun K hK=>?_)
   ·skip
    have HKK:=Qq hK;clear hK;simp only[QQ,QJ];refine zc (by rfl) ?_;go_simp;refine(HMK.out _ _ o1).mono ?_
    rintro r w5 ⟨bs,sp,X,u1,u2,u3,u4,u5,u6,u7,u8,u9,u10,u11,u12,u13,u14,q1,q2,q3,q4,q5,q6,q7,q8,q9,q10,hwf,hks,hen,rfl,o2⟩;refine HKK.out _ _ (SB.out _ [_,_] o2) ?_
    clear HKK K;refine zm 9 4 _ (Qj 17 8191) 4 (by kernel_rfl) za (SB.out _ [_,_] o2) (by kernel_rfl) ?_
    simp only[QX,QV,QQ,QJ];(repeat((first|refine Qx (h:=?_)|refine Qv (h:=?_));simp only[Act.put,QW,QY,QZ]));refine zb ?_;refine zh 13 _ (Qj 17 16383) 3 (by kernel_rfl) (fun K hK=>?_)
    have HKK:=Qq hK;clear hK;simp only[QQ,QJ];refine zc (by rfl) ?_;go_simp;have o3:=o2.alloc [.int .i64 0,.int .i64 0,.int .i64 0,.int .i64 0,.slice none 0 0,.slice none 0 0,.int .i64 0,.slice none 0 0,.slice none 0 0,.int .u64 0,.slice none 0 0,.slice none 0 0,.slice none 0 0,.int .u64 0,.slice none 0 0,.int .i64 0,.int .i64 0,.slice none 0 0,.slice none 0 0,.slice none 0 0,.slice none 0 0,.slice none 0 0,.slice none 0 0,.bool false,.bool false,.slice none 0 0,.int .i64 0] 48 rfl
    refine HKK.out _ _ (SB.out _ [_,_,_] o3) ?_
    clear HKK K;generalize w5.alloc _=w6 at *;generalize w5.heap.size=ob at *;have o4:=Own.Yb (vs:=(Tb (YJ np nm rg sl) (ZS q1 q2 q3 q4 q5 q6 q7 q8 q9 q10) (XM a3 k cap3) (.slice (some ⟨u1,0,none⟩) 1 1) (.slice u2 u3 u4) (.slice u5 u6 u7) (.slice u8 u9 u10) (.slice u11 u12 u13) (.slice (some ⟨u14,0,none⟩) 1 1))) (o3.pick 0 rfl) rfl
    have ht:=(o3.zi 0 rfl).there 27 (Nat.le_refl _)
    refine zm 14 1 _ (Qj 17 32767) 2 (by kernel_rfl) za (SB.out _ [_,_,_] o3) (by kernel_rfl) ?_
    simp only[QX,QV,QQ,QJ];(repeat((first|refine Qx (h:=?_)|refine Qv (h:=?_));simp only[Act.put,QW,QY,QZ]));refine zb ?_;refine zh 15 _ (Qj 17 65535) 1 (by kernel_rfl) (fun K hK=>?_)
    have HKK:=Qq hK;clear hK;simp only[QQ,QJ];refine zc (by rfl) ?_;refine wp_store_mid _ _ _ (by rfl) ob 0 (Tb (YJ np nm rg sl) (ZS q1 q2 q3 q4 q5 q6 q7 q8 q9 q10) (XM a3 k cap3) (.slice (some ⟨u1,0,none⟩) 1 1) (.slice u2 u3 u4) (.slice u5 u6 u7) (.slice u8 u9 u10) (.slice u11 u12 u13) (.slice (some ⟨u14,0,none⟩) 1 1)).toArray (by rfl) (by rfl) ht (by kernel_rfl) (by simp[Tb,YJ,ZS,KU,XM,Value.oneCell']) ?_
    refine HKK.out _ _ (SB.out _ [_,_,_] o4) ?_
    clear HKK K;refine zm 16 1 _ (Qj 17 131071) 0 (by kernel_rfl) za (SB.out _ [_,_,_] o4) (by kernel_rfl) ?_
    simp only[QX,QV,QQ,QJ];(repeat((first|refine Qx (h:=?_)|refine Qv (h:=?_));simp only[Act.put,QW,QY,QZ]));refine zb ?_;refine wpAnyH_done (by kernel_rfl) (NoPanic.normal ?_) _
    have HZ:=Qq (And.intro hwf (And.intro hks (And.intro hen (Vd o4))))
    clear o4;go_wp2_with fail;go_meet;exact⟨bs,sp,X,rfl,HZ⟩
   ·skip
    have HKK:=Qq hK;clear hK;simp only[QQ,QJ];refine zc (by rfl) ?_;go_simp;have o2:=o1.alloc [.int .i64 0,.int .i64 0,.int .i64 0,.int .i64 0,.slice none 0 0,.slice none 0 0,.int .i64 0,.slice none 0 0,.slice none 0 0,.int .u64 0,.slice none 0 0,.slice none 0 0,.slice none 0 0,.int .u64 0,.slice none 0 0,.int .i64 0,.int .i64 0,.slice none 0 0,.slice none 0 0,.slice none 0 0,.slice none 0 0,.slice none 0 0,.slice none 0 0,.bool false,.bool false,.slice none 0 0,.int .i64 0] 48 rfl
    refine HKK.out _ _ (SB.out _ [_] o2) ?_
    clear HKK K;generalize w4.alloc _=w5 at *;generalize w4.heap.size=ob at *;refine zh 8 _ (Qj 17 8703) 7 (by kernel_rfl) (fun K hK=>?_)
    have HKK:=Qq hK;clear hK;simp only[QQ,QJ];refine zc (by rfl) ?_;go_simp;refine(HMK.out _ _ o2).mono ?_
    rintro r w6 ⟨bs,sp,X,u1,u2,u3,u4,u5,u6,u7,u8,u9,u10,u11,u12,u13,u14,q1,q2,q3,q4,q5,q6,q7,q8,q9,q10,hwf,hks,hen,rfl,o3⟩;refine HKK.out _ _ (SB.out _ [_,_,_] o3) ?_
    clear HKK K;refine zm 9 4 _ (Qj 17 16383) 3 (by kernel_rfl) za (SB.out _ [_,_,_] o3) (by kernel_rfl) ?_
    simp only[QX,QV,QQ,QJ];(repeat((first|refine Qx (h:=?_)|refine Qv (h:=?_));simp only[Act.put,QW,QY,QZ]));refine zb ?_;have o4:=Own.Yb (vs:=(Tb (YJ np nm rg sl) (ZS q1 q2 q3 q4 q5 q6 q7 q8 q9 q10) (XM a3 k cap3) (.slice (some ⟨u1,0,none⟩) 1 1) (.slice u2 u3 u4) (.slice u5 u6 u7) (.slice u8 u9 u10) (.slice u11 u12 u13) (.slice (some ⟨u14,0,none⟩) 1 1))) (o3.pick 2 rfl) rfl
    have ht:=(o3.zi 2 rfl).there 27 (Nat.le_refl _)
    refine zm 14 1 _ (Qj 17 32767) 2 (by kernel_rfl) za (SB.out _ [_,_,_] o3) (by kernel_rfl) ?_
    simp only[QX,QV,QQ,QJ];(repeat((first|refine Qx (h:=?_)|refine Qv (h:=?_));simp only[Act.put,QW,QY,QZ]));refine zb ?_;refine zh 15 _ (Qj 17 65535) 1 (by kernel_rfl) (fun K hK=>?_)
    have HKK:=Qq hK;clear hK;simp only[QQ,QJ];refine zc (by rfl) ?_;refine wp_store_mid _ _ _ (by rfl) ob 0 (Tb (YJ np nm rg sl) (ZS q1 q2 q3 q4 q5 q6 q7 q8 q9 q10) (XM a3 k cap3) (.slice (some ⟨u1,0,none⟩) 1 1) (.slice u2 u3 u4) (.slice u5 u6 u7) (.slice u8 u9 u10) (.slice u11 u12 u13) (.slice (some ⟨u14,0,none⟩) 1 1)).toArray (by rfl) (by rfl) ht (by kernel_rfl) (by simp[Tb,YJ,ZS,KU,XM,Value.oneCell']) ?_
    refine HKK.out _ _ (SB.out _ [_,_,_] o4) ?_
    clear HKK K;refine zm 16 1 _ (Qj 17 131071) 0 (by kernel_rfl) za (SB.out _ [_,_,_] o4) (by kernel_rfl) ?_
    simp only[QX,QV,QQ,QJ];(repeat((first|refine Qx (h:=?_)|refine Qv (h:=?_));simp only[Act.put,QW,QY,QZ]));refine zb ?_;refine wpAnyH_done (by kernel_rfl) (NoPanic.normal ?_) _
    have HZ:=Qq (And.intro hwf (And.intro hks (And.intro hen (Vd o4))))
    clear o4;go_wp2_with fail;go_meet;exact⟨bs,sp,X,rfl,HZ⟩
  ·skip
   have HKK:=Qq hK;clear hK;simp only[QQ,QJ];refine zc (by rfl) ?_;go_simp;have o1:=o0.alloc [.int .i64 0,.int .i64 0,.int .i64 0,.int .i64 0,.slice none 0 0,.slice none 0 0,.int .i64 0,.slice none 0 0,.slice none 0 0,.int .u64 0,.slice none 0 0,.slice none 0 0,.slice none 0 0,.int .u64 0,.slice none 0 0,.int .i64 0,.int .i64 0,.slice none 0 0,.slice none 0 0,.slice none 0 0,.slice none 0 0,.slice none 0 0,.slice none 0 0,.bool false,.bool false,.slice none 0 0,.int .i64 0] 48 rfl
   refine HKK.out _ _ (SB.out _ [_] o1) ?_
   clear HKK K;generalize w3.alloc _=w4 at *;generalize w3.heap.size=ob at *;refine zh 2 _ (Qj 17 8447) 8 (by kernel_rfl) (fun K hK=>?_)
   have HKK:=Qq hK;clear hK;simp only[QQ,QJ];refine zc (by rfl) ?_;go_simp;refine(KS.out _).mono ?_
   rintro r w5 ⟨rfl,hb⟩;have o2:=o1.step hb;clear hb;refine HKK.out _ _ (SB.out _ [_] o2) ?_
   clear HKK K;refine zh 8 _ (Qj 17 8703) 7 (by kernel_rfl) (fun K hK=>?_)
   have HKK:=Qq hK;clear hK;simp only[QQ,QJ];refine zc (by rfl) ?_;go_simp;refine(HMK.out _ _ o2).mono ?_
   rintro r w6 ⟨bs,sp,X,u1,u2,u3,u4,u5,u6,u7,u8,u9,u10,u11,u12,u13,u14,q1,q2,q3,q4,q5,q6,q7,q8,q9,q10,hwf,hks,hen,rfl,o3⟩;refine HKK.out _ _ (SB.out _ [_,_,_] o3) ?_
   clear HKK K;refine zm 9 4 _ (Qj 17 16383) 3 (by kernel_rfl) za (SB.out _ [_,_,_] o3) (by kernel_rfl) ?_
   simp only[QX,QV,QQ,QJ];(repeat((first|refine Qx (h:=?_)|refine Qv (h:=?_));simp only[Act.put,QW,QY,QZ]));refine zb ?_;have o4:=Own.Yb (vs:=(Tb (YJ np nm rg sl) (ZS q1 q2 q3 q4 q5 q6 q7 q8 q9 q10) (XM a3 k cap3) (.slice (some ⟨u1,0,none⟩) 1 1) (.slice u2 u3 u4) (.slice u5 u6 u7) (.slice u8 u9 u10) (.slice u11 u12 u13) (.slice (some ⟨u14,0,none⟩) 1 1))) (o3.pick 2 rfl) rfl
   have ht:=(o3.zi 2 rfl).there 27 (Nat.le_refl _)
   refine zm 14 1 _ (Qj 17 32767) 2 (by kernel_rfl) za (SB.out _ [_,_,_] o3) (by kernel_rfl) ?_
   simp only[QX,QV,QQ,QJ];(repeat((first|refine Qx (h:=?_)|refine Qv (h:=?_));simp only[Act.put,QW,QY,QZ]));refine zb ?_;refine zh 15 _ (Qj 17 65535) 1 (by kernel_rfl) (fun K hK=>?_)
   have HKK:=Qq hK;clear hK;simp only[QQ,QJ];refine zc (by rfl) ?_;refine wp_store_mid _ _ _ (by rfl) ob 0 (Tb (YJ np nm rg sl) (ZS q1 q2 q3 q4 q5 q6 q7 q8 q9 q10) (XM a3 k cap3) (.slice (some ⟨u1,0,none⟩) 1 1) (.slice u2 u3 u4) (.slice u5 u6 u7) (.slice u8 u9 u10) (.slice u11 u12 u13) (.slice (some ⟨u14,0,none⟩) 1 1)).toArray (by rfl) (by rfl) ht (by kernel_rfl) (by simp[Tb,YJ,ZS,KU,XM,Value.oneCell']) ?_
   refine HKK.out _ _ (SB.out _ [_,_,_] o4) ?_
   clear HKK K;refine zm 16 1 _ (Qj 17 131071) 0 (by kernel_rfl) za (SB.out _ [_,_,_] o4) (by kernel_rfl) ?_
   simp only[QX,QV,QQ,QJ];(repeat((first|refine Qx (h:=?_)|refine Qv (h:=?_));simp only[Act.put,QW,QY,QZ]));refine zb ?_;refine wpAnyH_done (by kernel_rfl) (NoPanic.normal ?_) _
   have HZ:=Qq (And.intro hwf (And.intro hks (And.intro hen (Vd o4))))
   clear o4;go_wp2_with fail;go_meet;exact⟨bs,sp,X,rfl,HZ⟩
 case rest =>
  obtain⟨bs,sp,X,rfl,hz⟩:=hcut;have HZ:=Qq hz.out;clear hsl hkif hmin SB HMK KS O2 hz;go_wp2_with fail;go_loopw [27] (fun iv wr=>∃i:Nat,∃X S,i≤200∧iv=.int .i64 i∧Hid (yF (9*i) X∧X.W.ks.length≤8∧X7 X.W.en∧(XI sp 0).ok (2*(200-i)+2) S∧Own w wr (Zb bs sp X::x5 sp 0 S .nilFunc::[]))) (fun iv _=>200-(intOf iv).toNat)
  case atStart=>exact⟨0,X,⟨[],nums,[]⟩,by omega,rfl,Qq ⟨HZ.out.1,HZ.out.2.1,HZ.out.2.2.1,⟨⟨fun r hr=>by simp at hr,HNS.out.2.2.1⟩,(by first|exact⟨fun _=>rfl,(fun e=>by cases e),by omega⟩|exact⟨fun _=>rfl,fun e=>by cases e⟩),by have:=HNS.out;simp[Src.many];omega,by simp,by simp⟩,HZ.out.2.2.2⟩⟩
  case round =>
   obtain⟨i,X,S,hi,rfl,hr⟩:=hrel;clear HZ;by_cases hlt:i<200
   ·have hlt2:(i:Int)<200:=by omega
    have HX:=Qq (Mf (j:=2*(200-i)) hr.out.2.2.2.2 hr.out.2.2.2.1 hr.out.1 (by omega) hr.out.2.1 hr.out.2.2.1)
    clear hr;go_wp2_with fail;refine HX.out.mono ?_
    rintro r w2 ⟨kk,mm,gg,rn,ra,rc,kq,X2,S2,rfl,h1,h2,h3,h4,hk,ho⟩;have HF:=Qq (ho.step (below_alloc1 w2 (.cells #[.int .i64 kk,.int .i64 mm,.int .i64 gg,.slice ra rn rc] 54)))
    have H1:=Qq h1;have H4:=Qq (And.intro h2 (And.intro h3 h4))
    clear ho HX h1 h2 h3 h4;by_cases hk0:kq=0
    ·subst hk0
     clear hk;go_wp2_with fail;refine(YW HF.out H1.out).mono ?_
     rintro r w3 ⟨rfl,ho3⟩;have HA:=Qq ho3;clear ho3 HF;go_wp2_with fail;refine(Mr HA.out H1.out).mono ?_
     rintro r w5 ⟨rfl,ho5⟩;have HS5:=Qq ho5;clear ho5 HA;by_cases hov:xU X2=0
     ·rw[hov]
      clear hov;have HR:Hid (yF (9*(i+1)) X2∧X2.W.ks.length≤8∧X7 X2.W.en∧(XI sp 0).ok (2*(200-(i+1))+2) S2∧Own w w5 (Zb bs sp X2::x5 sp 0 S2 .nilFunc::[])):=Qq ⟨by have:=H1.out;rw[show 9*(i+1)=9*i+9 by omega];exact this,H4.out.1,H4.out.2.1,by have:=H4.out.2.2;rw[show 2*(200-(i+1))+2=2*(200-i) by omega];exact this,HS5.out⟩
      clear H1 H4 HS5;go_wp2;exact⟨⟨i+1,X2,S2,by omega,by go_num,HR⟩,by simp[intOf];omega⟩
     ·have hov2:(xU X2==0)=false:=by simpa using hov
      generalize xU X2=ov at *;go_wp2_with fail;refine(YW HS5.out H1.out).mono ?_
      rintro r w4 ⟨rfl,ho4⟩;have HB4:=Qq ho4.bel;clear ho4;go_wp2;go_ret;exact⟨rfl,by rw[←HPQ.out] at *;exact HB4.out⟩
    ·have hkn:(kq==0)=false:=by simpa using hk0
     clear hk;go_wp2_with fail;refine(YW HF.out H1.out).mono ?_
     rintro r w4 ⟨rfl,ho4⟩;have HB4:=Qq ho4.bel;clear ho4;go_wp2;go_ret;exact⟨rfl,by rw[←HPQ.out] at *;exact HB4.out⟩
   ·obtain rfl:i=200:=by omega
    have hge:¬(((200:Nat):Int)<200):=by omega
    go_wp2_with fail;refine(YW hr.out.2.2.2.2 hr.out.1).mono ?_
    rintro r w4 ⟨rfl,ho4⟩;have HB4:=Qq ho4.bel;clear ho4;go_wp2;go_ret;exact⟨rfl,by rw[←HPQ.out] at *;exact HB4.out⟩
end Go.Proofs.YtlkjheheofgdgaaGreat.schedLost
