/-
  Texts put together: WSrc2, WSrc3, WSrc4, WSrc5, WSrc6, SdDrw, SdWF, SdNew, SdStep, SdRun, SdLook, WdBox, WdTick, WdStk, SdExec, SdRunW, SdHold.
-/
import Derived.Test.YtlkjheheofgdgaaGreatLo5
import Derived.Deep.QuietTactic
import Derived.BigQuiet
import Derived.WalkSmall
import Derived.Test.YtlkjheheofgdgaaGreatLo3
import Derived.Test.YtlkjheheofgdgaaGreatLo1
set_option maxRecDepth 100000
set_option maxHeartbeats 16000000
set_option linter.unusedSimpArgs false
set_option linter.unusedVariables false
open Go Go.RowKit
namespace Go.Proofs.YtlkjheheofgdgaaGreat
def HU (i:Nat)(kind:Int)(n:Nat)(r:Rec):Value:=.agg #[.int .i64 (i:Int),.int .i64 kind,.int .i64 (n:Int),.int .i64 r.1,.int .u64 (r.2:Int)]
def ZI (i:Nat)(kind:Int)(n:Nat)(r:Rec):Ending:=.panicked [{ v:=.iface 95 (HU i kind n r),recovered:=false }]
theorem Hy {w:World}{a:Option Addr}{l:List Nat}(h:zr w a (Zl l))(i:Nat)(hi:i<l.length):∃b off,a=some ⟨b,off,none⟩∧w.cell? ⟨b,off+i,none⟩=some (.int .u64 (l[i]:Int)) :=
 h i _ (by simp[Zl,hi])
theorem G8 {w:World}{a:Option Addr}{l:List Rec}(h:zr w a (zL l))(i:Nat)(hi:i<l.length):∃b off,a=some ⟨b,off,none⟩∧w.cell? ⟨b,off+i*2,none⟩=some (.int .i64 l[i].1)∧w.cell? ⟨b,off+i*2+1,none⟩=some (.int .u64 (l[i].2:Int)):=by
 obtain⟨b,off,rfl,h1⟩:=zr.rec (f:=fun r:Rec=>[Value.int .i64 r.1,Value.int .u64 (r.2:Int)]) (s:=2) (fun _=>rfl) (l:=l) h i hi (by omega)
 exact⟨b,off,rfl,h1 0 _ rfl,h1 1 _ rfl⟩
theorem Pq (w:World)(a:Option Addr)(c:Nat)(l:List Nat)(h:zr w a (Zl l))(hl:∀n∈l,n<18446744073709551616)(i:Nat)(hi:i<l.length)(kind:Int)(n:Nat)(hn:1≤n)(hn2:n<9223372036854775808) :
  Calls Tryz.prog 50 #[.slice a l.length c,.int .i64 (i:Int),.int .i64 kind,.int .i64 (n:Int)] w fun r w'=>r=.returned (.int .u64 ((l[i]%n:Nat):Int))∧w'=w:=by
 obtain⟨b,off,rfl,g⟩:=Hy h i hi;have hx:=hl _ (List.getElem_mem hi)
 generalize l[i]=x at *
 generalize l.length=m at *;have hne:¬(n:Int)=0:=by omega
 have hw:IntKind.u64.wrap (n:Int)=(n:Int):=by rw[IntKind.wrap_u64];omega
 have hr:(x:Int).tmod (n:Int)=((x%n:Nat):Int):=by rw[Int.tmod_eq_emod_of_nonneg (by omega)];simp
 have hw2:IntKind.u64.wrap ((x%n:Nat):Int)=((x%n:Nat):Int):=by
  have:x%n<n:=Nat.mod_lt _ (by omega)
  rw[IntKind.wrap_u64];omega
 clear h hl hn2 hx;go_enter Tryz.func50,Tryz.ntmps50
 go_wp2;go_ret;exact⟨Wj (by simp),rfl⟩
def SR (w:World)(i:Nat)(kind:Int)(n:Nat)(x:Rec)(r:Ending)(w':World):Prop :=
 Below w.heap.size w w'∧((x.1=kind∧x.2<n∧r=.returned (.int .u64 (x.2:Int)))∨(¬(x.1=kind∧x.2<n)∧r=ZI i kind n x))
theorem LK (w:World)(a:Option Addr)(c:Nat)(l:List Rec)(h:zr w a (zL l))(hl:∀r∈l,r.2<18446744073709551616)(i:Nat)(hi:i<l.length)(kind:Int)(n:Nat)(hn:1≤n)(hn2:n<9223372036854775808) :
  Calls Tryz.prog 41 #[.slice a l.length c,.int .i64 (i:Int),.int .i64 kind,.int .i64 (n:Int)] w (SR w i kind n l[i]):=by
 obtain⟨b,off,rfl,g0,g1⟩:=G8 h i hi;have hx:=hl _ (List.getElem_mem hi)
 have hlt:=World.block_lt_of_cell? w _ g0
 generalize l[i]=x at *
 obtain⟨k,m⟩:=x;generalize l.length=N at *;simp only at g0 g1 hx
 have hw:IntKind.u64.wrap (n:Int)=(n:Int):=by rw[IntKind.wrap_u64];omega
 clear h hl hx;have hp1:(k=kind∧m<n)→SR w i kind n (k,m) (.returned (.int .u64 (m:Int))) (w.alloc (.cells #[.int .i64 k,.int .u64 (m:Int)] 93)):=fun h=>⟨below_alloc1 _ _,.inl ⟨h.1,h.2,rfl⟩⟩
 have hp2:¬(k=kind∧m<n)→SR w i kind n (k,m) (ZI i kind n (k,m)) (w.alloc (.cells #[.int .i64 k,.int .u64 (m:Int)] 93)):=fun h=>⟨below_alloc1 _ _,.inr ⟨h,rfl⟩⟩
 by_cases h1:k=kind
 ·by_cases h2:m<n
  ·have H:=Qq (hp1 ⟨h1,h2⟩)
   subst h1;clear hp1 hp2;go_enter Tryz.func41,Tryz.ntmps41
   go_wp2;go_ret;exact H.out
  ·have H:=Qq (hp2 (fun h=>h2 h.2))
   subst h1;clear hp1 hp2;go_enter Tryz.func41,Tryz.ntmps41
   go_wp2;exact⟨rfl,H.out⟩
 ·have H:=Qq (hp2 (fun h=>h1 h.1))
  clear hp1 hp2;go_enter Tryz.func41,Tryz.ntmps41
  go_wp2;exact⟨rfl,H.out⟩
structure Src where
 tape:List Rec
 nums:List Nat
 taken:List Rec
def Src.many (S:Src):Nat:=S.tape.length+S.nums.length
def Src.ok (S:Src):Prop:=(∀r∈S.tape,r.2<18446744073709551616)∧∀n∈S.nums,n<18446744073709551616
def xO (S:Src)(i:Nat)(kind:Int)(n:Nat):Option Nat :=
 if i<S.tape.length then(if(S.tape.getD i (0,0)).1=kind∧(S.tape.getD i (0,0)).2<n then some (S.tape.getD i (0,0)).2 else none) else some (S.nums.getD (i-S.tape.length) 0%n)
def Vr (w:World)(S:Src)(i:Nat)(kind:Int)(n:Nat)(r:Ending)(w':World):Prop :=
 Below w.heap.size w w'∧match xO S i kind n with
  | some v=>r=.returned (.int .u64 (v:Int))
  | none=>r=ZI i kind n (S.tape.getD i (0,0))
theorem SR.drawn {w w':World}{S:Src}{i:Nat}{kind:Int}{n:Nat}{r:Ending}(hi:i<S.tape.length)(h:SR w i kind n S.tape[i] r w'):Vr w S i kind n r w':=by
 obtain⟨hb,h⟩:=h;refine⟨hb,?_⟩
 have e:S.tape.getD i (0,0)=S.tape[i]:=by rw[List.getD_eq_getElem?_getD,List.getElem?_eq_getElem hi];rfl
 unfold xO;rw[if_pos hi,e];rcases h with⟨h1,h2,rfl⟩|⟨h1,rfl⟩
 ·rw[if_pos ⟨h1,h2⟩]
 ·rw[if_neg h1]
theorem Vr.num {w w':World}{S:Src}{i:Nat}{kind:Int}{n:Nat}{r:Ending}(hi:¬i<S.tape.length)(h2:i-S.tape.length<S.nums.length)(hb:Below w.heap.size w w')(h:r=.returned (.int .u64 ((S.nums[i-S.tape.length]%n:Nat):Int))):Vr w S i kind n r w':=by
 refine⟨hb,?_⟩
 unfold xO;rw[if_neg hi,List.getD_eq_getElem?_getD,List.getElem?_eq_getElem h2]
 exact h
theorem Vr.cases {w w':World}{S:Src}{i:Nat}{kind:Int}{n:Nat}{r:Ending}(h:Vr w S i kind n r w'):(∃v:Nat,r=.returned (.int .u64 (v:Int))∧xO S i kind n=some v)∨(r=ZI i kind n (S.tape.getD i (0,0))∧xO S i kind n=none):=by
 obtain⟨hb,h⟩:=h;cases hd:xO S i kind n with
 | none=>rw[hd] at h;exact .inr ⟨h,rfl⟩
 | some v=>rw[hd] at h;exact .inl ⟨v,h,rfl⟩
def Z9 (k:Nat):Nat:=if k=0 then 50 else 41
def recv (k:Nat)(t n:Value):Value:=if k=0 then n else if k=1 then t else .agg #[t,n]
def Src.fits (S:Src)(k:Nat):Prop:=(k=0→S.tape=[])∧(k=1→S.nums=[])∧k≤1
theorem T7 (k:Nat)(args:Array Value)(w:World):(callFunc (Z9 k) args).run Tryz.prog w=.ok (.enter (Z9 k) args) w:=by
 unfold Z9;split
 ·kernel_rfl
 ·first
   | kernel_rfl
   | (split<;>kernel_rfl)
def ZA (k:Nat)(S:Src)(ta:Option Addr)(tc:Nat)(na:Option Addr)(nc:Nat)(ka:Option Addr)(kc:Nat)(see:Value):List Value :=
 [.func (.func (Z9 k)) #[recv k (.slice ta S.tape.length tc) (.slice na S.nums.length nc)] #[],.int .i64 (S.many:Int),.slice ka S.taken.length kc,see]
def Qh (p k:Nat)(S:Src)(see:Value)(ta:Option Addr)(tc:Nat)(na:Option Addr)(nc:Nat)(ka:Option Addr)(kc:Nat):List zv :=
 [ze p (ZA k S ta tc na nc ka kc see),zd 2 ka kc S.taken.length (zL S.taken),zd 2 ta tc S.tape.length (zL S.tape),zd 1 na nc S.nums.length (Zl S.nums)]
def x5 (p k:Nat)(S:Src)(see:Value):zv where
 at_ w F:=∃ta tc na nc ka kc,Sep w (Qh p k S see ta tc na nc ka kc) F
 lt:=by rintro w F ⟨_,_,_,_,_,_,h⟩;exact h.lt
 yE:=by
  rintro w w' F G ⟨ta,tc,na,nc,ka,kc,h⟩ c hd
  exact⟨ta,tc,na,nc,ka,kc,h.yE c hd⟩
theorem Own.src {w0 w:World}{p k:Nat}{S:Src}{see:Value}{R:List zv}(h:Own w0 w (x5 p k S see::R)):∃ta tc na nc ka kc,Own w0 w (ze p (ZA k S ta tc na nc ka kc see)::zd 2 ka kc S.taken.length (zL S.taken)::zd 2 ta tc S.tape.length (zL S.tape)::zd 1 na nc S.nums.length (Zl S.nums)::R):=by
 obtain⟨As,⟨ta,tc,na,nc,ka,kc,rfl⟩,h1⟩:=Own.unfold h (P:=fun As=>∃ta tc na nc ka kc,As=Qh p k S see ta tc na nc ka kc) (fun F ⟨ta,tc,na,nc,ka,kc,h⟩=>⟨_,⟨ta,tc,na,nc,ka,kc,rfl⟩,h⟩)
 exact⟨ta,tc,na,nc,ka,kc,h1⟩
theorem Own.Oz {w0 w:World}{p k:Nat}{S:Src}{see:Value}{R:List zv}{ta na ka:Option Addr}{tc nc kc:Nat}(h:Own w0 w (ze p (ZA k S ta tc na nc ka kc see)::zd 2 ka kc S.taken.length (zL S.taken)::zd 2 ta tc S.tape.length (zL S.tape)::zd 1 na nc S.nums.length (Zl S.nums)::R)):Own w0 w (x5 p k S see::R) :=
 Own.fold (As:=Qh p k S see ta tc na nc ka kc) h (fun F hF=>⟨ta,tc,na,nc,ka,kc,hF⟩)
theorem O9 {w0 w:World}{R:List zv}{p k:Nat}{S:Src}{see:Value}(h:Own w0 w (x5 p k S see::R))(hm:S.many<9223372036854775808)(ht:S.taken.length≤S.many) :
  Calls Tryz.prog 75 #[.pointer (some ⟨p,0,none⟩)] w fun r w'=>r=.returned (.int .i64 ((S.many-S.taken.length:Nat):Int))∧∃m,w'=w.drewN m:=by
 obtain⟨ta,tc,na,nc,ka,kc,h⟩:=h.src;obtain⟨g1,-⟩:=h.zi 0 rfl 1 _ rfl;obtain⟨g2,-⟩:=h.zi 0 rfl 2 _ rfl;generalize S.taken.length=n at *;generalize S.many=m at *;have hs:(m:Int)-(n:Int)=((m-n:Nat):Int):=by omega
 have hw:IntKind.i64.wrap ((m-n:Nat):Int)=((m-n:Nat):Int):=by rw[IntKind.wrap_i64];omega
 generalize m-n=d at *
 clear h hm ht;go_enter Tryz.func75,Tryz.ntmps75
 go_wp2_with fail;go_quiet (fail)
 go_wp2;go_ret;exact⟨Wj (by simp),_,rfl⟩
theorem LW {w:World}{k:Nat}{S:Src}(hS:S.ok)(hf:S.fits k)(ta na:Option Addr)(tc nc:Nat)(ht:zr w ta (zL S.tape))(hn:zr w na (Zl S.nums))(i:Nat)(hi:i<S.many)(kind:Int)(n:Nat)(hn1:1≤n)(hn2:n<9223372036854775808)(hm:S.many<9223372036854775808) :
  Calls Tryz.prog (Z9 k) #[recv k (.slice ta S.tape.length tc) (.slice na S.nums.length nc),.int .i64 (i:Int),.int .i64 kind,.int .i64 (n:Int)] w (Vr w S i kind n):=by
 unfold Z9 recv;by_cases h0:k=0
 ·rw[if_pos h0,if_pos h0]
  have e:=hf.1 h0;unfold Src.many at hi;rw[e] at hi;simp only[List.length_nil,Nat.zero_add] at hi;refine(Pq w na nc S.nums hn hS.2 i hi kind n hn1 hn2).mono (fun r w2 h2=>?_)
  obtain⟨h2,rfl⟩:=h2;exact Vr.num (by rw[e];simp) (by rw[e];simpa using hi) (Below.refl _ _) (by rw[h2];simp[e])
 ·rw[if_neg h0,if_neg h0]
  by_cases h1:k=1
  ·rw[if_pos h1]
   have e:=hf.2.1 h1;unfold Src.many at hi;rw[e] at hi;simp only[List.length_nil,Nat.add_zero] at hi;exact(LK w ta tc S.tape ht hS.1 i hi kind n hn1 hn2).mono (fun r w2 h2=>h2.drawn hi)
  ·have:=hf.2.2;omega
def KV:Ending:=.panicked [{ v:=.iface 153 (.agg #[]),recovered:=false }]
def XD (n:Int):Nat:=(max n 1).toNat
theorem TP (n:Int):1≤XD n:=by unfold XD;omega
theorem Kf (n:Int):max n 1=(XD n:Int):=by unfold XD;omega
theorem KO (n:Int)(h:n<9223372036854775808):XD n<9223372036854775808:=by unfold XD;omega
def Src.take (S:Src)(kind:Int)(v:Nat):Src:={ S with taken:=S.taken++[(kind,v)] }
def P9 (S:Src)(kind n:Int)(r:Ending)(S':Src):Prop :=
 (S.taken.length=S.many∧r=KV∧S'=S) ∨
 (S.taken.length<S.many∧xO S S.taken.length kind (XD n)=none∧r=ZI S.taken.length kind (XD n) (S.tape.getD S.taken.length (0,0))∧S'=S) ∨
 (S.taken.length<S.many∧∃v,xO S S.taken.length kind (XD n)=some v∧r=.returned (.int .i64 (v:Int))∧S'=S.take kind v)
theorem U8 {S:Src}{i:Nat}{kind:Int}{n v:Nat}(hn:1≤n)(h:xO S i kind n=some v):v<n:=by
 unfold xO at h;split at h
 ·split at h
  ·rename_i h2;cases h;exact h2.2
  ·cases h
 ·cases h;exact Nat.mod_lt _ (by omega)
theorem OR {w0 w:World}{R:List zv}{p k:Nat}{S:Src}(h:Own w0 w (x5 p k S .nilFunc::R))(hS:S.ok)(hf:S.fits k)(hm:S.many<9223372036854775808)(ht:S.taken.length≤S.many)(hk:S.taken.length≤1000000)(kind n:Int)(hn:n<9223372036854775808) :
  Calls Tryz.prog 52 #[.pointer (some ⟨p,0,none⟩),.int .i64 kind,.int .i64 n] w fun r w'=>∃S',P9 S kind n r S'∧Own w0 w' (x5 p k S' .nilFunc::R):=by
 have hl:=O9 h hm ht;have H:=Qq h;have HL:=Qq hl;clear h hl;by_cases hd:S.taken.length=S.many
 ·have e:((S.many-S.taken.length:Nat):Int)=0:=by omega
  rw[e] at HL;have HS:Hid (P9 S kind n KV S):=Qq (.inl ⟨hd,rfl,rfl⟩)
  clear hS hf hm ht hk hd e;go_enter Tryz.func52,Tryz.ntmps52
  go_wp2_with fail;refine HL.out.mono ?_
  rintro r w1 ⟨rfl,m,rfl⟩;have H1:=Qq (H.out.step (below_drewN (Below.refl _ _) m))
  clear H HL;go_wp2;exact⟨rfl,_,HS.out,H1.out⟩
 ·have hlt:S.taken.length<S.many:=by omega
  have e:¬((S.many-S.taken.length:Nat):Int)=0:=by omega
  have hdraw:∀w1,Below w.heap.size w w1→∀ta tc na nc,zr w ta (zL S.tape)→zr w na (Zl S.nums)→Calls Tryz.prog (Z9 k) #[recv k (.slice ta S.tape.length tc) (.slice na S.nums.length nc),.int .i64 (S.taken.length:Int),.int .i64 kind,.int .i64 (XD n:Int)] w1 (Vr w1 S S.taken.length kind (XD n)) :=
   fun w1 hb ta tc na nc h1 h2=>LW hS hf ta na tc nc (h1.below hb) (h2.below hb) _ hlt kind _ (TP n) (KO n hn) hm
  obtain⟨ta,tc,na,nc,ka,kc,h⟩:=H.out.src;have hdr:=fun w1 hb=>hdraw w1 hb ta tc na nc ((h.xl 2 rfl).cells) ((h.xl 3 rfl).cells)
  have en:∀(args:Array Value) (w:World),(callFunc (Z9 k) args).run Tryz.prog w=.ok (.enter (Z9 k) args) w:=T7 k
  have HDR:=Qq hdr;obtain⟨g0,-⟩:=h.zi 0 rfl 0 _ rfl;obtain⟨g2,-⟩:=h.zi 0 rfl 2 _ rfl;clear hdraw hdr;generalize recv k (.slice ta S.tape.length tc) (.slice na S.nums.length nc)=rv at *
  generalize Z9 k=F at *;have HS:=Qq hS;have HF:=Qq hf;have HM:=Qq hm;have HLT:=Qq hlt;have HK:=Qq hk;generalize hdd:S.many-S.taken.length=d at *
  have HDD:=Qq hdd;obtain⟨nk,hnk⟩:∃nk,nk=S.taken.length:=⟨_,rfl⟩
  rw[←hnk] at g2 HDR;have HNK:=Qq hnk;have H0:=Qq h;have G0:=Qq g0;have G2:=Qq g2;have hmx:=Kf n;have hmp:=TP n;have hml:=KO n hn;have hpan:∀w',Below w.heap.size w w'→xO S nk kind (XD n)=none→∃S',P9 S kind n (ZI nk kind (XD n) (S.tape.getD nk (0,0))) S'∧Own w0 w' (x5 p k S' .nilFunc::R):=fun w' hb hv =>
   ⟨S,.inr (.inl ⟨hlt,by rw[←hnk];exact hv,by rw[hnk],rfl⟩),H.out.step hb⟩
  have HP:=Qq hpan;clear hpan;have hend:∀v w',xO S nk kind (XD n)=some v→Own w0 w' (x5 p k (S.take kind v) .nilFunc::R)→∃S',P9 S kind n (.returned (.int .i64 (v:Int))) S'∧Own w0 w' (x5 p k S' .nilFunc::R):=fun v w' hv ho =>
   ⟨_,.inr (.inr ⟨hlt,v,by rw[←hnk];exact hv,rfl,rfl⟩),ho⟩
  have HEND:=Qq hend;clear hend;have hvl:∀v,xO S nk kind (XD n)=some v→v<XD n:=fun v hv=>U8 hmp hv
  have HVL:=Qq hvl;clear hvl;generalize XD n=c at *;clear hS hf hm ht hk hd h hlt hdd hnk g0 g2;go_enter Tryz.func52,Tryz.ntmps52
  go_wp2_with fail;refine HL.out.mono ?_
  rintro r w1 ⟨rfl,m,rfl⟩;have hB1:Below w.heap.size w (w.drewN m):=below_drewN (Below.refl _ _) m
  generalize w.drewN m=W at *;have g0:=zq G0.out hB1;have g2:=zq G2.out hB1;have HB1:=Qq hB1;clear hB1 HL;go_wp2_with fail;have hmv:(if n<1 then(1:Int) else n)=(c:Int):=by rw[←hmx];omega
  have HMV:=Qq hmv;clear hmx hmv;refine xY (fun w'=>w'.cell? ⟨p,0,none⟩=some (.func (.func F) #[rv] #[])∧w'.cell? ⟨p,2,none⟩=some (.slice ka nk kc)∧Below W.heap.size W w') 17 (Array.replicate 17 false) (by kernel_rfl) (by kernel_rfl) ?_
  have hBd:=zg W;generalize W.drew=Wd at *;refine zm 0 13 _ (Qj 17 8191) 4 (by kernel_rfl) Xn (⟨zq g0 hBd,zq g2 hBd,hBd⟩) (by kernel_rfl) ?_
  simp only[QX,QV,QJ];(repeat((first|refine Qx (h:=?_)|refine Qv (h:=?_));simp only[Act.put,QW,QY,QZ]));refine zb ?_;rw[HMV.out];refine yz 13 15 _ (Qj 17 16383) (Qj 17 40959) 3 (by kernel_rfl) (fun K hK=>?_) (fun K hK=>?_)
  ·skip
   have HKK:=Qq hK;clear hK;simp only[QQ,QJ];refine zc (by rfl) ?_;go_simp;refine(HDR.out _ (zB HB1.out hBd)).mono ?_
   intro r w2 h2;rcases h2.cases with⟨v,rfl,hv⟩|⟨rfl,hv⟩
   ·have hb2:Below W.heap.size W w2:=zB hBd h2.1
    refine HKK.out _ _ (⟨zq g0 hb2,zq g2 hb2,hb2⟩) ?_
    clear HKK K;refine zm 14 1 _ (Qj 17 32767) 2 (by kernel_rfl) Xn (⟨zq g0 hb2,zq g2 hb2,hb2⟩) (by kernel_rfl) ?_
    simp only[QX,QV,QQ,QJ];(repeat((first|refine Qx (h:=?_)|refine Qv (h:=?_));simp only[Act.put,QW,QY,QZ]));refine zb ?_;have h3:=(H0.out.step (zB HB1.out hb2)).alloc [.int .i64 0,.int .u64 0] 93 (b:=w2.heap.size) rfl
    have hb3:Below W.heap.size W (w2.alloc (.cells #[.int .i64 0,.int .u64 0] 93)):=zB hb2 (below_alloc1 _ _)
    have hgw:W.heap.size≤w2.heap.size:=hb2.size
    refine zh 15 _ (Qj 17 65535) 1 (by kernel_rfl) (fun K hK=>?_)
    have HKK:=Qq hK;clear hK;simp only[QQ,QJ];refine zc (by rfl) ?_;go_simp;refine HKK.out _ _ (⟨zq g0 hb3,zq g2 hb3,hb3⟩) ?_
    clear HKK K;generalize w2.alloc (.cells #[.int .i64 0,.int .u64 0] 93)=w3 at *
    generalize w2.heap.size=g at *;obtain⟨x0,y0⟩:=h3.zi 0 rfl 0 _ rfl;obtain⟨x1,y1⟩:=h3.zi 0 rfl 1 _ rfl;have hb4:Below W.heap.size W ((w3.setCell ⟨g,0,none⟩ (.int .i64 kind)).setCell ⟨g,1,none⟩ (.int .u64 (v:Int))):=(hb3.setCell hgw _).setCell hgw _
    refine zh 16 _ (Qj 17 131071) 0 (by kernel_rfl) (fun K hK=>?_)
    have HKK:=Qq hK;clear hK;simp only[QQ,QJ];refine zc (by rfl) ?_;go_simp;refine HKK.out _ _ (⟨zq g0 hb4,zq g2 hb4,hb4⟩) ?_
    clear HKK K;refine wpAnyH_done (by kernel_rfl) (?_) _
    have h4:=(h3.set 0 (.int .i64 kind)).set 1 (.int .u64 (v:Int))
    have HG:=Qq h4;clear h4 h3 hb3 hb2 h2;go_wp2_with fail;have HK4:=Qq HG.out;obtain⟨q0,-⟩:=HK4.out.zi 0 rfl 0 _ rfl;obtain⟨q1,-⟩:=HK4.out.zi 0 rfl 1 _ rfl;obtain⟨q2,-⟩:=HK4.out.zi 1 rfl 2 _ rfl;rw[show(Value.slice ka S.taken.length kc)=Value.slice ka nk kc by rw[HNK.out]] at q2
    generalize (w3.setCell ⟨g,0,none⟩ (.int .i64 kind)).setCell ⟨g,1,none⟩ (.int .u64 (v:Int))=W5 at *
    have SCB:∀{wx:World} {As:List zv},Own w0 wx (ze g [.int .i64 kind,.int .u64 (v:Int)]::ze p (ZA k S ta tc na nc ka kc .nilFunc)::As)→wx.cell? ⟨p,2,none⟩=some (.slice ka nk kc)∧wx.cell? ⟨g,0,none⟩=some (.int .i64 kind)∧wx.cell? ⟨g,1,none⟩=some (.int .u64 (v:Int)):=fun h=>⟨by rw[HNK.out];exact(h.zi 1 rfl 2 _ rfl).1,(h.zi 0 rfl 0 _ rfl).1,(h.zi 0 rfl 1 _ rfl).1⟩
    refine xg (fun wx=>wx.cell? ⟨p,2,none⟩=some (.slice ka nk kc)∧wx.cell? ⟨g,0,none⟩=some (.int .i64 kind)∧wx.cell? ⟨g,1,none⟩=some (.int .u64 (v:Int))) 10 11 (Array.replicate 11 false) (by kernel_rfl) (by kernel_rfl) ?_
    have h6:Own w0 W5.drew (ze g [.int .i64 kind,.int .u64 (v:Int)]::ze p (ZA k S ta tc na nc ka kc .nilFunc)::zd 2 ka kc S.taken.length (zL S.taken)::zd 2 ta tc S.tape.length (zL S.tape)::zd 1 na nc S.nums.length (Zl S.nums)::R):=HK4.out.step (zg W5)
    clear HK4 q0 q1 q2;generalize W5.drew=W6 at *;refine yw 0 6 _ (Qj 11 63) 5 (by kernel_rfl) za (SCB h6) (by kernel_rfl) ?_
    simp only[QX,QV,QJ];(repeat((first|refine Qx (h:=?_)|refine Qv (h:=?_));simp only[Act.put,QW,QY,QZ]));refine zb ?_;have hrow:=h6.xl 2 rfl;obtain⟨i0,hi0,hz0,hz1,hz2⟩:=info_parts Rx;rw[←HNK.out] at hrow;have o2:=h6.step (below_alloc1 W6 (.cells #[.int .i64 kind,.int .u64 (v:Int)] 93))
    refine yj 6 _ (Qj 11 127) 4 (by kernel_rfl) (fun K hK=>?_)
    have HKK:=Qq hK;clear hK;simp only[QQ,QJ];refine zc (by rfl) ?_;go_simp;refine HKK.out _ _ (SCB o2) ?_
    clear HKK K;refine yj 7 _ (Qj 11 255) 3 (by kernel_rfl) (fun K hK=>?_)
    have HKK:=Qq hK;clear hK;simp only[QQ,QJ];refine zc (by rfl) ?_;refine yx (n:=nk) (m:=1) (cs:=zL S.taken) (ds:=zL [(kind,v)]) _ _ 70 (by rfl) 93 i0 _ Tryz.underlying70 hi0 hz0 hz1 hz2 rfl (by omega) (by omega) (by rfl) (by rfl) (hrow.below (below_alloc1 _ _)) (zr.new W6 (zL [(kind,v)]) _ rfl) rfl (SA _) (by have:=HK.out;rw[HNK.out];omega) ?_
    intro a9 c9 w9 k9 ch9 f9;have o3:Own w0 w9 (ze g [.int .i64 kind,.int .u64 (v:Int)]::ze p (ZA k S ta tc na nc ka kc .nilFunc)::zd 2 a9 c9 (nk+1) (zL S.taken++zL [(kind,v)])::zd 2 ta tc S.tape.length (zL S.tape)::zd 1 na nc S.nums.length (Zl S.nums)::R) :=
     ((Own.yJ (o2.pick 2 rfl) k9 ch9 f9).pick 2 rfl).pick 2 rfl
    refine HKK.out _ _ (SCB o3) ?_
    clear HKK K;refine xF 8 2 _ (Qj 11 1023) 1 (by kernel_rfl) za (by kernel_rfl) ?_
    simp only[QX,QV,QQ,QJ];(repeat((first|refine Qx (h:=?_)|refine Qv (h:=?_));simp only[Act.put,QW,QY,QZ]));refine zb ?_;obtain⟨q2,y2⟩:=o3.zi 1 rfl 2 _ rfl;have o4:=o3.setAt 1 rfl 2 (.slice a9 (nk+1) c9)
    have hfin:Own w0 (w9.setCell ⟨p,2,none⟩ (.slice a9 (nk+1) c9)) (ze g [.int .i64 kind,.int .u64 (v:Int)]::x5 p k (S.take kind v) .nilFunc::R):=by
     have e:nk+1=(S.take kind v).taken.length:=by rw[HNK.out];simp[Src.take]
     have e2:zL S.taken++zL [(kind,v)]=zL (S.take kind v).taken:=by unfold Src.take zL;simp
     have o5:Own w0 (w9.setCell ⟨p,2,none⟩ (.slice a9 (nk+1) c9)) (ze p ((ZA k S ta tc na nc ka kc .nilFunc).set 2 (.slice a9 (nk+1) c9))::zd 2 a9 c9 (nk+1) (zL S.taken++zL [(kind,v)])::zd 2 ta tc S.tape.length (zL S.tape)::zd 1 na nc S.nums.length (Zl S.nums)::ze g [.int .i64 kind,.int .u64 (v:Int)]::R):=((((o4.pick 4 rfl).pick 4 rfl).pick 4 rfl).pick 4 rfl)
     rw[e2,e] at o5;rw[e];exact(Own.Oz (S:=S.take kind v) o5).pick 1 rfl
    have HFIN:=Qq hfin;clear hfin o4 o3 o2 k9 ch9 f9 hrow hi0 hz0 hz1 hz2 i0 h6 SCB HG;refine xE 10 _ (Qj 11 2047) 0 (by kernel_rfl) (fun K hK=>?_)
    have HKK:=Qq hK;clear hK;simp only[QQ,QJ];refine zc (by rfl) ?_;go_simp;refine HKK.out _ _ ?_
    clear HKK K;refine xG (by kernel_rfl) (NoPanic.normal ?_) _
    generalize w9.setCell ⟨p,2,none⟩ (.slice a9 (nk+1) c9)=w10 at *
    obtain⟨_,_,_,_,_,_,hs⟩:=(HFIN.out.pick 1 rfl).src
    obtain⟨z3,-⟩:=hs.zi 0 rfl 3 _ rfl;obtain⟨z1,-⟩:=HFIN.out.zi 0 rfl 1 _ rfl;have hvv:=HVL.out v hv;have hvw:IntKind.i64.wrap (v:Int)=(v:Int):=by rw[IntKind.wrap_i64];omega
    have hne:∀w:World,(binOp .neq 133 .nilFunc .nilFunc).run Tryz.prog w=.ok (.bool false) w:=fun _=>rfl
    have HRES:=Qq (HEND.out v _ hv HFIN.out.drop)
    clear hs HFIN HEND hvv hv HVL;go_wp2;go_ret;exact HRES.out
   ·exact⟨rfl,HP.out _ (zB HB1.out (zB hBd h2.1)) hv⟩
  ·skip
   have hgw:W.heap.size≤Wd.heap.size:=hBd.size
   have h3:=(H0.out.step (zB HB1.out hBd)).alloc [.int .i64 0,.int .u64 0] 93 (b:=Wd.heap.size) rfl
   have hb3:Below W.heap.size W (Wd.alloc (.cells #[.int .i64 0,.int .u64 0] 93)):=zB hBd (below_alloc1 _ _)
   have HKK:=Qq hK;clear hK;simp only[QQ,QJ];refine zc (by rfl) ?_;go_simp;refine HKK.out _ _ (⟨zq g0 hb3,zq g2 hb3,hb3⟩) ?_
   clear HKK K;generalize Wd.alloc (.cells #[.int .i64 0,.int .u64 0] 93)=wa at *
   generalize Wd.heap.size=g at *;refine zh 13 _ (Qj 17 49151) 2 (by kernel_rfl) (fun K hK=>?_)
   have HKK:=Qq hK;clear hK;simp only[QQ,QJ];refine zc (by rfl) ?_;go_simp;refine(HDR.out _ (zB HB1.out hb3)).mono ?_
   intro r w3 h2;rcases h2.cases with⟨v,rfl,hv⟩|⟨rfl,hv⟩
   ·have hb2:Below W.heap.size W w3:=zB hb3 h2.1
    replace h3:=h3.step h2.1
    refine HKK.out _ _ (⟨zq g0 hb2,zq g2 hb2,hb2⟩) ?_
    clear HKK K;refine zm 14 1 _ (Qj 17 65535) 1 (by kernel_rfl) Xn (⟨zq g0 hb2,zq g2 hb2,hb2⟩) (by kernel_rfl) ?_
    simp only[QX,QV,QQ,QJ];(repeat((first|refine Qx (h:=?_)|refine Qv (h:=?_));simp only[Act.put,QW,QY,QZ]));refine zb ?_;obtain⟨x0,y0⟩:=h3.zi 0 rfl 0 _ rfl;obtain⟨x1,y1⟩:=h3.zi 0 rfl 1 _ rfl;have hb4:Below W.heap.size W ((w3.setCell ⟨g,0,none⟩ (.int .i64 kind)).setCell ⟨g,1,none⟩ (.int .u64 (v:Int))):=(hb2.setCell hgw _).setCell hgw _
    refine zh 16 _ (Qj 17 131071) 0 (by kernel_rfl) (fun K hK=>?_)
    have HKK:=Qq hK;clear hK;simp only[QQ,QJ];refine zc (by rfl) ?_;go_simp;refine HKK.out _ _ (⟨zq g0 hb4,zq g2 hb4,hb4⟩) ?_
    clear HKK K;refine wpAnyH_done (by kernel_rfl) (?_) _
    have h4:=(h3.set 0 (.int .i64 kind)).set 1 (.int .u64 (v:Int))
    have HG:=Qq h4;clear h4 h3 hb3 hb2 h2;go_wp2_with fail;have HK4:=Qq HG.out;obtain⟨q0,-⟩:=HK4.out.zi 0 rfl 0 _ rfl;obtain⟨q1,-⟩:=HK4.out.zi 0 rfl 1 _ rfl;obtain⟨q2,-⟩:=HK4.out.zi 1 rfl 2 _ rfl;rw[show(Value.slice ka S.taken.length kc)=Value.slice ka nk kc by rw[HNK.out]] at q2
    generalize (w3.setCell ⟨g,0,none⟩ (.int .i64 kind)).setCell ⟨g,1,none⟩ (.int .u64 (v:Int))=W5 at *
    have SCB:∀{wx:World} {As:List zv},Own w0 wx (ze g [.int .i64 kind,.int .u64 (v:Int)]::ze p (ZA k S ta tc na nc ka kc .nilFunc)::As)→wx.cell? ⟨p,2,none⟩=some (.slice ka nk kc)∧wx.cell? ⟨g,0,none⟩=some (.int .i64 kind)∧wx.cell? ⟨g,1,none⟩=some (.int .u64 (v:Int)):=fun h=>⟨by rw[HNK.out];exact(h.zi 1 rfl 2 _ rfl).1,(h.zi 0 rfl 0 _ rfl).1,(h.zi 0 rfl 1 _ rfl).1⟩
    refine xg (fun wx=>wx.cell? ⟨p,2,none⟩=some (.slice ka nk kc)∧wx.cell? ⟨g,0,none⟩=some (.int .i64 kind)∧wx.cell? ⟨g,1,none⟩=some (.int .u64 (v:Int))) 10 11 (Array.replicate 11 false) (by kernel_rfl) (by kernel_rfl) ?_
    have h6:Own w0 W5.drew (ze g [.int .i64 kind,.int .u64 (v:Int)]::ze p (ZA k S ta tc na nc ka kc .nilFunc)::zd 2 ka kc S.taken.length (zL S.taken)::zd 2 ta tc S.tape.length (zL S.tape)::zd 1 na nc S.nums.length (Zl S.nums)::R):=HK4.out.step (zg W5)
    clear HK4 q0 q1 q2;generalize W5.drew=W6 at *;refine yw 0 6 _ (Qj 11 63) 5 (by kernel_rfl) za (SCB h6) (by kernel_rfl) ?_
    simp only[QX,QV,QJ];(repeat((first|refine Qx (h:=?_)|refine Qv (h:=?_));simp only[Act.put,QW,QY,QZ]));refine zb ?_;have hrow:=h6.xl 2 rfl;obtain⟨i0,hi0,hz0,hz1,hz2⟩:=info_parts Rx;rw[←HNK.out] at hrow;have o2:=h6.step (below_alloc1 W6 (.cells #[.int .i64 kind,.int .u64 (v:Int)] 93))
    refine yj 6 _ (Qj 11 127) 4 (by kernel_rfl) (fun K hK=>?_)
    have HKK:=Qq hK;clear hK;simp only[QQ,QJ];refine zc (by rfl) ?_;go_simp;refine HKK.out _ _ (SCB o2) ?_
    clear HKK K;refine yj 7 _ (Qj 11 255) 3 (by kernel_rfl) (fun K hK=>?_)
    have HKK:=Qq hK;clear hK;simp only[QQ,QJ];refine zc (by rfl) ?_;refine yx (n:=nk) (m:=1) (cs:=zL S.taken) (ds:=zL [(kind,v)]) _ _ 70 (by rfl) 93 i0 _ Tryz.underlying70 hi0 hz0 hz1 hz2 rfl (by omega) (by omega) (by rfl) (by rfl) (hrow.below (below_alloc1 _ _)) (zr.new W6 (zL [(kind,v)]) _ rfl) rfl (SA _) (by have:=HK.out;rw[HNK.out];omega) ?_
    intro a9 c9 w9 k9 ch9 f9;have o3:Own w0 w9 (ze g [.int .i64 kind,.int .u64 (v:Int)]::ze p (ZA k S ta tc na nc ka kc .nilFunc)::zd 2 a9 c9 (nk+1) (zL S.taken++zL [(kind,v)])::zd 2 ta tc S.tape.length (zL S.tape)::zd 1 na nc S.nums.length (Zl S.nums)::R) :=
     ((Own.yJ (o2.pick 2 rfl) k9 ch9 f9).pick 2 rfl).pick 2 rfl
    refine HKK.out _ _ (SCB o3) ?_
    clear HKK K;refine xF 8 2 _ (Qj 11 1023) 1 (by kernel_rfl) za (by kernel_rfl) ?_
    simp only[QX,QV,QQ,QJ];(repeat((first|refine Qx (h:=?_)|refine Qv (h:=?_));simp only[Act.put,QW,QY,QZ]));refine zb ?_;obtain⟨q2,y2⟩:=o3.zi 1 rfl 2 _ rfl;have o4:=o3.setAt 1 rfl 2 (.slice a9 (nk+1) c9)
    have hfin:Own w0 (w9.setCell ⟨p,2,none⟩ (.slice a9 (nk+1) c9)) (ze g [.int .i64 kind,.int .u64 (v:Int)]::x5 p k (S.take kind v) .nilFunc::R):=by
     have e:nk+1=(S.take kind v).taken.length:=by rw[HNK.out];simp[Src.take]
     have e2:zL S.taken++zL [(kind,v)]=zL (S.take kind v).taken:=by unfold Src.take zL;simp
     have o5:Own w0 (w9.setCell ⟨p,2,none⟩ (.slice a9 (nk+1) c9)) (ze p ((ZA k S ta tc na nc ka kc .nilFunc).set 2 (.slice a9 (nk+1) c9))::zd 2 a9 c9 (nk+1) (zL S.taken++zL [(kind,v)])::zd 2 ta tc S.tape.length (zL S.tape)::zd 1 na nc S.nums.length (Zl S.nums)::ze g [.int .i64 kind,.int .u64 (v:Int)]::R):=((((o4.pick 4 rfl).pick 4 rfl).pick 4 rfl).pick 4 rfl)
     rw[e2,e] at o5;rw[e];exact(Own.Oz (S:=S.take kind v) o5).pick 1 rfl
    have HFIN:=Qq hfin;clear hfin o4 o3 o2 k9 ch9 f9 hrow hi0 hz0 hz1 hz2 i0 h6 SCB HG;refine xE 10 _ (Qj 11 2047) 0 (by kernel_rfl) (fun K hK=>?_)
    have HKK:=Qq hK;clear hK;simp only[QQ,QJ];refine zc (by rfl) ?_;go_simp;refine HKK.out _ _ ?_
    clear HKK K;refine xG (by kernel_rfl) (NoPanic.normal ?_) _
    generalize w9.setCell ⟨p,2,none⟩ (.slice a9 (nk+1) c9)=w10 at *
    obtain⟨_,_,_,_,_,_,hs⟩:=(HFIN.out.pick 1 rfl).src
    obtain⟨z3,-⟩:=hs.zi 0 rfl 3 _ rfl;obtain⟨z1,-⟩:=HFIN.out.zi 0 rfl 1 _ rfl;have hvv:=HVL.out v hv;have hvw:IntKind.i64.wrap (v:Int)=(v:Int):=by rw[IntKind.wrap_i64];omega
    have hne:∀w:World,(binOp .neq 133 .nilFunc .nilFunc).run Tryz.prog w=.ok (.bool false) w:=fun _=>rfl
    have HRES:=Qq (HEND.out v _ hv HFIN.out.drop)
    clear hs HFIN HEND hvv hv HVL;go_wp2;go_ret;exact HRES.out
   ·exact⟨rfl,HP.out _ (zB HB1.out (zB hb3 h2.1)) hv⟩
theorem Own.GG {w0 w w':World}{As:List zv}{p k:Nat}{S:Src}{see:Value}{ta na:Option Addr}{tc nc:Nat}(h:Own w0 w As)(hb:Below w.heap.size w w')(ht:zT 2 w' ta tc S.tape.length (zL S.tape))(hn:zT 1 w' na nc S.nums.length (Zl S.nums))(hk:S.taken=[])
  (hB:zH w' p (ZA k S ta tc na nc none 0 see)) (hp:w.heap.size≤p) (hpl:p<w'.heap.size) (h1:∀x∈zY ta,w.heap.size≤x) (h2:∀x∈zY na,w.heap.size≤x) (h3:∀x∈zY ta,x≠p) (h4:∀x∈zY na,x≠p) (h5:∀x∈zY ta,x∉zY na) :
  Own w0 w' (x5 p k S see::As):=by
 refine h.add hb (A:=x5 p k S see) (F:=[p]++([]++(zY ta++(zY na++[])))) ⟨ta,tc,na,nc,none,0,?_⟩ ?_
 ·refine⟨[p],_,rfl,⟨rfl,hpl,hB⟩,?_,[],_,rfl,⟨rfl,?_⟩,by simp,zY ta,_,rfl,⟨rfl,ht⟩,by simpa using h5,zY na,[],rfl,⟨rfl,hn⟩,by simp,rfl⟩
  ·intro x hx hc
   simp at hx hc
   subst hx;rcases hc with hc|hc
   ·exact h3 _ hc rfl
   ·exact h4 _ hc rfl
  ·rw[hk];exact zT.nil 2 w'
 ·intro x hx
  simp at hx
  rcases hx with rfl|hx|hx
  ·exact hp
  ·exact h1 x hx
  ·exact h2 x hx
theorem S9 {w0 w:World}{As:List zv}(h:Own w0 w As)(a:Option Addr)(c:Nat)(l:List Nat)(hc:zr w a (Zl l))(h0:a=none→l.length=0∧c=0)(hl:l.length*8≤140737488355328) :
  Calls Tryz.prog 26 #[.slice a l.length c] w fun r w'=>∃p,r=.returned (.pointer (some ⟨p,0,none⟩))∧Own w0 w' (x5 p 0 ⟨[],l,[]⟩ .nilFunc::As)∧Below w.heap.size w w':=by
 have hmf:∀(fn:Fn) (first cap:Array Value) (w:World),(Instr.makeFunc fn first cap).run Tryz.prog w=.ok (.func fn first cap) w:=fun _ _ _ _=>rfl
 have hcl:=R7 w a l.length c (Zl l) hc (Kg l) (Lo l) h0 hl
 have H:=Qq h;have HCL:=Qq hcl;obtain⟨N,hN⟩:∃N,N=l.length:=⟨_,rfl⟩
 have HN:=Qq hN;rw[←hN] at HCL ⊢;clear h hc h0 hl hcl hN;go_enter Tryz.func26,Tryz.ntmps26
 go_wp2_with fail;refine HCL.out.mono ?_
 rintro r w1 ⟨a',c',rfl,k1,k2,k3⟩;have hB:=zH.mk w1 [.func (.func 50) #[.slice a' N c'] #[],.int .i64 (N:Int),.slice none 0 0,.nilFunc] 135 _ rfl
 have hf:Own w0 (w1.alloc (.cells #[.func (.func 50) #[.slice a' N c'] #[],.int .i64 (N:Int),.slice none 0 0,.nilFunc] 135)) (x5 w1.heap.size 0 ⟨[],l,[]⟩ .nilFunc::As)∧Below w.heap.size w (w1.alloc (.cells #[.func (.func 50) #[.slice a' N c'] #[],.int .i64 (N:Int),.slice none 0 0,.nilFunc] 135)):=by
  have hb:=zB k3 (below_alloc1 w1 (.cells #[.func (.func 50) #[.slice a' N c'] #[],.int .i64 (N:Int),.slice none 0 0,.nilFunc] 135))
  refine⟨Own.GG (S:=⟨[],l,[]⟩) (ta:=none) (tc:=0) (na:=a') (nc:=c') H.out hb (zT.nil 2 _) (by rw[HN.out] at k1;exact k1.below (below_alloc1 _ _)) rfl ?_ k3.size (by simp) (by simp[zY]) k2 (by simp[zY]) (fun x hx=>by have:=k1.lt x hx;omega) (by simp[zY]),hb⟩
  unfold ZA Src.many Z9 recv;simp only[List.length_nil,Nat.zero_add,if_true];rw[←HN.out];exact hB
 have HF:=Qq hf;clear hf hB k1 k2 k3 HCL H;go_wp2;go_ret;exact⟨_,rfl,HF.out⟩
end Go.Proofs.YtlkjheheofgdgaaGreat

open Go Go.RowKit
namespace Go.Proofs.YtlkjheheofgdgaaGreat
structure UU (sp:Nat) where
 T:Type
 A:T→List zv
 ok:Nat→T→Prop
 less:∀j s,ok (j+1) s→ok j s
 Dv:T→Int→Int→Int→T→Prop
 Dp:T→Int→Int→Ending→T→Prop
 hd:∀{w0 w:World} (s:T) (kind n:Int) (Z:List zv) (j:Nat),ok (j+1) s→1≤n∧n<9223372036854775808→Own w0 w (A s++Z)→Calls Tryz.prog 52 #[.pointer (some ⟨sp,0,none⟩),.int .i64 kind,.int .i64 n] w fun r w' =>
  (∃v s',r=.returned (.int .i64 v)∧(0≤v∧v<n)∧Dv s kind n v s'∧ok j s'∧Own w0 w' (A s'++Z))∨(∃ch s',r=.panicked ch∧Dp s kind n r s'∧ok j s'∧Own w0 w' (A s'++Z))
def XI (sp k:Nat):UU sp where
 T:=Src
 A S:=[x5 sp k S .nilFunc]
 ok j S:=S.ok∧S.fits k∧S.many<9223372036854775808∧S.taken.length≤S.many∧S.taken.length+j≤1000001
 less:=fun j S h=>⟨h.1,h.2.1,h.2.2.1,h.2.2.2.1,by have:=h.2.2.2.2;omega⟩
 Dv S kind n v S':=S.taken.length<S.many∧∃u:Nat,v=(u:Int)∧xO S S.taken.length kind (XD n)=some u∧S'=S.take kind u
 Dp S kind n r S':=S'=S∧((S.taken.length=S.many∧r=KV)∨(S.taken.length<S.many∧xO S S.taken.length kind (XD n)=none∧r=ZI S.taken.length kind (XD n) (S.tape.getD S.taken.length (0,0))))
 hd:=by
  intro w0 w S kind n Z j hok hn h;obtain⟨h1,h2,h3,h4,h5⟩:=hok;refine(OR (R:=Z) h h1 h2 h3 h4 (by omega) kind n hn.2).mono (fun r w' hh=>?_)
  obtain⟨S',hs,ho⟩:=hh;rcases hs with⟨a,rfl,rfl⟩|⟨a,b,rfl,rfl⟩|⟨a,v,b,rfl,rfl⟩
  ·exact .inr ⟨_,S',rfl,⟨rfl,.inl ⟨a,rfl⟩⟩,⟨h1,h2,h3,h4,by omega⟩,ho⟩
  ·exact .inr ⟨_,S',rfl,⟨rfl,.inr ⟨a,b,rfl⟩⟩,⟨h1,h2,h3,h4,by omega⟩,ho⟩
  ·have hl:=U8 (TP n) b
   have hc:(XD n:Int)=n:=by have:=Kf n;omega
   exact .inl ⟨(v:Int),S.take kind v,rfl,⟨by omega,by omega⟩,⟨a,v,rfl,b,rfl⟩,⟨h1,h2,h3,by show(S.taken++[(kind,v)]).length≤S.many;rw[List.length_append,List.length_singleton];omega,by show(S.taken++[(kind,v)]).length+j≤_;rw[List.length_append,List.length_singleton];omega⟩,ho⟩
structure Ev where
 kind:Int
 M:Int
 G:Int
 rd:List Int
def Sd.ins (X:Sd)(m:Nat):yq:=(X.W.ins (X.m m).G.toNat).getD (0,0,0,0)
def xy (X:Sd)(m:Nat):Option (Int×Int) :=
 if m=X.ms.length then none
 else if(X.m m).P = -1 then none
 else if(X.m m).G = -1 then
  if 0<(X.m m).L∧(X.p (X.m m).P.toNat).q.nx.isSome then none
  else if XP X (X.m m).P.toNat then some (2,(X.ps.length:Int)) else none
 else if X.W.lets (X.m m).G∧1≤xJ X.W (X.ins m) then some (Vi (X.ins m),(xJ X.W (X.ins m):Int)) else none
def yd (X:Sd)(m:Nat)(d:Int):Sd×Ev :=
 if m=X.ms.length then((Xy X).1,⟨1,-1,-1,(Xy X).2⟩)
 else if(X.m m).P = -1 then((holdM X m).1,⟨(holdM X m).2,(m:Int),-1,[]⟩)
 else if(X.m m).G = -1 then((yM X m d.toNat).1,⟨(yM X m d.toNat).2.1,(m:Int),(yM X m d.toNat).2.2,[]⟩)
 else((runM X m d).1,⟨7,(m:Int),(X.m m).G,(runM X m d).2⟩)
def xp (X:Sd)(m:Nat)(d:Int):Sd×Ev:=({ (yd X m d).1 with st:=X.st+1 },(yd X m d).2)
structure Qs (X Y:Sd):Prop where
 W:Y.W=X.W
 ms:Y.ms=X.ms
 sl:Y.sl=X.sl
 st:Y.st=X.st
 len:Y.ps.length=X.ps.length
 p:∀j,(Y.p j).by_=(X.p j).by_∧(Y.p j).N=(X.p j).N∧(Y.p j).tu=(X.p j).tu
 ll:(∀j,(X.p j).q.l.length≤(X.p j).N)→∀j,(Y.p j).q.l.length≤(Y.p j).N
theorem Qs.refl (X:Sd):Qs X X:=⟨rfl,rfl,rfl,rfl,rfl,fun _=>⟨rfl,rfl,rfl⟩,fun h=>h⟩
theorem Qs.trans {X Y Z:Sd}(h:Qs X Y)(k:Qs Y Z):Qs X Z :=
 ⟨k.W.trans h.W,k.ms.trans h.ms,k.sl.trans h.sl,k.st.trans h.st,k.len.trans h.len,fun j=>⟨(k.p j).1.trans (h.p j).1,(k.p j).2.1.trans (h.p j).2.1,(k.p j).2.2.trans (h.p j).2.2⟩,fun hh=>k.ll (h.ll hh)⟩
theorem Qs.QA {X Y:Sd}{i:Nat}(hi:i<X.ps.length)(q:LQ)(hq:(X.p i).q.l.length≤(X.p i).N→q.l.length≤(X.p i).N)(hps:Y.ps=X.ps.set i { X.p i with q:=q })(hW:Y.W=X.W)(hms:Y.ms=X.ms)(hsl:Y.sl=X.sl)(hst:Y.st=X.st):Qs X Y:=by
 have e:∀j,Y.p j=if i=j then{ X.p i with q:=q } else X.p j:=fun j=>by
  have:=XS hi { X.p i with q:=q } j
  unfold Sd.p at this ⊢
  rw[hps];exact this
 refine⟨hW,hms,hsl,hst,by rw[hps];simp,fun j=>?_,fun h j=>?_⟩
 ·rw[e];split
  ·rename_i e2;subst e2;exact⟨rfl,rfl,rfl⟩
  ·exact⟨rfl,rfl,rfl⟩
 ·rw[e];split
  ·rename_i e2;subst e2;exact hq (h i)
  ·exact h j
theorem S8 (N:Nat)(q:LQ)(gl:List Int)(h:q.l.length≤N):(mTurn N q gl).1.l.length≤N:=by
 unfold mTurn;split
 ·exact h
 ·exact IW N ⟨none,q.l⟩ _ gl h
theorem IN (N:Nat)(q:LQ)(h:q.l.length≤N):(mGet q).1.l.length≤N:=by
 unfold mGet;split
 ·exact h
 ·split
  ·exact h
  ·rename_i e;rw[e] at h;simp at h;simp;omega
theorem Mx (N:Nat)(q:LQ)(gl:List Int)(k:Int)(h:q.l.length≤N):(mFetch N q gl k).1.l.length≤N:=by
 unfold mFetch;split
 ·exact h
 ·rename_i x t
  simp only[List.length_append,List.length_tail,List.length_take];have:YS N q (x::t) k≤N-q.l.length+1:=by unfold YS;omega
  omega
theorem N5 (N:Nat)(q f:LQ)(h:q.l.length≤N):(mSteal N q f).1.l.length≤N:=by
 unfold mSteal;split
 ·exact h
 ·simp only[List.length_append,List.length_tail,List.length_take];omega
theorem QH (N:Nat)(q f:LQ):(mSteal N q f).2.1.l.length≤f.l.length:=by
 unfold mSteal;split
 ·simp
 ·simp only[List.length_drop];omega
theorem Oa {X:Sd}{i:Nat}(hi:i<X.ps.length):Qs X (yQ X i):=Qs.QA hi _ (S8 _ _ _) rfl rfl rfl rfl rfl
theorem Im {X:Sd}{i:Nat}(hi:i<X.ps.length):Qs X (nearM X i).1:=by
 unfold nearM;split
 ·exact⟨rfl,rfl,rfl,rfl,rfl,fun _=>⟨rfl,rfl,rfl⟩,fun h=>h⟩
 ·split
  ·exact Qs.QA hi _ (IN _ _) rfl rfl rfl rfl rfl
  ·exact Qs.QA hi _ (Mx _ _ _ _) rfl rfl rfl rfl rfl
theorem ND {X:Sd}{i:Nat}(hi:i<X.ps.length)(g:Int):Qs X { X.zI i { X.p i with q:=(xx (X.p i).N (X.p i).q g X.gl).1 } with gl:=(xx (X.p i).N (X.p i).q g X.gl).2.1 } :=
 Qs.QA hi (xx (X.p i).N (X.p i).q g X.gl).1 (fun h=>S8 _ _ X.gl h) rfl rfl rfl rfl rfl
theorem WD:∀(l:List Int) (X:Sd) (i:Nat),i<X.ps.length→Qs X (yn X i l)∧(yn X i l).all.Perm (l++X.all)
 | [],X,i,hi=>⟨Qs.refl X,List.Perm.refl _⟩
 | g::t,X,i,hi=>by
  have h1:=ND hi g;obtain⟨h2,h3⟩:=WD t _ i (by rw[h1.len];exact hi)
  refine⟨h1.trans h2,h3.trans ?_⟩
  obtain⟨R,k1,k2⟩:=TC hi;have hp:=k2 { X.zI i { X.p i with q:=(xx (X.p i).N (X.p i).q g X.gl).1 } with gl:=(xx (X.p i).N (X.p i).q g X.gl).2.1 } _ rfl rfl
  obtain⟨m1,m2⟩:=YQ (X.p i).N (X.p i).q X.gl
  rw[m2] at m1;have m3:((mTurn (X.p i).N (X.p i).q X.gl).2.1++(mTurn (X.p i).N (X.p i).q X.gl).1.l).Perm (X.gl++(X.p i).l):=by simpa [Pm.l] using m1
  have m4:(g::((mTurn (X.p i).N (X.p i).q X.gl).2.1++((mTurn (X.p i).N (X.p i).q X.gl).1.l++R))).Perm (g::X.all):=by
   refine List.Perm.cons g ?_
   refine List.Perm.trans ?_ k1.symm
   rw[←List.append_assoc,←List.append_assoc];exact m3.append_right R
  have m5:({ X.zI i { X.p i with q:=(xx (X.p i).N (X.p i).q g X.gl).1 } with gl:=(xx (X.p i).N (X.p i).q g X.gl).2.1 }:Sd).all.Perm (g::X.all):=by
   refine hp.trans (List.Perm.trans ?_ m4)
   show((mTurn (X.p i).N (X.p i).q X.gl).2.1++(((some g).toList++(mTurn (X.p i).N (X.p i).q X.gl).1.l)++R)).Perm _
   simp only[Option.toList_some,List.cons_append,List.nil_append];exact List.perm_middle
  have m6:=m5.append_left t;refine m6.trans ?_
  exact List.perm_middle
theorem QD {X:Sd}{i v:Nat}(hi:i<X.ps.length)(hv:v<X.ps.length):Qs X (zz X i v).1 ∧
  (((zz X i v).2.1=6∧(zz X i v).2.2 = -1∧(zz X i v).1.all.Perm X.all)∨((zz X i v).2.1≠6∧X.all.Perm ((zz X i v).2.2::(zz X i v).1.all))):=by
 have hq1:=Oa hi;have hi1:i<(yQ X i).ps.length:=by rw[hq1.len];exact hi
 have hq2:=Im hi1;have hp1:=Ma hi;have hp2:=Nz hi1;have hq12:=hq1.trans hq2;unfold zz;simp only
 cases hn:(nearM (yQ X i) i).2 with
 | some g =>
  simp only
  rw[hn] at hp2;refine⟨hq12,.inr ⟨by decide,?_⟩⟩
  exact hp1.symm.trans hp2
 | none =>
  simp only
  obtain⟨e1,e2,e3⟩:=YE hi hn;rw[e3];split
  ·rename_i hc
   have hvi:i≠v:=fun e=>hc.2 e.symm
   have qa:=Qs.QA (Y:=X.zI i { X.p i with q:=(mSteal (X.p i).N (X.p i).q (X.p v).q).1 }) hi _ (N5 _ _ _) rfl rfl rfl rfl rfl
   have hpv:(X.zI i { X.p i with q:=(mSteal (X.p i).N (X.p i).q (X.p v).q).1 }).p v=X.p v:=by rw[XS hi,if_neg hvi]
   have qb:=Qs.QA (X:=X.zI i { X.p i with q:=(mSteal (X.p i).N (X.p i).q (X.p v).q).1 }) (Y:=(X.zI i { X.p i with q:=(mSteal (X.p i).N (X.p i).q (X.p v).q).1 }).zI v { X.p v with q:=(mSteal (X.p i).N (X.p i).q (X.p v).q).2.1 }) (i:=v) (by rw[qa.len];exact hv) ((mSteal (X.p i).N (X.p i).q (X.p v).q).2.1) (fun h=>by
    have:=QH (X.p i).N (X.p i).q (X.p v).q
    rw[hpv] at h ⊢;omega) (by rw[hpv];rfl) rfl rfl rfl rfl
   have hall:X.all.Perm ((mSteal (X.p i).N (X.p i).q (X.p v).q).2.2.toList++((X.zI i { X.p i with q:=(mSteal (X.p i).N (X.p i).q (X.p v).q).1 }).zI v { X.p v with q:=(mSteal (X.p i).N (X.p i).q (X.p v).q).2.1 }).all):=by
    have hs:=Rk (X.p i).N (X.p i).q (X.p v).q
    obtain⟨R,r1,r2⟩:=V3 X.ps i v _ _ (X.Zt hi) (X.Zt hv) hvi
    have a1:=(r1.flatMap_right Pm.l)
    have a2:=((r2 { X.p i with q:=(mSteal (X.p i).N (X.p i).q (X.p v).q).1 } { X.p v with q:=(mSteal (X.p i).N (X.p i).q (X.p v).q).2.1 }).flatMap_right Pm.l)
    simp only[List.flatMap_cons] at a1 a2;unfold Sd.all;show(X.gl++(X.ps.flatMap Pm.l++X.ms.flatMap Mm.l)).Perm (_++(X.gl++(((X.ps.set i _).set v _).flatMap Pm.l++X.ms.flatMap Mm.l)))
    rw[e2];simp only[List.nil_append];rw[←List.append_assoc];refine List.Perm.append_right _ ?_
    refine a1.trans ?_
    refine List.Perm.trans ?_ (a2.append_left _)
    have hs2:=hs.append_right (R.flatMap Pm.l)
    simpa [Pm.l,List.append_assoc] using hs2
   cases hs:(mSteal (X.p i).N (X.p i).q (X.p v).q).2.2 with
   | some g =>
    rw[hs] at hall;simp only
    exact⟨qa.trans qb,.inr ⟨by decide,hall⟩⟩
   | none =>
    rw[hs] at hall;exact⟨qa.trans qb,.inl ⟨rfl,rfl,hall.symm⟩⟩
  ·exact⟨Qs.refl X,.inl ⟨rfl,rfl,List.Perm.refl _⟩⟩
structure yF (B:Nat) (X:Sd):Prop where
 wf:WF B X.W
 np:1≤X.ps.length∧X.ps.length≤64
 nm:1≤X.ms.length∧X.ms.length≤64
 sl:1≤X.sl∧X.sl≤1024
 st:X.st≤B
 N:∀j,j<X.ps.length→1≤(X.p j).N∧(X.p j).N≤1024
 ll:∀j,(X.p j).q.l.length≤(X.p j).N
 tu:∀j,(X.p j).tu≤B
 by_:∀j,-1≤(X.p j).by_∧(X.p j).by_<(X.ms.length:Int)
 m0:∀i,(X.m i).P = -1→(X.m i).G = -1∧(X.m i).L=0
 m1:∀i,i<X.ms.length→(X.m i).P ≠ -1→(0≤(X.m i).P∧(X.m i).P<(X.ps.length:Int))∧(X.p (X.m i).P.toNat).by_=(i:Int)
 mL:∀i,0≤(X.m i).L∧(X.m i).L≤1024∧((X.m i).G ≠ -1→1≤(X.m i).L)
 nd:X.all.Nodup
 mem:∀h,h∈X.all↔∃k:Nat,h=(k:Int)∧(X.W.g k).st=1
theorem ZY:∀(n:Nat) (l:List Int),l.Nodup→(∀x∈l,0≤x∧x<(n:Int))→l.length≤n
 | 0,l,_,h=>by
  cases l with
  | nil=>simp
  | cons x t=>have:=h x (by simp);omega
 | n+1,l,hn,h=>by
  have h1:=ZY n (l.erase (n:Int)) (hn.erase _) (fun x hx=>by
   have hx2:=(List.Nodup.mem_erase_iff hn).1 hx
   have:=h x hx2.2
   omega)
  have h2:l.length≤(l.erase (n:Int)).length+1:=by rw[List.length_erase];split<;>omega
  omega
theorem yF.bound {B:Nat}{X:Sd}(h:yF B X):X.all.length≤100:=by
 refine Nat.le_trans (ZY X.W.gs.length _ h.nd (fun x hx=>?_)) h.wf.g1.2
 obtain⟨k,rfl,hk⟩:=(h.mem x).1 hx
 refine⟨by omega,?_⟩
 rcases Nat.lt_or_ge k X.W.gs.length with h1|h1
 ·omega
 ·rw[Ww (by omega)] at hk;exact absurd hk (by decide)
theorem yF.gl {B:Nat}{X:Sd}(h:yF B X):X.gl.length≤100:=by
 have:=h.bound
 unfold Sd.all at this;rw[List.length_append] at this;omega
theorem yF.lets {B:Nat}{X:Sd}(h:yF B X){m:Nat}(hm:m<X.ms.length)(hG:(X.m m).G ≠ -1):∃k:Nat,(X.m m).G=(k:Int)∧(X.W.g k).st=1∧k<X.W.gs.length:=by
 obtain⟨R,h1,-⟩:=M7 hm;have:(X.m m).G∈X.all:=h1.mem_iff.2 (by unfold Mm.l;rw[if_neg hG];simp)
 obtain⟨k,e,hk⟩:=(h.mem _).1 this
 refine⟨k,e,hk,?_⟩
 rcases Nat.lt_or_ge k X.W.gs.length with h1|h1
 ·exact h1
 ·rw[Ww (by omega)] at hk;exact absurd hk (by decide)
theorem yF.qs {B:Nat}{X Y:Sd}(h:yF B X)(q:Qs X Y)(hp:Y.all.Perm X.all):yF B Y:=by
 refine⟨by rw[q.W];exact h.wf,by rw[q.len];exact h.np,by rw[q.ms];exact h.nm,by rw[q.sl];exact h.sl,by rw[q.st];exact h.st,fun j hj=>by rw[(q.p j).2.1];exact h.N j (by rw[←q.len];exact hj),q.ll h.ll,fun j=>by rw[(q.p j).2.2];exact h.tu j,fun j=>by rw[(q.p j).1,q.ms];exact h.by_ j,
  fun i hi=>?_,fun i hi hP=>?_,fun i=>?_,hp.nodup_iff.2 h.nd,fun x=>by rw[hp.mem_iff,q.W];exact h.mem x⟩
 ·unfold Sd.m at *;rw[q.ms] at hi ⊢;exact h.m0 i hi
 ·have e:Y.m i=X.m i:=by unfold Sd.m;rw[q.ms]
  rw[e] at hP ⊢;rw[q.ms] at hi;obtain⟨a,b⟩:=h.m1 i hi hP;exact⟨by rw[q.len];exact a,by rw[(q.p _).1];exact b⟩
 ·have e:Y.m i=X.m i:=by unfold Sd.m;rw[q.ms]
  rw[e];exact h.mL i
theorem yF.mono {B C:Nat}{X:Sd}(h:yF B X)(hb:B≤C):yF C X :=
 ⟨h.wf.mono hb,h.np,h.nm,h.sl,Nat.le_trans h.st hb,h.N,h.ll,fun j=>Nat.le_trans (h.tu j) hb,h.by_,h.m0,h.m1,h.mL,h.nd,h.mem⟩
theorem yF.Dm {B:Nat}{X:Sd}(h:yF B X){s:Nat}(hs:s≤B):yF B { X with st:=s }:=⟨h.wf,h.np,h.nm,h.sl,hs,h.N,h.ll,h.tu,h.by_,h.m0,h.m1,h.mL,h.nd,h.mem⟩
def xV (x:Sd×Int×Int):Ending:=.returned (.tuple #[.int .i64 x.2.1,.int .i64 x.2.2])
def Fit {sp:Nat}(D:UU sp)(s:D.T)(asks:Option (Int×Int))(v:Int)(s':D.T):Prop :=
 (asks=none∧v=0∧s'=s)∨∃k n,asks=some (k,n)∧(0≤v∧v<n)∧D.Dv s k n v s'
def WQ (w0:World)(b sp:Nat)(L:Sl)(D:UU sp)(s:D.T)(X:Sd)(R:List zv)(j:Nat)(asks:Option (Int×Int))(res:Int→Sd×Ending)(r:Ending)(w':World):Prop :=
 (∃v s',Fit D s asks v s'∧D.ok j s'∧r=(res v).2∧zG w0 w' b sp L (res v).1 (D.A s'++R)) ∨
 (∃ch s' k n,r=.panicked ch∧asks=some (k,n)∧D.Dp s k n r s'∧D.ok j s'∧zG w0 w' b sp L X (D.A s'++R))
theorem Lt {X:Sd}{i:Nat}{g:Int}(h:(nearM (yQ X i) i).2=some g)(v:Nat):zz X i v=((nearM (yQ X i) i).1,4,g):=by
 unfold zz;simp only;rw[h]
theorem I7 {X:Sd}{i:Nat}(hi:i<X.ps.length)(h:(nearM (yQ X i) i).2=none)(h1:¬1<X.ps.length)(v:Nat):zz X i v=(X,6,-1):=by
 unfold zz;simp only;rw[h];simp only
 rw[if_neg (fun hc=>h1 hc.1),(YE hi h).2.2]
theorem SU {X:Sd}{i:Nat}(hi:i<X.ps.length)(h:(nearM (yQ X i) i).2=none):zz X i i=(X,6,-1):=by
 unfold zz;simp only;rw[h];simp only
 rw[if_neg (fun hc=>hc.2 rfl),(YE hi h).2.2]
theorem Ts {X:Sd}{i v:Nat}(hi:i<X.ps.length)(h:(nearM (yQ X i) i).2=none)(h1:1<X.ps.length)(hv:v≠i):zz X i v =
  ((X.zI i { X.p i with q:=(mSteal (X.p i).N (X.p i).q (X.p v).q).1 }).zI v { X.p v with q:=(mSteal (X.p i).N (X.p i).q (X.p v).q).2.1 },if(mSteal (X.p i).N (X.p i).q (X.p v).q).2.2.isSome then 5 else 6,((mSteal (X.p i).N (X.p i).q (X.p v).q).2.2).getD (-1)):=by
 unfold zz;simp only;rw[h];simp only
 rw[if_pos ⟨h1,hv⟩,(YE hi h).2.2]
 cases (mSteal (X.p i).N (X.p i).q (X.p v).q).2.2 with
 | some g=>rfl
 | none=>rfl
theorem NI {w0 w:World}{b sp:Nat}{L:Sl}{X:Sd}{R:List zv}(h:zG w0 w b sp L X R){i v p g p' g':Nat}(hi:i<X.ps.length)(hv:v<X.ps.length)(hld:L.ld[i]?=some (p,g))(hld':L.ld[v]?=some (p',g'))(hn:(nearM (yQ X i) i).2=none)(h1:1<X.ps.length) :
  Calls Tryz.prog 96 #[.pointer (some ⟨p,0,none⟩),.pointer (some ⟨p',0,none⟩)] w fun r w'=>∃x,r=.returned (Zc x)∧zG w0 w' b sp L (zz X i v).1 R∧(zz X i v).2=(if x.isSome then 5 else 6,x.getD (-1)):=by
 by_cases hne:i=v
 ·subst hne
  rw[hld] at hld'
  cases hld'
  refine(Rw w p).mono (fun r w' hh=>⟨none,hh.1,?_,?_⟩)
  ·rw[SU hi hn,hh.2];exact h
  ·rw[SU hi hn];rfl
 ·refine(LG h hi hv hne hld hld').mono (fun r w' hh=>⟨_,hh.1,?_,?_⟩)
  ·rw[Ts hi hn h1 (fun e=>hne e.symm)];exact hh.2
  ·rw[Ts hi hn h1 (fun e=>hne e.symm)]
theorem RU {w0 w:World}{b sp:Nat}{L:Sl}{X:Sd}{R:List zv}{D:UU sp}{s:D.T}{j:Nat}(h:zG w0 w b sp L X (D.A s++R))(hok:D.ok (j+1) s){i pb off:Nat}(hi:i<X.ps.length)(hpa:L.pa=some ⟨pb,off,none⟩)(hl:X.gl.length≤100000)(hll:(X.p i).q.l.length≤2000)(htu:(X.p i).tu≤1000000)(hn:X.ps.length≤1000) :
  Calls Tryz.prog 84 #[.pointer (some ⟨b,0,none⟩),.pointer (some ⟨pb,off+i*3,none⟩)] w (WQ w0 b sp L D s X R j (if XP X i then some (2,(X.ps.length:Int)) else none) (fun v=>((zz X i v.toNat).1,xV (zz X i v.toNat)))):=by
 obtain⟨_,_,p,g,-,hld⟩:=h.pa hi;have hT:=Ot h hi hld (by omega)
 have hx0:=(h.proc hi hpa hld).1.1
 have hgl:(yQ X i).gl.length≤1000000:=by
  show(mTurn (X.p i).N (X.p i).q X.gl).2.1.length≤_
  unfold mTurn;split
  ·simp only;omega
  ·rename_i v _
   have:=Lf (X.p i).N ⟨none,(X.p i).q.l⟩ v X.gl
   simp only at this;omega
 have hiT:i<(yQ X i).ps.length:=by unfold yQ Sd.zI;simpa using hi
 have htT:((yQ X i).p i).tu≤1000000:=by
  have:=(Oa hi).p i
  rw[this.2.2];exact htu
 have HN:=Qq (fun(wx:World) (hx:zG w0 wx b sp L (yQ X i) (D.A s++R))=>M9 hx hiT hpa hgl htT)
 have HT:=Qq (fun(wx:World) (hx:zG w0 wx b sp L X (D.A s++R))=>Ot hx hi hld (by omega))
 have HPR:=Qq (fun(wx:World) (hx:zG w0 wx b sp L X (D.A s++R))=>(hx.proc hi hpa hld).1.1)
 have HST:=Qq (fun(wx:World) (R':List zv) (hx:zG w0 wx b sp L X R') (v:Nat) (hv:v<X.ps.length) (hnn:(nearM (yQ X i) i).2=none) (h1:1<X.ps.length)=>(by
  obtain⟨pb',off',p',g',e1,e2⟩:=hx.pa hv;rw[hpa] at e1;cases e1
  exact⟨p',(hx.proc hv hpa e2).1.1,(hx.proc hi hpa hld).1.1,fun wy hy=>NI hy hi hv hld e2 hnn h1⟩:∃p',wx.cell? ⟨pb,off+v*3,none⟩=some (.pointer (some ⟨p',0,none⟩))∧wx.cell? ⟨pb,off+i*3,none⟩=some (.pointer (some ⟨p,0,none⟩))∧∀wy,zG w0 wy b sp L X R' →
   Calls Tryz.prog 96 #[.pointer (some ⟨p,0,none⟩),.pointer (some ⟨p',0,none⟩)] wy fun r w'=>∃x,r=.returned (Zc x)∧zG w0 w' b sp L (zz X i v).1 R'∧(zz X i v).2=(if x.isSome then 5 else 6,x.getD (-1))))
 have HNO:=Qq (fun(hnn:(nearM (yQ X i) i).2=none)=>(YE hi hnn).2.2)
 have HONE:=Qq (fun(hnn:(nearM (yQ X i) i).2=none) (h1:¬1<X.ps.length)=>I7 hi hnn h1 0)
 have HDR:=Qq (fun(wx:World) (n:Int) (hn:1≤n∧n<9223372036854775808) (hx:zG w0 wx b sp L X (D.A s++R))=>(by
  obtain⟨S,h1,h2⟩:=hx.tail;rw[List.append_assoc] at h1;refine(D.hd s 2 n (R++S) j hok hn h1).mono (fun r w' hh=>?_)
  rcases hh with⟨v,s',a1,a2,a3,a4,a5⟩|⟨ch,s',a1,a2,a3,a4⟩
  ·exact .inl ⟨v,s',a1,a2,a3,a4,h2 _ _ (by rw[List.append_assoc];exact a5)⟩
  ·exact .inr ⟨ch,s',a1,a2,a3,h2 _ _ (by rw[List.append_assoc];exact a4)⟩:Calls Tryz.prog 52 #[.pointer (some ⟨sp,0,none⟩),.int .i64 2,.int .i64 n] wx fun r w' =>
   (∃v s',r=.returned (.int .i64 v)∧(0≤v∧v<n)∧D.Dv s 2 n v s'∧D.ok j s'∧zG w0 w' b sp L X (D.A s'++R))∨(∃ch s',r=.panicked ch∧D.Dp s 2 n r s'∧D.ok j s'∧zG w0 w' b sp L X (D.A s'++R))))
 have H:=Qq h;have HOK:=Qq hok;obtain⟨NN,hNN⟩:∃NN,NN=nearM (yQ X i) i:=⟨_,rfl⟩
 have HV:Hid (XP X i=(NN.2.isNone&&decide (1<X.ps.length))):=Qq (by rw[hNN];rfl)
 have HS:Hid (∀v g,NN.2=some g→zz X i v=(NN.1,4,g)):=Qq (fun v g e=>by rw[hNN] at e ⊢;exact Lt e v)
 simp only[←hNN] at HN HST HNO HONE
 obtain⟨NP,hNP⟩:∃NP,NP=X.ps.length:=⟨_,rfl⟩
 obtain⟨C12,Zw⟩:=h.Zw;have HC12:Hid (∀wx,zG w0 wx b sp L X (D.A s++R)→∃c,wx.cell? ⟨b,12,none⟩=some (.slice (some ⟨pb,off,none⟩) NP c)):=Qq (fun wx hx=>by
  obtain⟨c,hc⟩:=hx.Zw;rw[hpa,←hNP] at hc;exact⟨c,hc⟩)
 have HC11:Hid (∀wx R',zG w0 wx b sp L X R'→wx.cell? ⟨b,11,none⟩=some (.pointer (some ⟨sp,0,none⟩))∧∃c,wx.cell? ⟨b,12,none⟩=some (.slice (some ⟨pb,off,none⟩) NP c)):=Qq (fun wx R' hx=>by
  obtain⟨c,hc⟩:=hx.Zw;rw[hpa,←hNP] at hc;exact⟨hx.ZP,c,hc⟩)
 simp only[←hNP] at HST HONE HV hn ⊢
 generalize hak:(if XP X i then some ((2:Int),(NP:Int)) else none)=ak
 have HAK:=Qq hak;clear h hok hT hx0 hgl hiT htT hld hpa hl hll htu hi hNN hNP Zw hak;go_enter Tryz.func84,Tryz.ntmps84
 go_upto_region 1 with fail
 have x0:=HPR.out _ H.out;refine zk (fun wx=>∃nq,wx=World.drewN (w) nq) 7 1 (Array.replicate 8 false) (Qj 8 127) (by kernel_rfl) (by kernel_rfl) ?_
 refine zf 0 7 _ (Qj 8 127) 0 (by kernel_rfl) za (zE w) (by kernel_rfl) ?_
 simp only[QX,QV,QJ];(repeat((first|refine Qx (h:=?_)|refine Qw (h:=?_));simp only[Act.put,QW,QY,QZ]));refine zb ?_;refine zo ?_;refine zS 7 (by kernel_rfl) ?_
 simp only[QQ,QJ];go_wp2_with fail;refine(HT.out _ (H.out.step (zx w _))).mono ?_
 rintro r w1 ⟨rfl,h1⟩;have H1:=Qq h1;clear h1 HT H x0;go_wp2_with fail;refine NoPanic.normal ?_
 go_wp2_with fail;refine(HN.out _ H1.out).mono ?_
 rintro r w2 ⟨rfl,h2⟩;have H2:=Qq h2;clear h2 HN H1;obtain⟨Y,x⟩:=NN;cases x with
 | some gg =>
  have HR:Hid (WQ w0 b sp L D s X R j ak (fun v=>((zz X i v.toNat).1,xV (zz X i v.toNat))) (xV (Y,4,gg)) w2):=Qq (by
   rw[←HAK.out,HV.out];simp only[Option.isNone_some,Bool.false_and,Bool.false_eq_true,if_false];refine .inl ⟨0,s,.inl ⟨rfl,rfl,rfl⟩,D.less _ _ HOK.out,?_,?_⟩
   ·simp only;rw[HS.out _ _ rfl]
   ·simp only;rw[HS.out _ _ rfl];exact H2.out)
  unfold Zc;simp only[Option.getD_some,Option.isSome_some];clear HPR HST HNO HONE HDR HV HS HC12 HC11 H2;go_wp2;go_ret2
  exact HR.out
 | none =>
  have hY:=HNO.out rfl;simp only at hY
  subst hY;have HV2:Hid (XP Y i=decide (1<NP)):=Qq (by rw[HV.out];simp)
  unfold Zc;simp only[Option.getD_none,Option.isSome_none];obtain⟨e11,Zw,e12⟩:=HC11.out _ _ H2.out;simp only at H2 HST HONE
  by_cases h1:1<NP
  ·have hNP:(1:Int)<(NP:Int):=by omega
   have H1:=Qq h1;clear h1 HS HNO HV HONE;go_upto_region 6 with fail
   refine Xs (fun wx=>∃nq,wx=World.drewN (w2) nq) 9 2 (Array.replicate 11 false) (Qj 11 511) (by kernel_rfl) (by kernel_rfl) ?_
   refine YO 0 9 _ (Qj 11 511) 0 (by kernel_rfl)  (zE w2) (by kernel_rfl) ?_
   simp only[QX,QV,QJ];(repeat((first|refine Qx (h:=?_)|refine Qw (h:=?_));simp only[Act.put,QW,QY,QZ]));refine zb ?_;refine Vq ?_;refine Un 9 (by kernel_rfl) ?_
   simp only[QQ,QJ];go_wp2_with fail;refine(HDR.out _ (NP:Int) (by omega) (H2.out.step (zx w2 _))).mono ?_
   rintro r w3 hp
   rcases hp with⟨v,s',rfl,hv,hdv,hok,h3⟩|⟨ch,s',rfl,hdp,hok,h3⟩
   ·obtain⟨vn,rfl⟩:∃vn:Nat,v=(vn:Int):=⟨v.toNat,by omega⟩
    have hvl:(vn:Int)<(NP:Int):=hv.2
    have hv0:(0:Int)≤(vn:Int):=hv.1
    have HVD:=Qq (And.intro hv (And.intro hdv hok))
    obtain⟨p',y1,y0,hst⟩:=HST.out _ _ h3 vn (by omega) trivial H1.out
    obtain⟨-,xS,e13⟩:=HC11.out _ _ h3;have HS1:=Qq (fun wx (hx:zG w0 wx b sp L Y (D.A s'++R))=>hst wx hx)
    have H3:=Qq h3;clear hv hdv hok hst h3 HDR HST HPR H2 e11 e12 HC12 HC11;go_upto_region 7 with fail
    refine zk (fun wx=>∃nq,wx=World.drewN (w3) nq) 12 6 (Array.replicate 18 false) (Qj 18 4095) (by kernel_rfl) (by kernel_rfl) ?_
    refine zf 0 12 _ (Qj 18 4095) 0 (by kernel_rfl) za (zE w3) (by kernel_rfl) ?_
    simp only[QX,QV,QJ];(repeat((first|refine Qx (h:=?_)|refine Qw (h:=?_));simp only[Act.put,QW,QY,QZ]));refine zb ?_;refine zo ?_;refine yA (fun _=>True) 6 0 (Qj 18 262143) ?_
    refine zA 12 _ (Qj 18 8191) 5 (by kernel_rfl) (fun K hK=>?_)
    have HKK:=Qq hK;clear hK;simp only[QQ,QJ];refine zc (by rfl) ?_;go_simp;refine(HS1.out _ (H3.out.step (zx w3 _))).mono ?_
    rintro r w4 ⟨x,rfl,h4,e4⟩;have HR:Hid (WQ w0 b sp L D s Y R j ak (fun v=>((zz Y i v.toNat).1,xV (zz Y i v.toNat))) (.returned (.tuple #[.int .i64 (if x.isSome then 5 else 6),.int .i64 (x.getD (-1))])) w4):=Qq (by
     rw[←HAK.out,HV2.out,decide_eq_true H1.out];refine .inl ⟨(vn:Int),s',.inr ⟨2,(NP:Int),rfl,HVD.out.1,HVD.out.2.1⟩,HVD.out.2.2,?_,h4⟩
     show _=xV (zz Y i vn)
     unfold xV;rw[e4])
    clear h4 e4 HS1 H3;cases x with
    | none =>
     unfold Zc;simp only[Option.getD_none,Option.isSome_none];refine HKK.out _ _ (trivial) ?_
     clear HKK K;refine zf 13 5 _ (Qj 18 262143) 0 (by kernel_rfl) za (trivial) (by kernel_rfl) ?_
     simp only[QX,QV,QQ,QJ];(repeat((first|refine Qx (h:=?_)|refine Qv (h:=?_));simp only[Act.put,QW,QY,QZ]));refine zb ?_;refine zo ?_;refine zD (by kernel_rfl) (NoPanic.normal ?_)
     go_wp2;go_ret2
     exact HR.out
    | some gg =>
     unfold Zc;simp only[Option.getD_some,Option.isSome_some];refine HKK.out _ _ (trivial) ?_
     clear HKK K;refine zf 13 5 _ (Qj 18 262143) 0 (by kernel_rfl) za (trivial) (by kernel_rfl) ?_
     simp only[QX,QV,QQ,QJ];(repeat((first|refine Qx (h:=?_)|refine Qv (h:=?_));simp only[Act.put,QW,QY,QZ]));refine zb ?_;refine zo ?_;refine zD (by kernel_rfl) (NoPanic.normal ?_)
     go_wp2;go_ret2
     exact HR.out
   ·have HR:Hid (WQ w0 b sp L D s Y R j ak (fun v=>((zz Y i v.toNat).1,xV (zz Y i v.toNat))) (.panicked ch) w3):=Qq (by
     rw[←HAK.out,HV2.out,decide_eq_true H1.out];exact .inr ⟨ch,s',2,(NP:Int),rfl,rfl,hdp,hok,h3⟩)
    exact⟨rfl,HR.out⟩
  ·have hNP:¬(1:Int)<(NP:Int):=by omega
   have HR:Hid (WQ w0 b sp L D s Y R j ak (fun v=>((zz Y i v.toNat).1,xV (zz Y i v.toNat))) (xV (Y,6,-1)) w2):=Qq (by
    rw[←HAK.out,HV2.out,decide_eq_false h1];simp only[Bool.false_eq_true,if_false];refine .inl ⟨0,s,.inl ⟨rfl,rfl,rfl⟩,D.less _ _ HOK.out,?_,?_⟩
    ·show xV _=xV (zz Y i 0);rw[HONE.out trivial h1]
    ·show zG w0 w2 b sp L (zz Y i 0).1 _;rw[HONE.out trivial h1];exact H2.out)
   clear h1 HPR HST HNO HONE HDR HV HS HC12 HC11 H2 HV2;go_wp2;go_ret2
   exact HR.out
theorem Y9 {X:Sd}{m:Nat}(hm:m<X.ms.length)(M:Mm):∃R,X.all.Perm ((X.m m).l++R)∧(X.zP m M).all.Perm (M.l++R):=by
 obtain⟨R,h1,h2⟩:=M7 hm;exact⟨R,h1,h2 _ _ rfl rfl rfl⟩
theorem WT {X:Sd}{m:Nat}(hm:m<X.ms.length)(M:Mm)(e:M.l=(X.m m).l):(X.zP m M).all.Perm X.all:=by
 obtain⟨R,h1,h2⟩:=Y9 hm M;rw[e] at h2;exact h2.trans h1.symm
theorem W7 {X:Sd}{i:Nat}(hi:i<X.ps.length)(P:Pm)(e:P.l=(X.p i).l):(X.zI i P).all.Perm X.all:=by
 obtain⟨R,h1,h2⟩:=TC hi;have:=h2 (X.zI i P) P rfl rfl
 rw[e] at this;exact this.trans h1.symm
theorem yF.hold {B:Nat}{X:Sd}(h:yF B X){m:Nat}(hm:m<X.ms.length)(hP:(X.m m).P = -1):yF B (holdM X m).1:=by
 unfold holdM;split
 ·rename_i i hi
  rw[List.findIdx?_eq_some_iff_getElem] at hi
  obtain⟨hil,hb,-⟩:=hi;have hbi:(X.p i).by_ = -1:=by
   have e:=X.Zt hil;rw[List.getElem?_eq_getElem hil] at e
   simp only[Option.some.injEq] at e;rw[←e];simpa using hb
  have hml:m<(X.zI i { X.p i with by_:=(m:Int) }).ms.length:=hm
  have hpp:∀j,((X.zI i { X.p i with by_:=(m:Int) }).zP m { X.m m with P:=(i:Int) }).p j=if i=j then{ X.p i with by_:=(m:Int) } else X.p j:=fun j=>XS hil _ j
  have hmm:∀j,((X.zI i { X.p i with by_:=(m:Int) }).zP m { X.m m with P:=(i:Int) }).m j=if m=j then{ X.m m with P:=(i:Int) } else X.m j:=fun j=>xk hml _ j
  have hall:=(WT hml { X.m m with P:=(i:Int) } rfl).trans (W7 hil { X.p i with by_:=(m:Int) } rfl)
  have hlp:((X.zI i { X.p i with by_:=(m:Int) }).zP m { X.m m with P:=(i:Int) }).ps.length=X.ps.length:=by unfold Sd.zP Sd.zI;simp
  have hlm:((X.zI i { X.p i with by_:=(m:Int) }).zP m { X.m m with P:=(i:Int) }).ms.length=X.ms.length:=by unfold Sd.zP Sd.zI;simp
  refine⟨h.wf,by rw[hlp];exact h.np,by rw[hlm];exact h.nm,h.sl,h.st,fun j hj=>?_,fun j=>?_,fun j=>?_,fun j=>?_,fun j hj=>?_,fun j hj hne=>?_,fun j=>?_,hall.nodup_iff.2 h.nd,fun x=>hall.mem_iff.trans (h.mem x)⟩
  ·rw[hlp] at hj;rw[hpp];split
   ·exact h.N i hil
   ·exact h.N j hj
  ·rw[hpp];split
   ·exact h.ll i
   ·exact h.ll j
  ·rw[hpp];split
   ·exact h.tu i
   ·exact h.tu j
  ·rw[hpp,hlm];split
   ·simp only;omega
   ·exact h.by_ j
  ·rw[hmm] at hj ⊢
   split at hj
   ·simp only at hj;omega
   ·rename_i e;rw[if_neg e];exact h.m0 j hj
  ·rw[hmm] at hne ⊢
   rw[hlm] at hj;rw[hpp,hlp];split
   ·rename_i e;subst e
    simp only[Int.toNat_natCast];exact⟨by omega,by rw[if_pos trivial]⟩
   ·rename_i e
    rw[if_neg e] at hne;obtain⟨a,b⟩:=h.m1 j hj hne;refine⟨a,?_⟩
    rw[if_neg (fun e2=>by rw[←e2,hbi] at b;omega)]
    exact b
  ·rw[hmm];split
   ·exact h.mL m
   ·exact h.mL j
 ·exact h
theorem yF.at {B:Nat}{X:Sd}(h:yF B X){m:Nat}(hm:m<X.ms.length)(hP:(X.m m).P ≠ -1):∃i:Nat,(X.m m).P=(i:Int)∧i<X.ps.length∧(X.p i).by_=(m:Int):=by
 obtain⟨a,b⟩:=h.m1 m hm hP;exact⟨(X.m m).P.toNat,by omega,by omega,b⟩
theorem yF.EU {B:Nat}{X:Sd}(h:yF B X){m i:Nat}(hm:m<X.ms.length)(hi:i<X.ps.length)(hP:(X.m m).P=(i:Int))(hG:(X.m m).G = -1):yF B ((X.zI i { X.p i with by_:=-1 }).zP m ⟨-1,-1,0⟩):=by
 have hml:m<(X.zI i { X.p i with by_:=-1 }).ms.length:=hm
 have hpp:∀j,((X.zI i { X.p i with by_:=-1 }).zP m ⟨-1,-1,0⟩).p j=if i=j then{ X.p i with by_:=-1 } else X.p j:=fun j=>XS hi _ j
 have hmm:∀j,((X.zI i { X.p i with by_:=-1 }).zP m ⟨-1,-1,0⟩).m j=if m=j then⟨-1,-1,0⟩ else X.m j:=fun j=>xk hml _ j
 have hall:=(WT hml ⟨-1,-1,0⟩ (by
  show Mm.l _=Mm.l (X.m m)
  unfold Mm.l;rw[hG])).trans (W7 hi { X.p i with by_:=-1 } rfl)
 have hlp:((X.zI i { X.p i with by_:=-1 }).zP m ⟨-1,-1,0⟩).ps.length=X.ps.length:=by unfold Sd.zP Sd.zI;simp
 have hlm:((X.zI i { X.p i with by_:=-1 }).zP m ⟨-1,-1,0⟩).ms.length=X.ms.length:=by unfold Sd.zP Sd.zI;simp
 have hby:(X.p i).by_=(m:Int):=by
  obtain⟨-,b⟩:=h.m1 m hm (by rw[hP];omega)
  rw[hP,Int.toNat_natCast] at b;exact b
 refine⟨h.wf,by rw[hlp];exact h.np,by rw[hlm];exact h.nm,h.sl,h.st,fun j hj=>?_,fun j=>?_,fun j=>?_,fun j=>?_,fun j hj=>?_,fun j hj hne=>?_,fun j=>?_,hall.nodup_iff.2 h.nd,fun x=>hall.mem_iff.trans (h.mem x)⟩
 ·rw[hlp] at hj;rw[hpp];split
  ·exact h.N i hi
  ·exact h.N j hj
 ·rw[hpp];split
  ·exact h.ll i
  ·exact h.ll j
 ·rw[hpp];split
  ·exact h.tu i
  ·exact h.tu j
 ·rw[hpp,hlm];split
  ·have:=h.nm;simp only;omega
  ·exact h.by_ j
 ·rw[hmm] at hj ⊢
  split
  ·exact⟨rfl,rfl⟩
  ·rename_i e;rw[if_neg e] at hj;exact h.m0 j hj
 ·rw[hmm] at hne ⊢
  rw[hlm] at hj;rw[hpp,hlp];split
  ·rename_i e;rw[if_pos e] at hne;exact absurd rfl hne
  ·rename_i e
   rw[if_neg e] at hne;obtain⟨a,b⟩:=h.m1 j hj hne;refine⟨a,?_⟩
   rw[if_neg (fun e2=>by rw[←e2,hby] at b;omega)]
   exact b
 ·rw[hmm];split
  ·exact⟨by decide,by decide,fun hc=>absurd rfl hc⟩
  ·exact h.mL j
theorem yF.look {B:Nat}{X:Sd}(h:yF B X){m v:Nat}(hm:m<X.ms.length)(hP:(X.m m).P ≠ -1)(hG:(X.m m).G = -1)(hv:v<X.ps.length):yF (B+1) (yM X m v).1:=by
 obtain⟨i,hi,hil,hby⟩:=h.at hm hP;unfold yM;simp only
 have hi2:(X.m m).P.toNat=i:=by rw[hi,Int.toNat_natCast]
 rw[hi2];have hMl:(X.m m).l=[]:=by unfold Mm.l;rw[if_pos hG]
 split
 ·rename_i hc
  obtain⟨g,hg⟩:∃g,(X.p i).q.nx=some g:=by
   cases e:(X.p i).q.nx with
   | none=>have:=hc.2;rw[e] at this;cases this
   | some g=>exact⟨g,rfl⟩
  have hget:mGet (X.p i).q=(⟨none,(X.p i).q.l⟩,some g):=by unfold mGet;rw[hg]
  rw[hget];simp only[Option.getD_some];have hq:=Qs.QA (Y:=X.zI i { X.p i with q:=⟨none,(X.p i).q.l⟩ }) hil ⟨none,(X.p i).q.l⟩ (fun h=>h) rfl rfl rfl rfl rfl
  obtain⟨R,r1,r2⟩:=TC hil;have r3:=r2 (X.zI i { X.p i with q:=⟨none,(X.p i).q.l⟩ }) _ rfl rfl
  have r4:X.all.Perm (g::(X.zI i { X.p i with q:=⟨none,(X.p i).q.l⟩ }).all):=by
   refine r1.trans ?_
   have e1:(X.p i).l=g::(X.p i).q.l:=by unfold Pm.l;rw[hg];rfl
   rw[e1];refine List.perm_middle.trans (List.Perm.cons g ?_)
   exact r3.symm
  have hml:m<(X.zI i { X.p i with q:=⟨none,(X.p i).q.l⟩ }).ms.length:=hm
  obtain⟨S,s1,s2⟩:=Y9 hml { X.m m with G:=g }
  have hgr:g ≠ -1:=by
   obtain⟨k,e,-⟩:=(h.mem g).1 (r4.mem_iff.2 (by simp));omega
  have e3:((X.zI i { X.p i with q:=⟨none,(X.p i).q.l⟩ }).m m).l=[]:=hMl
  rw[e3,List.nil_append] at s1;have hall:((X.zI i { X.p i with q:=⟨none,(X.p i).q.l⟩ }).zP m { X.m m with G:=g }).all.Perm X.all:=by
   refine s2.trans ?_
   have:Mm.l { X.m m with G:=g }=[g]:=by unfold Mm.l;rw[if_neg hgr]
   rw[this];exact(List.Perm.cons g s1.symm).trans r4.symm
  have hXm:=Y9 hm { X.m m with G:=g }
  have hpp:∀j,((X.zI i { X.p i with q:=⟨none,(X.p i).q.l⟩ }).zP m { X.m m with G:=g }).p j=if i=j then{ X.p i with q:=⟨none,(X.p i).q.l⟩ } else X.p j:=fun j=>XS hil _ j
  have hmm:∀j,((X.zI i { X.p i with q:=⟨none,(X.p i).q.l⟩ }).zP m { X.m m with G:=g }).m j=if m=j then{ X.m m with G:=g } else X.m j:=fun j=>xk hml _ j
  have hlp:((X.zI i { X.p i with q:=⟨none,(X.p i).q.l⟩ }).zP m { X.m m with G:=g }).ps.length=X.ps.length:=hq.len
  have hlm:((X.zI i { X.p i with q:=⟨none,(X.p i).q.l⟩ }).zP m { X.m m with G:=g }).ms.length=X.ms.length:=by unfold Sd.zP Sd.zI;simp
  have hb2:B≤B+1:=by omega
  refine⟨h.wf.mono hb2,by rw[hlp];exact h.np,by rw[hlm];exact h.nm,h.sl,Nat.le_trans h.st hb2,fun j hj=>?_,fun j=>?_,fun j=>?_,fun j=>?_,fun j hj=>?_,fun j hj hne=>?_,fun j=>?_,hall.nodup_iff.2 h.nd,fun x=>hall.mem_iff.trans (h.mem x)⟩
  ·rw[hlp] at hj;rw[hpp];split
   ·exact h.N i hil
   ·exact h.N j hj
  ·rw[hpp];split
   ·exact h.ll i
   ·exact h.ll j
  ·rw[hpp];split
   ·have:=h.tu i;simp only;omega
   ·have:=h.tu j;omega
  ·rw[hpp,hlm];split
   ·exact h.by_ i
   ·exact h.by_ j
  ·rw[hmm] at hj ⊢
   split at hj
   ·exact absurd hj hP
   ·rename_i e;rw[if_neg e];exact h.m0 j hj
  ·rw[hmm] at hne ⊢
   rw[hlm] at hj;rw[hpp,hlp];have key:∀(a:Nat) (b:Int),(X.p a).by_=b→(if i=a then({ X.p i with q:=⟨none,(X.p i).q.l⟩ }:Pm) else X.p a).by_=b:=fun a b hab=>by
    split
    ·rename_i e;rw[←e] at hab;exact hab
    ·exact hab
   split
   ·rename_i e;subst e
    obtain⟨a,b⟩:=h.m1 m hm hP;exact⟨a,key _ _ b⟩
   ·rename_i e
    rw[if_neg e] at hne;obtain⟨a,b⟩:=h.m1 j hj hne;exact⟨a,key _ _ b⟩
  ·rw[hmm];split
   ·have:=h.mL m
    exact⟨this.1,this.2.1,fun _=>by have:=hc.1;simp only;omega⟩
   ·exact h.mL j
 ·obtain⟨q,hq⟩:=QD hil hv
  have hms:(zz X i v).1.ms=X.ms:=q.ms
  have hmX:(zz X i v).1.m m=X.m m:=by unfold Sd.m;rw[hms]
  have hm1:m<(zz X i v).1.ms.length:=by rw[hms];exact hm
  have hi1:i<(zz X i v).1.ps.length:=by rw[q.len];exact hil
  rcases hq with⟨k1,k2,k3⟩|⟨k1,k2⟩
  ·rw[if_pos k1]
   have h1:=h.qs q k3;exact(h1.EU hm1 hi1 (by rw[hmX];exact hi) (by rw[hmX];exact hG)).mono (by omega)
  ·rw[if_neg k1]
   simp only
   generalize (zz X i v).2.2=g at *
   generalize (zz X i v).1=Y at *
   have hgr:g ≠ -1:=by
    obtain⟨k,e,-⟩:=(h.mem g).1 (k2.mem_iff.2 (by simp));omega
   have hml:m<(Y.zI i { Y.p i with tu:=(Y.p i).tu+1 }).ms.length:=hm1
   obtain⟨S,s1,s2⟩:=Y9 hml { X.m m with G:=g,L:=Y.sl }
   have e3:((Y.zI i { Y.p i with tu:=(Y.p i).tu+1 }).m m).l=[]:=by
    show Mm.l (Y.m m)=[];rw[hmX];exact hMl
   rw[e3,List.nil_append] at s1;have hsp:=W7 hi1 { Y.p i with tu:=(Y.p i).tu+1 } rfl
   have hall:((Y.zI i { Y.p i with tu:=(Y.p i).tu+1 }).zP m { X.m m with G:=g,L:=Y.sl }).all.Perm X.all:=by
    refine s2.trans ?_
    have:Mm.l { X.m m with G:=g,L:=Y.sl }=[g]:=by unfold Mm.l;rw[if_neg hgr]
    rw[this];exact(List.Perm.cons g (s1.symm.trans hsp)).trans k2.symm
   have hpp:∀j,((Y.zI i { Y.p i with tu:=(Y.p i).tu+1 }).zP m { X.m m with G:=g,L:=Y.sl }).p j=if i=j then{ Y.p i with tu:=(Y.p i).tu+1 } else Y.p j:=fun j=>XS hi1 _ j
   have hmm:∀j,((Y.zI i { Y.p i with tu:=(Y.p i).tu+1 }).zP m { X.m m with G:=g,L:=Y.sl }).m j=if m=j then{ X.m m with G:=g,L:=Y.sl } else Y.m j:=fun j=>xk hml _ j
   have hlp:((Y.zI i { Y.p i with tu:=(Y.p i).tu+1 }).zP m { X.m m with G:=g,L:=Y.sl }).ps.length=X.ps.length:=by rw[←q.len];unfold Sd.zP Sd.zI;simp
   have hlm:((Y.zI i { Y.p i with tu:=(Y.p i).tu+1 }).zP m { X.m m with G:=g,L:=Y.sl }).ms.length=X.ms.length:=by rw[←hms];unfold Sd.zP Sd.zI;simp
   have hYm:∀j,Y.m j=X.m j:=fun j=>by unfold Sd.m;rw[hms]
   rw[hmX];have hW:((Y.zI i { Y.p i with tu:=(Y.p i).tu+1 }).zP m { X.m m with G:=g,L:=Y.sl }).W=X.W:=q.W
   refine⟨by rw[hW];exact h.wf.mono (by omega),by rw[hlp];exact h.np,by rw[hlm];exact h.nm,by show 1≤Y.sl∧Y.sl≤1024;rw[q.sl];exact h.sl,by show Y.st≤B+1;rw[q.st];have:=h.st;omega,fun j hj=>?_,fun j=>?_,fun j=>?_,fun j=>?_,fun j hj=>?_,fun j hj hne=>?_,fun j=>?_,hall.nodup_iff.2 h.nd,fun x=>by rw[hall.mem_iff,hW];exact h.mem x⟩
   ·rw[hlp] at hj;rw[hpp];split
    ·show 1≤(Y.p i).N∧_;rw[(q.p i).2.1];exact h.N i hil
    ·rw[(q.p j).2.1];exact h.N j hj
   ·rw[hpp];split
    ·exact q.ll h.ll i
    ·exact q.ll h.ll j
   ·rw[hpp];split
    ·show(Y.p i).tu+1≤B+1;rw[(q.p i).2.2];have:=h.tu i;omega
    ·rw[(q.p j).2.2];have:=h.tu j;omega
   ·rw[hpp,hlm];split
    ·show -1≤(Y.p i).by_∧_;rw[(q.p i).1];exact h.by_ i
    ·rw[(q.p j).1];exact h.by_ j
   ·rw[hmm] at hj ⊢
    split at hj
    ·exact absurd hj hP
    ·rename_i e;rw[if_neg e,hYm];rw[hYm] at hj;exact h.m0 j hj
   ·rw[hmm] at hne ⊢
    rw[hlm] at hj;rw[hpp,hlp];have key:∀(a:Nat) (b:Int),(X.p a).by_=b→(if i=a then({ Y.p i with tu:=(Y.p i).tu+1 }:Pm) else Y.p a).by_=b:=fun a b hab=>by
     split
     ·rename_i e;rw[←e] at hab;show(Y.p i).by_=b;rw[(q.p i).1];exact hab
     ·rw[(q.p a).1];exact hab
    split
    ·rename_i e;subst e
     obtain⟨a,b⟩:=h.m1 m hm hP;exact⟨a,key _ _ b⟩
    ·rename_i e
     rw[if_neg e,hYm] at hne;rw[hYm];obtain⟨a,b⟩:=h.m1 j hj hne;exact⟨a,key _ _ b⟩
   ·rw[hmm];split
    ·have h2:=h.sl
     show 0≤Y.sl∧Y.sl≤1024∧(_→1≤Y.sl)
     rw[q.sl];exact⟨by omega,by omega,fun _=>by omega⟩
    ·rw[hYm];exact h.mL j
theorem Lu {a b c:List Int}:(a++(b++c)).Perm (b++(a++c)):=by
 rw[←List.append_assoc,←List.append_assoc];exact List.perm_append_comm.append_right c
theorem yF.run {B:Nat}{X:Sd}(h:yF B X)(hB:B≤80000){m:Nat}(hm:m<X.ms.length)(hP:(X.m m).P ≠ -1)(hG:(X.m m).G ≠ -1)(hen:X.W.en=0)(d:Int):yF (B+X.W.ks.length+1) (runM X m d).1:=by
 obtain⟨i,hi,hil,hby⟩:=h.at hm hP;obtain⟨k,hk,hks,hkl⟩:=h.lets hm hG;have hlets:X.W.lets (k:Int):=⟨hen,by omega,by omega,by simpa using hks⟩
 have hB2:B≤B+X.W.ks.length+1:=by omega
 have hwf:=(h.wf.exec hB (k:Int) d).1
 obtain⟨rd,hkeep⟩:=Sh h.wf hB hlets d;unfold runM;simp only
 have hk2:(X.m m).G.toNat=k:=by rw[hk,Int.toNat_natCast]
 have hi2:(X.m m).P.toNat=i:=by rw[hi,Int.toNat_natCast]
 rw[hk2,hi2];rw[←hk] at hwf rd hkeep;obtain⟨e,he⟩:∃e,e=zR X.W (X.m m).G d:=⟨_,rfl⟩
 rw[←he] at hwf rd hkeep ⊢;have hil2:i<({ X with W:=e.1 }:Sd).ps.length:=hil
 obtain⟨q,hq⟩:=WD e.2.2 { X with W:=e.1 } i hil2
 have hall0:({ X with W:=e.1 }:Sd).all=X.all:=rfl
 rw[hall0] at hq;obtain⟨Y,hY⟩:∃Y,Y=yn { X with W:=e.1 } i e.2.2:=⟨_,rfl⟩
 rw[←hY] at q hq ⊢;have hYW:Y.W=e.1:=q.W
 have hYm:∀j,Y.m j=X.m j:=fun j=>by unfold Sd.m;rw[q.ms]
 have hYml:Y.ms.length=X.ms.length:=by rw[q.ms]
 have hYpl:Y.ps.length=X.ps.length:=q.len
 have hkin:(k:Int)∈X.all:=by
  obtain⟨R,r1,-⟩:=M7 hm;exact r1.mem_iff.2 (by unfold Mm.l;rw[if_neg hG,hk];simp)
 have hndY:Y.all.Nodup:=by
  refine hq.nodup_iff.2 ?_
  rw[List.nodup_append];refine⟨rd.nd,h.nd,fun a ha b hb e2=>?_⟩
  subst e2;obtain⟨j,rfl,-,c,-⟩:=rd.st a ha;obtain⟨j',e3,c'⟩:=(h.mem _).1 hb
  have:j=j':=by omega
  subst this;exact c c'
 have hkn:(k:Int)∉e.2.2:=fun hc=>by
  obtain⟨j,e3,c,-⟩:=rd.st _ hc;exact c (by omega)
 have hmemY:∀x,x∈Y.all↔x=(k:Int)∨∃j:Nat,x=(j:Int)∧j≠k∧(e.1.g j).st=1:=fun x=>by
  rw[hq.mem_iff,List.mem_append];constructor
  ·rintro(hx|hx)
   ·obtain⟨j,e3,c,-,c2⟩:=rd.st x hx
    exact .inr ⟨j,e3,c,c2⟩
   ·obtain⟨j,e3,c⟩:=(h.mem x).1 hx
    by_cases hjk:j=k
    ·exact .inl (by rw[e3,hjk])
    ·by_cases hin:(j:Int)∈e.2.2
     ·obtain⟨j2,e4,c3,-,c4⟩:=rd.st _ hin
      have:j=j2:=by omega
      subst this;exact .inr ⟨j,e3,hjk,c4⟩
     ·exact .inr ⟨j,e3,hjk,(rd.oth j hjk hin).2 c⟩
  ·rintro(hx|⟨j,e3,c,c2⟩)
   ·exact .inr (by rw[hx];exact hkin)
   ·by_cases hin:(j:Int)∈e.2.2
    ·exact .inl (by rw[e3];exact hin)
    ·exact .inr ((h.mem x).2 ⟨j,e3,(rd.oth j c hin).1 c2⟩)
 have base:∀(M:Mm) (gl':List Int),M.P=(X.m m).P→(0≤M.L∧M.L≤1024∧(M.G ≠ -1→1≤M.L))→({ Y.zP m M with gl:=gl' }:Sd).all.Nodup→(∀x,x∈({ Y.zP m M with gl:=gl' }:Sd).all↔∃j:Nat,x=(j:Int)∧(e.1.g j).st=1)→yF (B+X.W.ks.length+1) { Y.zP m M with gl:=gl' }:=fun M gl' eP hL hnd hmem=>by
  have hm1:m<Y.ms.length:=by rw[hYml];exact hm
  have hmm:∀j,({ Y.zP m M with gl:=gl' }:Sd).m j=if m=j then M else X.m j:=fun j=>by
   have:=xk hm1 M j
   rw[hYm] at this;exact this
  have hlm:({ Y.zP m M with gl:=gl' }:Sd).ms.length=X.ms.length:=by rw[←hYml];unfold Sd.zP;simp
  refine⟨by show WF _ Y.W;rw[hYW];exact hwf,by show 1≤Y.ps.length∧Y.ps.length≤64;rw[hYpl];exact h.np,by rw[hlm];exact h.nm,by show 1≤Y.sl∧Y.sl≤1024;rw[q.sl];exact h.sl,by show Y.st≤_;rw[q.st];show X.st≤_;have:=h.st;omega,
   fun j hj=>by show 1≤(Y.p j).N∧(Y.p j).N≤1024;rw[(q.p j).2.1];exact h.N j (by rw[←hYpl];exact hj),fun j=>q.ll h.ll j,fun j=>by show(Y.p j).tu≤_;rw[(q.p j).2.2];exact Nat.le_trans (h.tu j) hB2,fun j=>by rw[hlm];show -1≤(Y.p j).by_∧(Y.p j).by_<_;rw[(q.p j).1];exact h.by_ j,
   fun j hj=>?_,fun j hj hne=>?_,fun j=>?_,hnd,fun x=>by rw[hmem];show _↔∃k:Nat,x=(k:Int)∧(Y.W.g k).st=1;rw[hYW]⟩
  ·rw[hmm] at hj ⊢
   split at hj
   ·rw[eP] at hj;exact absurd hj hP
   ·rename_i e;rw[if_neg e];exact h.m0 j hj
  ·rw[hmm] at hne ⊢
   rw[hlm] at hj;have key:∀(a:Nat),(Y.p a).by_=(X.p a).by_:=fun a=>(q.p a).1
   split
   ·rename_i e;subst e
    rw[eP];obtain⟨a,b⟩:=h.m1 m hm hP;exact⟨by show 0≤(X.m m).P∧(X.m m).P<(Y.ps.length:Int);rw[hYpl];exact a,by show(Y.p _).by_=_;rw[key];exact b⟩
   ·rename_i e
    rw[if_neg e] at hne;obtain⟨a,b⟩:=h.m1 j hj hne;exact⟨by show 0≤(X.m j).P∧(X.m j).P<(Y.ps.length:Int);rw[hYpl];exact a,by show(Y.p _).by_=_;rw[key];exact b⟩
  ·rw[hmm];split
   ·exact hL
   ·exact h.mL j
 have hmL:=h.mL m;have hLpos:=hmL.2.2 hG;have hm1:m<Y.ms.length:=by rw[hYml];exact hm
 rw[hYm];split
 ·rename_i hc
  obtain⟨c1,c2⟩:=hkeep hc.1;have hsame:(Y.zP m { X.m m with L:=(X.m m).L-1 }).all.Perm Y.all:=WT hm1 _ (by rw[hYm];rfl)
  refine base { X.m m with L:=(X.m m).L-1 } Y.gl rfl ⟨by have:=hc.2;simp only;omega,by simp only;omega,fun _=>by have:=hc.2;simp only;omega⟩ (hsame.nodup_iff.2 hndY) (fun x=>?_)
  refine hsame.mem_iff.trans ((hmemY x).trans ?_)
  constructor
  ·rintro(rfl|⟨j,e3,-,c⟩)
   ·exact⟨k,rfl,c1⟩
   ·exact⟨j,e3,c⟩
  ·rintro⟨j,e3,c⟩
   by_cases hjk:j=k
   ·exact .inl (by rw[e3,hjk])
   ·exact .inr ⟨j,e3,hjk,c⟩
 ·obtain⟨R,r1,r2⟩:=Y9 hm1 { X.m m with G:=-1,L:=(X.m m).L-1 }
  have eM:(Y.m m).l=[(k:Int)]:=by rw[hYm];unfold Mm.l;rw[if_neg hG,hk]
  have eM2:Mm.l { X.m m with G:=-1,L:=(X.m m).L-1 }=[]:=by unfold Mm.l;rw[if_pos rfl]
  rw[eM] at r1;rw[eM2,List.nil_append] at r2;have hperm:Y.all.Perm ((k:Int)::(Y.zP m { X.m m with G:=-1,L:=(X.m m).L-1 }).all):=r1.trans (List.Perm.cons _ r2.symm)
  have hnd1:=hperm.nodup_iff.1 hndY;rw[List.nodup_cons] at hnd1;have hmem1:∀x,x∈(Y.zP m { X.m m with G:=-1,L:=(X.m m).L-1 }).all↔∃j:Nat,x=(j:Int)∧j≠k∧(e.1.g j).st=1:=fun x=>by
   constructor
   ·intro hx
    rcases(hmemY x).1 (hperm.mem_iff.2 (by simp[hx])) with rfl|hh
    ·exact absurd hx hnd1.1
    ·exact hh
   ·rintro⟨j,e3,c,c2⟩
    have:=hperm.mem_iff.1 ((hmemY x).2 (.inr ⟨j,e3,c,c2⟩))
    rcases List.mem_cons.1 this with h5|h5
    ·exact absurd (by omega) c
    ·exact h5
  have hL2:0≤(X.m m).L-1∧(X.m m).L-1≤1024∧((-1:Int) ≠ -1→1≤(X.m m).L-1):=⟨by omega,by omega,fun hc=>absurd rfl hc⟩
  rw[show(Y.W.g k).st=(e.1.g k).st by rw[hYW]]
  by_cases hst:(e.1.g k).st=1
  ·rw[if_pos hst,show[(X.m m).G]=[(k:Int)] by rw[hk]]
   have hp2:({ Y.zP m { X.m m with G:=-1,L:=(X.m m).L-1 } with gl:=Y.gl++[(k:Int)] }:Sd).all.Perm ((k:Int)::(Y.zP m { X.m m with G:=-1,L:=(X.m m).L-1 }).all):=by
    unfold Sd.all;show((Y.gl++[(k:Int)])++_).Perm ((k:Int)::(Y.gl++_))
    rw[List.append_assoc];exact List.perm_middle
   refine base { X.m m with G:=-1,L:=(X.m m).L-1 } (Y.gl++[(k:Int)]) rfl hL2 (hp2.nodup_iff.2 (List.nodup_cons.2 hnd1)) (fun x=>?_)
   rw[hp2.mem_iff,List.mem_cons,hmem1];constructor
   ·rintro(rfl|⟨j,e3,-,c⟩)
    ·exact⟨k,rfl,hst⟩
    ·exact⟨j,e3,c⟩
   ·rintro⟨j,e3,c⟩
    by_cases hjk:j=k
    ·exact .inl (by rw[e3,hjk])
    ·exact .inr ⟨j,e3,hjk,c⟩
  ·rw[if_neg hst]
   refine base { X.m m with G:=-1,L:=(X.m m).L-1 } Y.gl rfl hL2 hnd1.2 (fun x=>?_)
   refine(hmem1 x).trans ?_
   constructor
   ·rintro⟨j,e3,-,c⟩;exact⟨j,e3,c⟩
   ·rintro⟨j,e3,c⟩
    exact⟨j,e3,fun hjk=>hst (by rw[←hjk];exact c),c⟩
theorem yF.clock {B:Nat}{X:Sd}(h:yF B X):yF (B+1) (Xy X).1:=by
 have tk:=PM h.wf;have hwf:=h.wf.tick.1;have hp:(Xy X).1.all.Perm ((yY X.W).2++X.all):=by
  unfold Sd.all Xy;show((X.gl++(yY X.W).2)++_).Perm _
  rw[List.append_assoc];exact Lu
 have hb2:B≤B+1:=by omega
 refine⟨hwf,h.np,h.nm,h.sl,Nat.le_trans h.st hb2,h.N,h.ll,fun j=>Nat.le_trans (h.tu j) hb2,h.by_,h.m0,h.m1,h.mL,hp.nodup_iff.2 ?_,fun x=>?_⟩
 ·rw[List.nodup_append]
  refine⟨tk.nd,h.nd,fun a ha b hb e=>?_⟩
  subst e;obtain⟨j,rfl,c,-⟩:=tk.st a ha;obtain⟨j',e3,c'⟩:=(h.mem _).1 hb
  have:j=j':=by omega
  subst this;exact c c'
 ·rw[hp.mem_iff,List.mem_append]
  show _↔∃k:Nat,x=(k:Int)∧((yY X.W).1.g k).st=1
  constructor
  ·rintro(hx|hx)
   ·obtain⟨j,e3,-,c⟩:=tk.st x hx
    exact⟨j,e3,c⟩
   ·obtain⟨j,e3,c⟩:=(h.mem x).1 hx
    by_cases hin:(j:Int)∈(yY X.W).2
    ·obtain⟨j2,e4,-,c4⟩:=tk.st _ hin
     have:j=j2:=by omega
     subst this;exact⟨j,e3,c4⟩
    ·exact⟨j,e3,by rw[tk.oth j hin];exact c⟩
  ·rintro⟨j,e3,c⟩
   by_cases hin:(j:Int)∈(yY X.W).2
   ·exact .inl (by rw[e3];exact hin)
   ·exact .inr ((h.mem x).2 ⟨j,e3,by rw[←tk.oth j hin];exact c⟩)
theorem yF.step {B:Nat}{X:Sd}(h:yF B X)(hB:B≤80000){m:Nat}(hm:m≤X.ms.length)(hen:X.W.en=0){d:Int}(hd:∀k n,xy X m=some (k,n)→0≤d∧d<n):yF (B+X.W.ks.length+1) (xp X m d).1:=by
 have key:∀{C:Nat} {Y:Sd},yF C Y→C≤B+X.W.ks.length+1→yF (B+X.W.ks.length+1) { Y with st:=X.st+1 }:=fun h1 h2=>(h1.mono h2).Dm (by have:=h.st;omega)
 unfold xp yd;split
 ·exact key h.clock (by omega)
 ·rename_i hne
  have hml:m<X.ms.length:=by omega
  split
  ·rename_i hP;exact key (h.hold hml hP) (by omega)
  ·rename_i hP
   split
   ·rename_i hG
    obtain⟨i,hi,hil,-⟩:=h.at hml hP;by_cases ha:∃k n,xy X m=some (k,n)
    ·obtain⟨k,n,ha⟩:=ha
     have hd2:=hd k n ha;unfold xy at ha;rw[if_neg hne,if_neg hP,if_pos hG] at ha;split at ha
     ·cases ha
     ·split at ha
      ·cases ha
       exact key (h.look hml hP hG (by omega)) (by omega)
      ·cases ha
    ·-- nothing is drawn: whatever d is,it isn't looked at
     have h0:(yM X m d.toNat)=(yM X m 0):=by
      have ha2:xy X m=none:=by
       cases e:xy X m with
       | none=>rfl
       | some kn=>exact absurd ⟨kn.1,kn.2,e⟩ ha
      unfold xy at ha2;rw[if_neg hne,if_neg hP,if_pos hG] at ha2;unfold yM;simp only
      split at ha2
      ·rename_i hc;rw[if_pos hc,if_pos hc]
      ·rename_i hc
       rw[if_neg hc,if_neg hc];split at ha2
       ·cases ha2
       ·rename_i hv
        have:zz X (X.m m).P.toNat d.toNat=zz X (X.m m).P.toNat 0:=by
         unfold zz;simp only
         unfold XP at hv;cases hn:(nearM (yQ X (X.m m).P.toNat) (X.m m).P.toNat).2 with
         | some g=>rfl
         | none =>
          rw[hn] at hv;simp only[Option.isNone_none,Bool.true_and,decide_eq_true_eq] at hv;simp only
          rw[if_neg (fun hh=>hv hh.1),if_neg (fun hh=>hv hh.1)]
        rw[this]
     rw[h0];exact key (h.look hml hP hG (by have:=h.np;omega)) (by omega)
   ·rename_i hG
    exact key (h.run hB hml hP hG hen d) (by omega)
def Zy (W:Wd)(np nm:Nat)(ring sl:Int):Sd :=
 { W:=W,ps:=List.replicate np ⟨Zp ring,⟨none,[]⟩,0,-1⟩,ms:=List.replicate nm ⟨-1,-1,0⟩,gl:=[0],sl:=sl,st:=0 }
theorem RB {α:Type}(n:Nat)(a d:α)(i:Nat):(List.replicate n a).getD i d=if i<n then a else d:=by
 rw[List.getD_eq_getElem?_getD,List.getElem?_replicate];split<;>rfl
theorem Rh {fs:List (List yq)}{ks:List Zm}{rooms:List Int}{yr:Nat}(hp:PW fs ks rooms.length yr){np nm:Nat}{ring sl:Int}(h1:1≤np∧np≤64)(h2:1≤nm∧nm≤64)(h3:1≤sl∧sl≤1024):yF 0 (Zy (Za fs ks rooms yr) np nm ring sl):=by
 have ep:∀j,(Zy (Za fs ks rooms yr) np nm ring sl).p j=if j<np then⟨Zp ring,⟨none,[]⟩,0,-1⟩ else default:=fun j=>RB _ _ _ _
 have em:∀j,(Zy (Za fs ks rooms yr) np nm ring sl).m j=⟨-1,-1,0⟩:=fun j=>by
  show(List.replicate nm _).getD j _=_
  rw[RB];split<;>rfl
 have hall:(Zy (Za fs ks rooms yr) np nm ring sl).all=[0]:=by
  unfold Sd.all Zy;have e1:(List.replicate np (⟨Zp ring,⟨none,[]⟩,0,-1⟩:Pm)).flatMap Pm.l=[]:=by
   rw[List.flatMap_eq_nil_iff];intro x hx;rw[(List.mem_replicate.1 hx).2];rfl
  have e2:(List.replicate nm (⟨-1,-1,0⟩:Mm)).flatMap Mm.l=[]:=by
   rw[List.flatMap_eq_nil_iff];intro x hx;rw[(List.mem_replicate.1 hx).2];rfl
  simp only
  rw[e1,e2];rfl
 have hr:=Tj ring;refine⟨I2 hp,by simpa [Zy] using h1,by simpa [Zy] using h2,h3,by simp[Zy],fun j hj=>?_,fun j=>?_,fun j=>?_,fun j=>?_,fun j _=>by rw[em];exact⟨rfl,rfl⟩,fun j _ hne=>by rw[em] at hne;exact absurd rfl hne,fun j=>by rw[em];exact⟨by decide,by decide,fun hc=>absurd rfl hc⟩,by rw[hall];simp,fun x=>?_⟩
 ·have hj':j<np:=by simpa [Zy] using hj
  rw[ep,if_pos hj'];exact hr
 ·rw[ep];split<;>simp[default]
 ·rw[ep];split<;>simp[default]
 ·rw[ep]
  have:1≤(Zy (Za fs ks rooms yr) np nm ring sl).ms.length:=by simp[Zy];omega
  split
  ·simp only;omega
  ·show -1≤(-1:Int)∧(-1:Int)<_;omega
 ·rw[hall,List.mem_singleton]
  show _↔∃k:Nat,x=(k:Int)∧((Za fs ks rooms yr).g k).st=1
  constructor
  ·rintro rfl;exact⟨0,rfl,rfl⟩
  ·rintro⟨k,rfl,hk⟩
   cases k with
   | zero=>rfl
   | succ k=>rw[Ww (by show ¬k+1<1;omega)] at hk;exact absurd hk (by decide)
def Uj (X:Sd)(m:Nat):Option (Int×Int):=if 0<(X.m m).L∧(X.p (X.m m).P.toNat).q.nx.isSome then none else if XP X (X.m m).P.toNat then some (2,(X.ps.length:Int)) else none
theorem Jh {X:Sd}{m i:Nat}{g:Int}(hi:(X.m m).P=(i:Int))(hL:0<(X.m m).L)(hg:(X.p i).q.nx=some g)(v:Nat):yM X m v=((X.zI i { X.p i with q:=⟨none,(X.p i).q.l⟩ }).zP m { X.m m with G:=g },4,g):=by
 unfold yM;simp only
 have hi2:(X.m m).P.toNat=i:=by rw[hi,Int.toNat_natCast]
 rw[hi2,if_pos ⟨hL,by rw[hg];rfl⟩]
 have hget:mGet (X.p i).q=(⟨none,(X.p i).q.l⟩,some g):=by unfold mGet;rw[hg]
 rw[hget];rfl
theorem Kv {X:Sd}{m i:Nat}(hi:(X.m m).P=(i:Int))(h:¬(0<(X.m m).L∧(X.p i).q.nx.isSome))(v:Nat):yM X m v =
  if(zz X i v).2.1=6 then(((zz X i v).1.zI i { (zz X i v).1.p i with by_:=-1 }).zP m ⟨-1,-1,0⟩,(zz X i v).2)
  else(((zz X i v).1.zI i { (zz X i v).1.p i with tu:=((zz X i v).1.p i).tu+1 }).zP m { (zz X i v).1.m m with G:=(zz X i v).2.2,L:=(zz X i v).1.sl },(zz X i v).2):=by
 unfold yM;simp only
 have hi2:(X.m m).P.toNat=i:=by rw[hi,Int.toNat_natCast]
 rw[hi2,if_neg h]
theorem xL (X:Sd)(m:Nat)(a c:Mm):(X.zP m a).zP m c=X.zP m c:=by unfold Sd.zP;simp
theorem Uv {X:Sd}{m:Nat}(hm:m<X.ms.length)(g l:Int):(X.zP m { X.m m with G:=g }).zP m { (X.zP m { X.m m with G:=g }).m m with L:=l }=X.zP m { X.m m with G:=g,L:=l }:=by
 rw[xL,xk hm,if_pos rfl]
theorem U4 {X:Sd}{m:Nat}(hm:m<X.ms.length)(p g l:Int):((X.zP m { X.m m with P:=p }).zP m { (X.zP m { X.m m with P:=p }).m m with G:=g }).zP m { ((X.zP m { X.m m with P:=p }).zP m { (X.zP m { X.m m with P:=p }).m m with G:=g }).m m with L:=l }=X.zP m ⟨p,g,l⟩:=by
 have h2:m<(X.zP m { X.m m with P:=p }).ms.length:=by simpa [Sd.zP] using hm
 rw[Uv h2,xL,xk hm,if_pos rfl]
theorem Kj {w0 w:World}{b sp:Nat}{L:Sl}{X:Sd}{R:List zv}{D:UU sp}{s:D.T}{j B:Nat}(h:zG w0 w b sp L X (D.A s++R))(hok:D.ok (j+1) s)(wf:yF B X)(hB:B≤80000){m:Nat}(hm:m<X.ms.length)(hP:(X.m m).P ≠ -1)(hG:(X.m m).G = -1) :
  Calls Tryz.prog 73 #[.pointer (some ⟨b,0,none⟩),.int .i64 (m:Int)] w (WQ w0 b sp L D s X R j (Uj X m) (fun v=>((yM X m v.toNat).1,xV (yM X m v.toNat)))):=by
 obtain⟨i,hPi,hi,hby⟩:=wf.at hm hP;obtain⟨pb,off,p,g,hpa,hld⟩:=h.pa hi;obtain⟨mb,off2,hma⟩:=h.ma hm;obtain⟨C12,Zw⟩:=h.Zw;obtain⟨C13,xS⟩:=h.xS;obtain⟨⟨x0,x1,x2⟩,-,-⟩:=h.proc hi hpa hld;obtain⟨⟨z0,z1,z2⟩,f0,f1,f2⟩:=h.xQ hm hma;rw[hpa] at Zw;rw[hma] at xS;rw[hPi] at z0;have hgl:=wf.gl;have hll:=wf.ll i;have hN:=wf.N i hi;have htu:=wf.tu i;have hnp:=wf.np;have hnm:=wf.nm;have hmL:=wf.mL m;have hmX:(m:Int)<(X.ms.length:Int):=by omega
 have hm0:(0:Int)≤(m:Int):=by omega
 have hiX:(i:Int)<(X.ps.length:Int):=by omega
 have hi0:(0:Int)≤(i:Int):=by omega
 have eL:Uj X m=if 0<(X.m m).L∧(X.p i).q.nx.isSome then none else if XP X i then some (2,(X.ps.length:Int)) else none:=by unfold Uj;rw[hPi,Int.toNat_natCast]
 have HNX:=Qq (fun(wx:World) (hx:zG w0 wx b sp L X (D.A s++R))=>P8 hx hi hld)
 have HG0:=Qq (fun(wx:World) (hx:zG w0 wx b sp L X (D.A s++R))=>MN hx hi hld)
 have HX:=Qq (fun(wx:World) (hx:zG w0 wx b sp L X (D.A s++R))=>(hx.proc hi hpa hld).1.1)
 have HM:=Qq (fun(wx:World) (Y:Sd) (Z:List zv) (hx:zG w0 wx b sp L Y Z) (e:Y.ms.length=X.ms.length)=>hx.xQ (i:=m) (by rw[e];exact hm) hma)
 have HPC:=Qq (fun(wx:World) (Y:Sd) (Z:List zv) (hx:zG w0 wx b sp L Y Z) (e:Y.ps.length=X.ps.length)=>hx.proc (i:=i) (by rw[e];exact hi) hpa hld)
 have H:=Qq h;by_cases hin:0<(X.m m).L∧(X.p i).q.nx.isSome
 ·obtain⟨gg,hgg⟩:∃g,(X.p i).q.nx=some g:=by
   cases e:(X.p i).q.nx with
   | none=>have:=hin.2;rw[e] at this;cases this
   | some g=>exact⟨g,rfl⟩
  have hg0:gg ≠ -1:=by
   have hgm:gg∈X.all:=by
    obtain⟨Rl,r1,-⟩:=TC hi;exact r1.mem_iff.2 (by unfold Pm.l;rw[hgg];simp)
   obtain⟨k,e,-⟩:=(wf.mem gg).1 hgm;omega
  have hnum:(X.p i).q.num=gg:=by unfold LQ.num;rw[hgg];rfl
  have hget:mGet (X.p i).q=(⟨none,(X.p i).q.l⟩,some gg):=by unfold mGet;rw[hgg]
  have hLp:(X.m m).L>0:=hin.1
  have hne:(gg != -1)=true:=by simpa using hg0
  rw[eL,if_pos hin];have hres:∀v,yM X m v=((X.zI i { X.p i with q:=⟨none,(X.p i).q.l⟩ }).zP m { X.m m with G:=gg },4,gg):=fun v=>Jh hPi hin.1 hgg v
  rw[hnum] at HNX;rw[hget] at HG0;have HRES:=Qq hres;have HOK:=Qq hok;have HMM:=Qq hm;have HMA:=Qq hma;have hms1:(X.zI i { X.p i with q:=⟨none,(X.p i).q.l⟩ }).ms.length=X.ms.length:=rfl
  have HMS:=Qq hms1;have HG1:=Qq hG;obtain⟨LL,hLL⟩:∃LL,LL=(X.m m).L:=⟨_,rfl⟩
  rw[←hLL] at z2 hLp;clear hms1 hin hnum hget hgg eL hres hok wf hm hP hG hPi hi hby hpa hld hma h hgl hll hN htu hmL hnp hnm hg0 hLL x1 x2 z1 f0 f2 HPC;go_enter Tryz.func73,Tryz.ntmps73
  go_upto_region 2 with fail
  refine zk (fun wx=>∃nq,wx=World.drewN (w) nq) 10 0 (Array.replicate 10 false) (Qj 10 1023) (by kernel_rfl) (by kernel_rfl) ?_
  refine zf 0 10 _ (Qj 10 1023) 0 (by kernel_rfl) za (zE w) (by kernel_rfl) ?_
  simp only[QX,QV,QJ];(repeat((first|refine Qx (h:=?_)|refine Qw (h:=?_));simp only[Act.put,QW,QY,QZ]));refine zb ?_;refine zo ?_;refine zD (by kernel_rfl) (NoPanic.normal ?_)
  go_wp2_with fail;refine(HNX.out _ (H.out.step (zx w _))).mono ?_
  rintro r w1 ⟨rfl,rfl⟩;have H1:=Qq (H.out.step (zx w 1))
  clear HNX;go_wp2_with fail;refine(HG0.out _ H1.out).mono ?_
  rintro r w2 ⟨rfl,h2⟩;obtain⟨⟨-,u1,-⟩,-,f1,-⟩:=HM.out _ _ _ h2 HMS.out;have h3:=h2.ye (i:=m) (by rw[HMS.out];exact HMM.out) HMA.out gg
  have v1:=(h3.xQ (i:=m) (by simp only[Sd.zP,Sd.zI,List.length_set];exact HMM.out) HMA.out).1.2.1
  rw[xk (X:=X.zI i { X.p i with q:=⟨none,(X.p i).q.l⟩ }) (by exact HMM.out),if_pos rfl] at v1
  have H3:=Qq h3;clear h2 h3 HG0 H1 HM HMS HX H HG1;unfold Zc;simp only[Option.getD_some,Option.isSome_some];go_upto_region 5 with fail
  clear u1 f1;generalize w2.setCell ⟨mb,off2+m*3+1,none⟩ (.int .i64 gg)=w3 at *
  refine zk (fun wx=>∃nq,wx=World.drewN (w3) nq) 6 0 (Array.replicate 6 false) (Qj 6 63) (by kernel_rfl) (by kernel_rfl) ?_
  refine zf 0 6 _ (Qj 6 63) 0 (by kernel_rfl) za (zE w3) (by kernel_rfl) ?_
  simp only[QX,QV,QJ];(repeat((first|refine Qx (h:=?_)|refine Qw (h:=?_));simp only[Act.put,QW,QY,QZ]));refine zb ?_;refine zo ?_;refine zD (by kernel_rfl) (NoPanic.normal ?_)
  have HR:Hid (WQ w0 b sp L D s X R j none (fun v=>((yM X m v.toNat).1,xV (yM X m v.toNat))) (.returned (.tuple #[.int .i64 4,.int .i64 gg])) (w3.drewN 1)):=Qq (by
   refine .inl ⟨0,s,.inl ⟨rfl,rfl,rfl⟩,D.less _ _ HOK.out,?_,?_⟩
   ·show _=xV (yM X m (Int.toNat 0));rw[HRES.out];rfl
   ·show zG w0 _ b sp L (yM X m (Int.toNat 0)).1 _;rw[HRES.out];exact H3.out.step (zx w3 1))
  clear H3 HRES;go_wp2;go_ret2
  exact HR.out
 ·rw[eL,if_neg hin]
  have HNEW:=Qq (fun(wx:World) (hx:zG w0 wx b sp L X (D.A s++R))=>RU hx hok hi hpa (by omega) (by omega) (by omega) (by omega))
  have HQ:=Qq (fun(v:Nat) (hv:v<X.ps.length)=>(QD hi hv).1)
  have HRES:=Qq (fun v=>Kv hPi hin v)
  have HFV:Hid (∀v s',Fit D s (if XP X i then some ((2:Int),(X.ps.length:Int)) else none) v s'→v.toNat<X.ps.length):=Qq (fun v s' hv=>by
   rcases hv with⟨-,rfl,-⟩|⟨k,n,e,hv,-⟩
   ·simp;omega
   ·split at e
    ·cases e;omega
    ·cases e)
  have HMM:=Qq hm;have HMA:=Qq hma;have HPA:=Qq hpa;have HI:=Qq hi;have hnum:∀wx,zG w0 wx b sp L X (D.A s++R)→(X.m m).L>0→Calls Tryz.prog 56 #[.pointer (some ⟨p,0,none⟩)] wx fun r w'=>r=.returned (.int .i64 (-1))∧w'=wx:=fun wx hx hL=>by
   have e:(X.p i).q.num = -1:=by
    unfold LQ.num;cases e:(X.p i).q.nx with
    | none=>rfl
    | some g=>exact absurd ⟨hL,by rw[e];rfl⟩ hin
   have:=HNX.out wx hx
   rw[e] at this;exact this
  have HNUM:=Qq hnum;have HTU:Hid (∀v,v<X.ps.length→((zz X i v).1.p i).tu≤80000):=Qq (fun v hv=>by rw[((QD hi hv).1.p i).2.2];omega)
  have HG1:=Qq hG;generalize hak:(if XP X i then some ((2:Int),(X.ps.length:Int)) else none)=ak at *
  obtain⟨LL,hLL⟩:∃LL,LL=(X.m m).L:=⟨_,rfl⟩
  rw[←hLL] at z2 HNUM;clear hnum hin eL hok wf hm hP hG hPi hi hby hpa hld hma h hgl hll hN htu hmL hnp hnm hLL x1 x2 z1 f0 f1 f2 HNX HG0 hak;go_enter Tryz.func73,Tryz.ntmps73
  go_upto_region 2 with fail
  refine zk (fun wx=>∃nq,wx=World.drewN (w) nq) 10 0 (Array.replicate 10 false) (Qj 10 1023) (by kernel_rfl) (by kernel_rfl) ?_
  refine zf 0 10 _ (Qj 10 1023) 0 (by kernel_rfl) za (zE w) (by kernel_rfl) ?_
  simp only[QX,QV,QJ];(repeat((first|refine Qx (h:=?_)|refine Qw (h:=?_));simp only[Act.put,QW,QY,QZ]));refine zb ?_;refine zo ?_;refine zD (by kernel_rfl) (NoPanic.normal ?_)
  have H1:=Qq (H.out.step (zg w))
  by_cases hLp:LL>0
  ·go_wp2_with fail
   refine(HNUM.out _ H1.out hLp).mono ?_
   rintro r w1 ⟨rfl,rfl⟩;go_wp2_with fail;refine(HNEW.out _ H1.out).mono ?_
   rintro r w2 hp
   rcases hp with⟨v,s',hfit,hok,rfl,h2⟩|⟨ch,s',k,n,rfl,hk,hdp,hok,h2⟩
   ·have hv:=HFV.out v s' hfit
    have q:=HQ.out v.toNat hv;have hres:=HRES.out v.toNat;have htu2:=HTU.out v.toNat hv;have HFIT:=Qq (And.intro hfit hok)
    clear hfit hok HNEW HFV HQ HRES HTU HNUM;unfold xV at h2 ⊢
    simp only at h2 ⊢
    generalize zz X i v.toNat=N at *;obtain⟨Y,kd,gg⟩:=N;simp only at q htu2 h2 hres ⊢
    have hml:m<Y.ms.length:=by rw[q.ms];exact HMM.out
    have hil:i<Y.ps.length:=by rw[q.len];exact HI.out
    obtain⟨⟨u0,u1,u2⟩,f0,f1,f2⟩:=h2.xQ hml HMA.out;obtain⟨_,_,p',g',-,hld'⟩:=h2.pa hil;obtain⟨⟨-,y1,y2⟩,e1,e2⟩:=h2.proc hil HPA.out hld';have HQQ:=Qq q;by_cases h6:kd=6
    ·subst h6
     rw[if_pos rfl] at hres;have h3:=h2.Lw hil HPA.out (-1)
     have h4:=h3.zI (i:=m) hml HMA.out (-1)
     have h5:=h4.ye (i:=m) (by simpa [Sd.zP,Sd.zI] using hml) HMA.out (-1)
     have h6:=h5.setL (i:=m) (by simpa [Sd.zP,Sd.zI] using hml) HMA.out 0
     have HR:=Qq (And.intro hres h6)
     obtain⟨⟨a0,a1,a2⟩,b0,b1,b2⟩:=h3.xQ (i:=m) hml HMA.out
     clear h2 h3 h4 h5 h6 hres q hld' htu2;go_upto_region 9 with fail
     generalize w2.setCell ⟨pb,off+i*3+2,none⟩ (.int .i64 (-1))=w3 at *
     clear u0 u1 u2 f0 f1 f2 y1 y2 e1 e2;have HRR:Hid (WQ w0 b sp L D s X R j ak (fun v=>((yM X m v.toNat).1,xV (yM X m v.toNat))) (.returned (.tuple #[.int .i64 6,.int .i64 gg])) (((w3.setCell ⟨mb,off2+m*3,none⟩ (.int .i64 (-1))).setCell ⟨mb,off2+m*3+1,none⟩ (.int .i64 (-1))).setCell ⟨mb,off2+m*3+2,none⟩ (.int .i64 0))):=Qq (by
      obtain⟨r1,r2⟩:=HR.out;refine .inl ⟨v,s',HFIT.out.1,HFIT.out.2,?_,?_⟩
      ·simp only;rw[r1];rfl
      ·simp only;rw[r1];simp only
       rw[←U4 (X:=Y.zI i { Y.p i with by_:=-1 }) (by exact hml)];exact r2)
     clear HR;go_wp2;go_ret2
     exact HRR.out
    ·rw[if_neg h6] at hres
     have hk6:(kd==6)=false:=by simpa using h6
     have hwr:IntKind.i64.wrap (((Y.p i).tu:Int)+1)=((Y.p i).tu:Int)+1:=by rw[IntKind.wrap_i64];omega
     have h3:=h2.Hj hil HPA.out ((Y.p i).tu+1)
     rw[show(((Y.p i).tu+1:Nat):Int)=((Y.p i).tu:Int)+1 by omega] at h3
     have h4:=h3.ye (i:=m) hml HMA.out gg
     have h5:=h4.setL (i:=m) (by simpa [Sd.zP,Sd.zI] using hml) HMA.out Y.sl
     have HR:=Qq (And.intro hres h5)
     obtain⟨⟨-,a1,a2⟩,-,b1,b2⟩:=h3.xQ (i:=m) hml HMA.out
     have FH:=h3.FH;clear h2 h4 h5 hres q hld' htu2 h6;go_upto_region 12 with fail
     generalize w2.setCell ⟨pb,off+i*3+1,none⟩ (.int .i64 (((Y.p i).tu:Int)+1))=w3 at *
     clear u0 u1 u2 f0 f1 f2 y1 y2 e1 e2 h3;have HRR:Hid (WQ w0 b sp L D s X R j ak (fun v=>((yM X m v.toNat).1,xV (yM X m v.toNat))) (.returned (.tuple #[.int .i64 kd,.int .i64 gg])) ((w3.setCell ⟨mb,off2+m*3+1,none⟩ (.int .i64 gg)).setCell ⟨mb,off2+m*3+2,none⟩ (.int .i64 Y.sl))):=Qq (by
      obtain⟨r1,r2⟩:=HR.out;refine .inl ⟨v,s',HFIT.out.1,HFIT.out.2,?_,?_⟩
      ·simp only;rw[r1];rfl
      ·simp only;rw[r1];simp only
       rw[show({ Y.m m with G:=gg,L:=Y.sl }:Mm)={ (Y.zI i { Y.p i with tu:=(Y.p i).tu+1 }).m m with G:=gg,L:=Y.sl } from rfl,←Uv (X:=Y.zI i { Y.p i with tu:=(Y.p i).tu+1 }) (by exact hml)];exact r2)
     have hsl:(Y.zI i { Y.p i with tu:=(Y.p i).tu+1 }).sl=Y.sl:=rfl
     rw[hsl] at FH;clear HR hsl;generalize Y.sl=ysl at *;go_wp2;go_ret2
     exact HRR.out
   ·have HR:Hid (WQ w0 b sp L D s X R j ak (fun v=>((yM X m v.toNat).1,xV (yM X m v.toNat))) (.panicked ch) w2):=Qq (.inr ⟨ch,s',k,n,rfl,hk,hdp,hok,h2⟩)
    exact⟨rfl,HR.out⟩
  ·have hLn:¬LL>0:=hLp
   go_wp2_with fail;refine(HNEW.out _ H1.out).mono ?_
   rintro r w2 hp
   rcases hp with⟨v,s',hfit,hok,rfl,h2⟩|⟨ch,s',k,n,rfl,hk,hdp,hok,h2⟩
   ·have hv:=HFV.out v s' hfit
    have q:=HQ.out v.toNat hv;have hres:=HRES.out v.toNat;have htu2:=HTU.out v.toNat hv;have HFIT:=Qq (And.intro hfit hok)
    clear hfit hok HNEW HFV HQ HRES HTU HNUM;unfold xV at h2 ⊢
    simp only at h2 ⊢
    generalize zz X i v.toNat=N at *;obtain⟨Y,kd,gg⟩:=N;simp only at q htu2 h2 hres ⊢
    have hml:m<Y.ms.length:=by rw[q.ms];exact HMM.out
    have hil:i<Y.ps.length:=by rw[q.len];exact HI.out
    obtain⟨⟨u0,u1,u2⟩,f0,f1,f2⟩:=h2.xQ hml HMA.out;obtain⟨_,_,p',g',-,hld'⟩:=h2.pa hil;obtain⟨⟨-,y1,y2⟩,e1,e2⟩:=h2.proc hil HPA.out hld';have HQQ:=Qq q;by_cases h6:kd=6
    ·subst h6
     rw[if_pos rfl] at hres;have h3:=h2.Lw hil HPA.out (-1)
     have h4:=h3.zI (i:=m) hml HMA.out (-1)
     have h5:=h4.ye (i:=m) (by simpa [Sd.zP,Sd.zI] using hml) HMA.out (-1)
     have h6:=h5.setL (i:=m) (by simpa [Sd.zP,Sd.zI] using hml) HMA.out 0
     have HR:=Qq (And.intro hres h6)
     obtain⟨⟨a0,a1,a2⟩,b0,b1,b2⟩:=h3.xQ (i:=m) hml HMA.out
     clear h2 h3 h4 h5 h6 hres q hld' htu2;go_upto_region 9 with fail
     generalize w2.setCell ⟨pb,off+i*3+2,none⟩ (.int .i64 (-1))=w3 at *
     clear u0 u1 u2 f0 f1 f2 y1 y2 e1 e2;have HRR:Hid (WQ w0 b sp L D s X R j ak (fun v=>((yM X m v.toNat).1,xV (yM X m v.toNat))) (.returned (.tuple #[.int .i64 6,.int .i64 gg])) (((w3.setCell ⟨mb,off2+m*3,none⟩ (.int .i64 (-1))).setCell ⟨mb,off2+m*3+1,none⟩ (.int .i64 (-1))).setCell ⟨mb,off2+m*3+2,none⟩ (.int .i64 0))):=Qq (by
      obtain⟨r1,r2⟩:=HR.out;refine .inl ⟨v,s',HFIT.out.1,HFIT.out.2,?_,?_⟩
      ·simp only;rw[r1];rfl
      ·simp only;rw[r1];simp only
       rw[←U4 (X:=Y.zI i { Y.p i with by_:=-1 }) (by exact hml)];exact r2)
     clear HR;go_wp2;go_ret2
     exact HRR.out
    ·rw[if_neg h6] at hres
     have hk6:(kd==6)=false:=by simpa using h6
     have hwr:IntKind.i64.wrap (((Y.p i).tu:Int)+1)=((Y.p i).tu:Int)+1:=by rw[IntKind.wrap_i64];omega
     have h3:=h2.Hj hil HPA.out ((Y.p i).tu+1)
     rw[show(((Y.p i).tu+1:Nat):Int)=((Y.p i).tu:Int)+1 by omega] at h3
     have h4:=h3.ye (i:=m) hml HMA.out gg
     have h5:=h4.setL (i:=m) (by simpa [Sd.zP,Sd.zI] using hml) HMA.out Y.sl
     have HR:=Qq (And.intro hres h5)
     obtain⟨⟨-,a1,a2⟩,-,b1,b2⟩:=h3.xQ (i:=m) hml HMA.out
     have FH:=h3.FH;clear h2 h4 h5 hres q hld' htu2 h6;go_upto_region 12 with fail
     generalize w2.setCell ⟨pb,off+i*3+1,none⟩ (.int .i64 (((Y.p i).tu:Int)+1))=w3 at *
     clear u0 u1 u2 f0 f1 f2 y1 y2 e1 e2 h3;have HRR:Hid (WQ w0 b sp L D s X R j ak (fun v=>((yM X m v.toNat).1,xV (yM X m v.toNat))) (.returned (.tuple #[.int .i64 kd,.int .i64 gg])) ((w3.setCell ⟨mb,off2+m*3+1,none⟩ (.int .i64 gg)).setCell ⟨mb,off2+m*3+2,none⟩ (.int .i64 Y.sl))):=Qq (by
      obtain⟨r1,r2⟩:=HR.out;refine .inl ⟨v,s',HFIT.out.1,HFIT.out.2,?_,?_⟩
      ·simp only;rw[r1];rfl
      ·simp only;rw[r1];simp only
       rw[show({ Y.m m with G:=gg,L:=Y.sl }:Mm)={ (Y.zI i { Y.p i with tu:=(Y.p i).tu+1 }).m m with G:=gg,L:=Y.sl } from rfl,←Uv (X:=Y.zI i { Y.p i with tu:=(Y.p i).tu+1 }) (by exact hml)];exact r2)
     have hsl:(Y.zI i { Y.p i with tu:=(Y.p i).tu+1 }).sl=Y.sl:=rfl
     rw[hsl] at FH;clear HR hsl;generalize Y.sl=ysl at *;go_wp2;go_ret2
     exact HRR.out
   ·have HR:Hid (WQ w0 b sp L D s X R j ak (fun v=>((yM X m v.toNat).1,xV (yM X m v.toNat))) (.panicked ch) w2):=Qq (.inr ⟨ch,s',k,n,rfl,hk,hdp,hok,h2⟩)
    exact⟨rfl,HR.out⟩
theorem Own.Ft {w0 w:World}{As Bs:List zv}(h:Own w0 w (As++Bs)):Own w0 w As:=(h.perm List.perm_append_comm).Zj
theorem Own.join {w0 w w':World}{As:List zv}{A:zv}(h:Own w0 w As)(k:Own w w' [A]):Own w0 w' (A::As):=by
 obtain⟨F,h1,h2⟩:=k.head;exact h.add k.bel h1 h2
theorem yL.tail {w0 w:World}{p:Nat}{T:List Value}{d:Dq}{W:Wd}{Z R:List zv}(h:yL w0 w p T d W [] (Z++R)) :
  ∃S,Own w0 w (R++S)∧∀w' R',Own w0 w' (R'++S)→yL w0 w' p T d W [] (Z++R'):=by
 obtain⟨D,ra,rc,hf,ho⟩:=h;refine⟨zj p W D T++(ze d.q (yp p (d.g:Int) d.x d.th d.dr d.go ra ([]:List Int).length rc)::zd 1 ra rc ([]:List Int).length (zt [])::Z),ho.perm ?_,fun w' R' h'=>⟨D,ra,rc,hf,h'.perm ?_⟩⟩
 ·have:=(List.perm_append_comm (l₁:=zj p W D T++(ze d.q (yp p (d.g:Int) d.x d.th d.dr d.go ra ([]:List Int).length rc)::zd 1 ra rc ([]:List Int).length (zt [])::Z)) (l₂:=R))
  simpa [List.append_assoc] using this
 ·have:=(List.perm_append_comm (l₁:=R') (l₂:=zj p W D T++(ze d.q (yp p (d.g:Int) d.x d.th d.dr d.go ra ([]:List Int).length rc)::zd 1 ra rc ([]:List Int).length (zt [])::Z)))
  simpa [List.append_assoc] using this
theorem VR:∀(l:List It) (W:Wd) (x:It),wokeM W (l++[x])=(wokeM W l).zU x.id.toNat 1
 | [],W,x=>rfl
 | y::t,W,x=>VR t (W.zU y.id.toNat 1) x
theorem Tx:∀(l:List It) (W:Wd),(wokeM W l).gs.length=W.gs.length
 | [],W=>rfl
 | y::t,W=>by rw[wokeM,Tx t,xC]
theorem XV {D:Wa}:∀(l:List It) (W:Wd),D.fits W→D.fits (wokeM W l)
 | [],W,h=>h
 | y::t,W,h=>XV t _ (h.ye _ _)
theorem MK (l:List It)(i:Nat)(h:i<l.length):zt ((l.take (i+1)).map (·.id))=zt ((l.take i).map (·.id))++[.int .i64 (gI l i).id]:=by
 rw[List.take_succ_eq_append_getElem h,List.map_append,XR h];unfold zt;rw[List.map_append];rfl
theorem Me {w0 w:World}{p:Nat}{T:List Value}{W:Wd}{D:Wa}{R:List zv}(h:Own w0 w (zj p W D T++R))(hf:D.fits W)(hen:W.en=0)(hl:W.hp.length≤100000)(hc:W.clock≤100000)(hid:∀x∈W.hp,0≤x.id∧x.id<(W.gs.length:Int)) :
  Calls Tryz.prog 82 #[.pointer (some ⟨p,0,none⟩)] w fun r w'=>∃ra rc D',r=.returned (.slice ra (yY W).2.length rc)∧D'.fits (yY W).1∧Own w0 w' (zd 1 ra rc (yY W).2.length (zt (yY W).2)::(zj p (yY W).1 D' T++R)):=by
 have et:yY W=(wokeM { W with clock:=W.clock+1,hp:=(yZ W.hp ((W.clock:Int)+1)).2 } (yZ W.hp ((W.clock:Int)+1)).1,(yZ W.hp ((W.clock:Int)+1)).1.map (·.id)):=by
  unfold yY;rw[if_pos hen]
 rw[et];obtain⟨L,hL⟩:∃L,L=(yZ W.hp ((W.clock:Int)+1)).1:=⟨_,rfl⟩
 obtain⟨M,hM⟩:∃M,M=(yZ W.hp ((W.clock:Int)+1)).2:=⟨_,rfl⟩
 have hperm:=(YN _ W.hp ((W.clock:Int)+1) (Nat.le_refl _)).1
 rw[←hL,←hM] at hperm;have hlen:=hperm.length_eq;rw[List.length_append] at hlen;have hLl:L.length≤100000:=by omega
 have hLid:∀x∈L,0≤x.id∧x.id<(W.gs.length:Int):=fun x hx=>hid x (hperm.mem_iff.1 (List.mem_append.2 (.inl hx)))
 have p9:=(h.zi 0 rfl 9 _ rfl).1
 rw[hen] at p9;have p7:=h.zi 0 rfl 7 _ rfl;obtain⟨p7,q7⟩:=p7;have o1:Own w0 (w.setCell ⟨p,7,none⟩ (.int .u64 ((W.clock:Int)+1))) (zj p { W with clock:=W.clock+1 } D T++R):=h.setAt 0 rfl 7 _
 have HW:=Qq (fun(wx:World) (hx:Own w0 wx (zj p { W with clock:=W.clock+1 } D T++R))=>Fp hx ((W.clock:Int)+1) hl)
 simp only at HW
 rw[←hL,←hM] at HW;rw[←hL,←hM];have HF:Hid (D.fits { W with clock:=W.clock+1,hp:=M }):=Qq ⟨hf.f,hf.g,hf.c,hf.n,hf.l,hf.k⟩
 have HID:=Qq hLid;have H1:=Qq o1;generalize hN:L.length=N at *
 have HN:=Qq hN;obtain⟨i0,hi0,hz0,hz1,hz2⟩:=info_parts Zq;have Hi:=Qq hi0;clear hi0
 have Hz0:=Qq hz0;clear hz0
 have Hz1:=Qq hz1;clear hz1
 have Hz2:=Qq hz2;clear hz2
 generalize hrr:(wokeM { W with clock:=W.clock+1,hp:=M } L,L.map fun x=>x.id)=rr
 have HRR:=Qq hrr;clear h hf hen hid et hL hM hperm hlen hLid o1 hN hrr;go_enter Tryz.func82,Tryz.ntmps82
 go_upto_region 5 with fail
 generalize w.setCell ⟨p,7,none⟩ (.int .u64 ((W.clock:Int)+1))=w1 at *
 clear p7 q7 p9;have x7:w1.cell? ⟨p,7,none⟩=some (.int .u64 ((W.clock:Int)+1)):=(H1.out.zi 0 rfl 7 _ rfl).1
 have HWX:=Qq (HW.out _ (H1.out.step (zx w1 1)))
 have HB:Hid (∀wx,Below w1.heap.size w1 wx→wx.cell? ⟨p,7,none⟩=some (.int .u64 ((W.clock:Int)+1))):=Qq (fun wx hb=>zq x7 hb)
 refine zk (fun wx=>wx.cell? ⟨p,7,none⟩=some (.int .u64 ((W.clock:Int)+1))) 10 0 (Array.replicate 10 false) (Qj 10 1023) (by kernel_rfl) (by kernel_rfl) ?_
 refine zf 0 7 _ (Qj 10 127) 3 (by kernel_rfl) za (HB.out _ (zx w1 1)) (by kernel_rfl) ?_
 simp only[QX,QV,QJ];(repeat((first|refine Qx (h:=?_)|refine Qv (h:=?_));simp only[Act.put,QW,QY,QZ]));refine zb ?_;refine zf 9 1 _ (Qj 10 639) 2 (by kernel_rfl) za (HB.out _ (zx w1 1)) (by kernel_rfl) ?_
 simp only[QX,QV,QQ,QJ];(repeat((first|refine Qx (h:=?_)|refine Qv (h:=?_));simp only[Act.put,QW,QY,QZ]));refine zb ?_;refine zA 7 _ (Qj 10 767) 1 (by kernel_rfl) (fun K hK=>?_)
 have HKK:=Qq hK;clear hK;simp only[QQ,QJ];refine zc (by rfl) ?_;go_simp;refine HWX.out.mono ?_
 rintro r w2 ⟨v5,sv',rfl,ho⟩;obtain⟨Fi,⟨-,hit⟩,-⟩:=ho.head;have x8:w2.cell? ⟨p,7,none⟩=some (.int .u64 ((W.clock:Int)+1)):=(ho.zi 1 rfl 7 _ rfl).1
 obtain⟨a5,c5,hv5,hc5⟩:=hit.slice;rw[HN.out] at hv5 hc5;subst hv5;refine HKK.out _ _ (x8) ?_
 clear HKK K;refine zf 8 1 _ (Qj 10 1023) 0 (by kernel_rfl) za (x8) (by kernel_rfl) ?_
 simp only[QX,QV,QQ,QJ];(repeat((first|refine Qx (h:=?_)|refine Qv (h:=?_));simp only[Act.put,QW,QY,QZ]));refine zb ?_;refine zo ?_;refine zD (by kernel_rfl) (NoPanic.normal ?_)
 have H2:Hid (Own w0 w2 (zj p { W with clock:=W.clock+1,hp:=M } { D with sv:=sv' } T++(zd 1 none 0 0 []::xv (.slice a5 N c5) L::R))):=Qq (((ho.perm List.perm_middle.symm).VD 1).perm List.perm_middle.symm)
 have HF2:Hid (({ D with sv:=sv' }:Wa).fits { W with clock:=W.clock+1,hp:=M }):=Qq ⟨HF.out.f,HF.out.g,HF.out.c,HF.out.n,HF.out.l,HF.out.k⟩
 obtain⟨D2,hD2⟩:∃D2:Wa,D2={ D with sv:=sv' }:=⟨_,rfl⟩
 obtain⟨W2,hW2⟩:∃W2:Wd,W2={ W with clock:=W.clock+1,hp:=M }:=⟨_,rfl⟩
 have hg2:W2.gs.length=W.gs.length:=by rw[hW2]
 rw[←hD2,←hW2] at H2 HF2;have HRR2:Hid ((wokeM W2 L,L.map fun x=>x.id)=rr):=Qq (by rw[hW2];exact HRR.out)
 clear HRR;have HG2:=Qq hg2;clear ho hit x8 x7 HWX HW hD2 hW2 HF HB hg2;go_wp2_with fail;go_loopw [3,27] (fun sv iv wr=>∃i:Nat,∃ra rc,i≤N∧iv=.int .i64 i∧sv=.slice ra i rc∧Hid (Own w0 wr (zj p (wokeM W2 (L.take i)) D2 T++(zd 1 ra rc i (zt ((L.take i).map (·.id)))::xv (.slice a5 N c5) L::R)))) (fun _ iv _=>N-(intOf iv).toNat)
 case atStart=>exact⟨0,none,0,by omega,rfl,rfl,H2⟩
 case round =>
  obtain⟨i,ra,rc,hi,rfl,rfl,hr⟩:=hrel;clear H2;by_cases hlt:i<N
  ·have hil:i<L.length:=by rw[HN.out];exact hlt
   have hli:(i:Int)<(N:Int):=by omega
   have hi0:(0:Int)≤(i:Int):=by omega
   obtain⟨Fi,⟨-,hit⟩,-⟩:=hr.out.fact 11 rfl;obtain⟨g5,cap5,hv5,hcap5⟩:=hit.form (by omega)
   rw[HN.out] at hv5;simp only[Value.slice.injEq] at hv5;obtain⟨rfl,-,rfl⟩:=hv5;obtain⟨y0,y1,y2⟩:=hit.cell i hil;have hidx:=HID.out (gI L i) (by rw[XR hil];exact List.getElem_mem _)
   have hsn:=MK L i hil;obtain⟨ids,hids⟩:∃ids,ids=zt ((L.take i).map (·.id)):=⟨_,rfl⟩
   rw[←hids] at hsn hr;clear hids;have htk:L.take (i+1)=L.take i++[gI L i]:=by rw[List.take_succ_eq_append_getElem hil,XR hil]
   have hwk:wokeM W2 (L.take (i+1))=(wokeM W2 (L.take i)).zU (gI L i).id.toNat 1:=by rw[htk,VR]
   have hgl:(wokeM W2 (L.take i)).gs.length=W2.gs.length:=Tx _ _
   have HWK:=Qq hwk;have HSN:=Qq hsn;have HFI:=Qq (XV (L.take i) _ HF2.out)
   obtain⟨W3,hW3⟩:∃W3,W3=wokeM W2 (L.take i):=⟨_,rfl⟩
   rw[←hW3] at hr HWK HFI hgl;generalize gI L i=x at *;obtain⟨xa,xs,xi⟩:=x;simp only at y0 y1 y2 hidx HWK HSN
   obtain⟨k,rfl⟩:∃k:Nat,xi=(k:Int):=⟨xi.toNat,by omega⟩
   have hk:k<W3.gs.length:=by have:=HG2.out;omega
   have oA:=hr.out.step (below_alloc1 wr (.cells #[.int .u64 xa,.int .u64 xs,.int .i64 (k:Int)] 225))
   have hbx:=zr.new wr [.int .u64 xa,.int .u64 xs,.int .i64 (k:Int)] 225 rfl
   have HA:=Qq (hr.out.alloc [.int .u64 xa,.int .u64 xs,.int .i64 (k:Int)] 225 (b:=wr.heap.size) rfl)
   clear hit hsn htk hwk hW3 hr oA hbx hil hgl;go_upto_region 8 with fail
   generalize wr.alloc (.cells #[.int .u64 xa,.int .u64 xs,.int .i64 (k:Int)] 225)=wA at *
   generalize wr.heap.size=bx at *;have oB:Own w0 wA (zj p W3 D2 T++(ze bx [.int .u64 xa,.int .u64 xs,.int .i64 (k:Int)]::zd 1 ra rc i ids::xv (.slice (some ⟨g5,0,none⟩) N c5) L::R)):=HA.out.perm List.perm_middle.symm
   obtain⟨s,cap,hs⟩:=HFI.out.Yh hk;obtain⟨b,off,haa,st0,st1,-,-⟩:=Yt oB hk hs;have p2:wA.cell? ⟨p,2,none⟩=some (.slice (some ⟨b,off,none⟩) W3.gs.length D2.ac):=by rw[←haa];exact(oB.zi 0 rfl 2 _ rfl).1
   obtain⟨x2,-⟩:=oB.zi 10 rfl 2 _ rfl;have HB9:Hid (Own w0 ((wA.setCell ⟨b,off+k*2,none⟩ (.int .i64 1)).drew) (zj p (W3.zU k 1) D2 T++(ze bx [.int .u64 xa,.int .u64 xs,.int .i64 (k:Int)]::zd 1 ra rc i ids::xv (.slice (some ⟨g5,0,none⟩) N c5) L::R))):=Qq ((Ve oB HFI.out hk haa 1).step (zg _))
   have hkl:(k:Int)<(W3.gs.length:Int):=by omega
   have hk0:(0:Int)≤(k:Int):=by omega
   generalize W3.gs.length=G3 at *;clear oB haa hs HA;refine zk (fun wx=>∃nq,wx=World.drewN (wA) nq) 8 1 (Array.replicate 9 false) (Qj 9 255) (by kernel_rfl) (by kernel_rfl) ?_
   refine zf 0 8 _ (Qj 9 255) 0 (by kernel_rfl) za (zE wA) (by kernel_rfl) ?_
   simp only[QX,QV,QJ];(repeat((first|refine Qx (h:=?_)|refine Qw (h:=?_));simp only[Act.put,QW,QY,QZ]));refine zb ?_;refine zo ?_;refine zS 8 (by kernel_rfl) ?_
   simp only[QQ,QJ];go_wp2_with fail;refine NoPanic.normal ?_
   have H9:=HB9;clear HB9 st0 st1 p2 x2;go_upto_region 9 with fail
   generalize (wA.setCell ⟨b,off+k*2,none⟩ (.int .i64 1)).drew=wB at *
   obtain⟨x2,-⟩:=H9.out.zi 10 rfl 2 _ rfl;have HC:=Qq (H9.out.step (below_alloc1 wB (.cells #[.int .i64 (k:Int)] 3)))
   clear H9;go_wp2_with (at_builtin;go_loud (refine yk rfl _ _ 23 rfl 3 i0 _ Tryz.underlying23 Hi.out Hz0.out Hz1.out Hz2.out rfl (by decide) (by decide) (n:=i) (m:=1) (cs:=ids) (ds:=[.int .i64 (k:Int)]) (by rfl) (by rfl) (HC.out.xl 11 rfl) (zr.new _ [.int .i64 (k:Int)] _ rfl) rfl (by simp[Value.oneCell']) (by omega) ?_))
   intro a9 c9 w9 k9 ch9 f9;have o9:=Own.yJ (HC.out.pick 11 rfl) k9 ch9 (fun x hx=>by simpa using f9 x hx)
   have HE:Hid (Own w0 w9 (zj p (wokeM W2 (L.take (i+1))) D2 T++(zd 1 a9 c9 (i+1) (zt ((L.take (i+1)).map (·.id)))::xv (.slice (some ⟨g5,0,none⟩) N c5) L::R))):=Qq (by
    rw[HWK.out,HSN.out,Int.toNat_natCast];have o10:Own w0 w9 (zd 1 a9 c9 (i+1) (ids++[.int .i64 (k:Int)])::(zj p (W3.zU k 1) D2 T++(xv (.slice (some ⟨g5,0,none⟩) N c5) L::R))):=(o9.pick 11 rfl).drop
    exact o10.perm List.perm_middle.symm)
   clear o9 k9 ch9 f9 HC HWK HSN;go_wp2;exact⟨⟨i+1,a9,c9,by omega,by go_num,rfl,HE⟩,by simp[intOf];omega⟩
  ·obtain rfl:i=N:=by omega
   have HE:Hid (D2.fits rr.1∧Own w0 wr (zd 1 ra rc rr.2.length (zt rr.2)::(zj p rr.1 D2 T++R))∧rr.2.length=i):=Qq (by
    have e:L.take i=L:=by rw[←HN.out,List.take_length]
    rw[←HRR2.out];have h1:=hr.out;rw[e] at h1;refine⟨XV L _ HF2.out,?_,by simp[HN.out]⟩
    have h2:=h1.perm List.perm_middle;have h3:Own w0 wr (xv (.slice a5 i c5) L::(zd 1 ra rc i (zt (L.map (·.id)))::(zj p (wokeM W2 L) D2 T++R))):=h2.perm (by
     refine(List.Perm.cons _ List.perm_middle).trans (List.Perm.swap _ _ _))
    have h4:=h3.drop;rw[List.length_map,HN.out];exact h4)
   clear hr HRR2;go_wp2;go_ret;exact⟨ra,rc,D2,by rw[HE.out.2.2];rfl,HE.out.1,HE.out.2.1⟩
theorem FA {w0 w:World}{p:Nat}{T:List Value}{W:Wd}{R:List zv}{B:Nat}(h:Own w0 w (Xg p W T::R))(wf:WF B W)(hB:B≤80000) :
  Calls Tryz.prog 82 #[.pointer (some ⟨p,0,none⟩)] w fun r w'=>∃ra rc,r=.returned (.slice ra (yY W).2.length rc)∧Own w0 w' (zd 1 ra rc (yY W).2.length (zt (yY W).2)::Xg p (yY W).1 T::R):=by
 obtain⟨D,hf,ho⟩:=h.Hd;by_cases hen:W.en=0
 ·refine(Me ho hf hen (by have:=wf.hp.1;omega) (by have:=wf.clock;omega) (fun x hx=>(wf.hp.2.2.1 x hx).1)).mono (fun r w' hh=>?_)
  obtain⟨ra,rc,D',h1,h2,h3⟩:=hh;exact⟨ra,rc,h1,Own.Ob h2 h3⟩
 ·have et:yY W=(W,[]):=by unfold yY;rw[if_neg hen]
  rw[et];have p9:=(ho.zi 0 rfl 9 _ rfl).1
  have H:=Qq (Own.Ti hf ho)
  have hb:(W.en !=0)=true:=by rw[bne_iff_ne];exact hen
  generalize W.en=e at *;clear h hf ho et;go_enter Tryz.func82,Tryz.ntmps82
  go_wp2;go_ret;exact⟨none,0,rfl,Own.VD 1 H.out⟩
def T5 (G:Gt):Bool:=decide (G.st=1)||decide (G.st=3)
theorem Sy (w:World)(st:Int)(v:Value):Calls Tryz.prog 60 #[.agg #[.int .i64 st,v]] w fun r w'=>r=.returned (.bool (decide (st=1)||decide (st=3)))∧Below w.heap.size w w':=by
 have hb:=below_alloc1 w (.cells #[.int .i64 st,v] 159)
 have HB:=Qq hb;clear hb;by_cases h1:st=1
 ·subst h1
  go_enter Tryz.func60,Tryz.ntmps60
  go_wp2;go_ret;exact⟨rfl,HB.out⟩
 ·have h2:(st==1)=false:=by rw[beq_eq_false_iff_ne];exact h1
  have h3:(decide (st=1)||decide (st=3))=(st==3):=by rw[decide_eq_false h1,Bool.false_or];by_cases h:st=3<;>simp[h]
  rw[h3];clear h3;go_enter Tryz.func60,Tryz.ntmps60
  go_wp2;go_ret;exact⟨rfl,HB.out⟩
theorem PI (w:World)(aa:Option Addr)(ac:Nat)(sk:List (Nat×Nat))(gs:List Gt)(h:zr w aa (YB sk gs))(hs:sk.length=gs.length)(hl:gs.length≤1000000) :
  Calls Tryz.prog 79 #[.slice aa gs.length ac,.func (.func 60) #[] #[]] w fun r w'=>∃k:Int,r=.returned (.int .i64 k)∧decide (k≥0)=gs.any T5∧Below w.heap.size w w':=by
 obtain⟨N,hN⟩:∃N,N=gs.length:=⟨_,rfl⟩
 rw[←hN] at hl ⊢;have HN:=Qq hN;have HC:=Qq (fun(i:Nat) (hi:i<N)=>(by
  obtain⟨b,off,h1,h2,h3⟩:=Kz h (g:=i) (List.getElem?_eq_getElem (by omega)) (List.getElem?_eq_getElem (by omega))
  exact⟨b,off,_,_,h1,List.take_succ_eq_append_getElem (by omega),h2,h3⟩:∃b off G v,aa=some ⟨b,off,none⟩∧gs.take (i+1)=gs.take i++[G]∧w.cell? ⟨b,off+i*2,none⟩=some (.int .i64 G.st)∧w.cell? ⟨b,off+i*2+1,none⟩=some v))
 have en:∀(args:Array Value) (w:World),(callFunc 60 args).run Tryz.prog w=.ok (.enter 60 args) w:=fun _ _=>by kernel_rfl
 clear h hs hN;go_enter Tryz.func79,Tryz.ntmps79
 go_wp2_with fail;go_loopw [8] (fun iv wr=>∃i:Nat,i≤N∧iv=.int .i64 i∧Hid ((gs.take i).any T5=false∧Below w.heap.size w wr)) (fun iv _=>N-(intOf iv).toNat)
 case atStart=>exact⟨0,by omega,rfl,Qq ⟨rfl,Below.refl _ _⟩⟩
 case round =>
  obtain⟨i,hi,rfl,hb⟩:=hrel;by_cases hlt:i<N
  ·have hlt2:(i:Int)<(N:Int):=by omega
   have hi0:(0:Int)≤(i:Int):=by omega
   obtain⟨b,off,G,v,rfl,hG,c0,c1⟩:=HC.out i hlt;have d0:=zq c0 hb.out.2;have d1:=zq c1 hb.out.2;have HG:=Qq hG;clear hG;go_wp2_with fail;refine(Sy wr G.st v).mono ?_
   rintro r w1 ⟨rfl,hb1⟩;have HB1:=Qq (zB hb.out.2 hb1)
   have HNO:=Qq hb.out.1;clear hb1 hb d0 d1;have e:(decide (G.st=1)||decide (G.st=3))=T5 G:=rfl
   rw[e];cases hu:T5 G with
   | true =>
    go_wp2;go_ret;refine⟨_,rfl,?_,HB1.out⟩
    have hmem:G∈gs:=List.mem_of_mem_take (i:=i+1) (by rw[HG.out];simp)
    rw[List.any_eq_true.2 ⟨G,hmem,hu⟩]
    exact decide_eq_true (by omega)
   | false =>
    have H2:Hid ((gs.take (i+1)).any T5=false∧Below w.heap.size w w1):=Qq ⟨by rw[HG.out,List.any_append,HNO.out,Bool.false_or,List.any_cons,hu];rfl,HB1.out⟩
    clear hu HNO HB1;go_wp2;exact⟨⟨i+1,by omega,by go_num,H2⟩,by simp[intOf];omega⟩
  ·obtain rfl:i=N:=by omega
   go_wp2;go_ret;exact⟨_,rfl,by have:=hb.out.1;rw[HN.out,List.take_length] at this;rw[this];rfl,hb.out.2⟩
theorem UN (w:World)(aa:Option Addr)(ac:Nat)(sk:List (Nat×Nat))(gs:List Gt)(h:zr w aa (YB sk gs))(hs:sk.length=gs.length)(hl:gs.length≤1000000) :
  Calls Tryz.prog 61 #[.slice aa gs.length ac,.func (.func 60) #[] #[]] w fun r w'=>r=.returned (.bool (gs.any T5))∧Below w.heap.size w w':=by
 have HI:=Qq (PI w aa ac sk gs h hs hl)
 generalize gs.length=N at *;generalize gs.any T5=u at *;clear h hs hl;go_enter Tryz.func61,Tryz.ntmps61
 go_wp2_with fail;refine HI.out.mono ?_
 rintro r w1 ⟨k,rfl,rfl,hb⟩;have HB:=Qq hb;clear hb;go_wp2;go_ret;exact⟨rfl,HB.out⟩
theorem JR {w0 w:World}{p:Nat}{T:List Value}{W:Wd}{R:List zv}(h:Own w0 w (Xg p W T::R))(hl:W.gs.length≤1000000):Calls Tryz.prog 36 #[.pointer (some ⟨p,0,none⟩)] w fun r w'=>r=.returned (.bool (Um W))∧Below w.heap.size w w':=by
 obtain⟨D,hf,ho⟩:=h.Hd;have c8:=(ho.zi 0 rfl 9 _ rfl).1
 have c2:=(ho.zi 0 rfl 2 _ rfl).1
 have HCT:=Qq (UN w D.aa D.ac D.sk W.gs (ho.xl 2 rfl).cells hf.g hl)
 have e:Um W=(decide (W.en=0)&&!W.gs.any T5):=rfl
 rw[e];generalize W.gs.any T5=u at *;generalize W.gs.length=N at *;generalize hen:W.en=en at *
 clear h hf ho e hen hl;by_cases h0:en=0
 ·subst h0
  go_enter Tryz.func36,Tryz.ntmps36
  go_wp2_with (go_at_call 61;refine HCT.out.mono ?_;rintro r w1 ⟨rfl,hb⟩)
  have HB:=Qq hb;clear hb;go_wp2;go_ret;exact⟨by simp,HB.out⟩
 ·have h1:(en==0)=false:=by rw[beq_eq_false_iff_ne];exact h0
  rw[decide_eq_false h0,Bool.false_and];go_enter Tryz.func36,Tryz.ntmps36
  go_wp2;go_ret;exact⟨rfl,Below.refl _ _⟩
def Z8 (W:Wd)(k:Nat):Option (Int×Int):=if W.lets (k:Int)∧1≤xJ W ((W.ins k).getD (0,0,0,0)) then some (Vi ((W.ins k).getD (0,0,0,0)),(xJ W ((W.ins k).getD (0,0,0,0)):Int)) else none
theorem J8 {B:Nat}{W:Wd}(wf:WF B W)(k:Nat):xJ W ((W.ins k).getD (0,0,0,0))≤1099511627776:=by
 unfold xJ;split
 ·rename_i e
  cases hx:W.ins k with
  | none=>rw[hx] at e;exact absurd e (by decide)
  | some x =>
   rw[hx] at e;simp only[Option.getD_some] at e ⊢
   have:=((wf.VZ hx).1.o21 e).2
   omega
 ·split
  ·rename_i e
   refine Nat.le_trans (So _ _ _) ?_
   unfold Wd.yK;rw[if_neg (by omega),if_neg (by omega)]
   have:=wf.p.kl
   simp only[List.length_take,List.length_drop];omega
  ·omega
theorem V5 {α:Type}(Q A R S:List α):(((Q++(A++R))++S)).Perm (A++(Q++(R++S))):=by
 rw[List.append_assoc,List.append_assoc];exact List.perm_append_comm_assoc Q A (R++S)
theorem Oc {w0 w:World}{b sp:Nat}{L:Sl}{X:Sd}{R:List zv}{D:UU sp}{s:D.T}{j B:Nat}(h:zG w0 w b sp L X (D.A s++R))(hok:D.ok (j+1) s)(wf:WF B X.W)(hB:B≤80000)(k:Nat) :
  Calls Tryz.prog 85 #[.pointer (some ⟨b,0,none⟩),.int .i64 (k:Int),.func (.func 52) #[.pointer (some ⟨sp,0,none⟩)] #[]] w fun r w' =>
   (∃v s' ra rc,Fit D s (Z8 X.W k) v s'∧D.ok j s'∧r=.returned (.agg #[.bool (zR X.W (k:Int) v).2.1,.slice ra (zR X.W (k:Int) v).2.2.length rc])∧zG w0 w' b sp L { X with W:=(zR X.W (k:Int) v).1 } (zd 1 ra rc (zR X.W (k:Int) v).2.2.length (zt (zR X.W (k:Int) v).2.2)::(D.A s'++R))) ∨
   (∃ch s' kd n,r=.panicked ch∧Z8 X.W k=some (kd,n)∧D.Dp s kd n r s'∧D.ok j s'∧zG w0 w' b sp L X (D.A s'++R)):=by
 obtain⟨T,Q,h1,h2⟩:=h.world;have en:∀(args:Array Value) (w:World),(callFunc 52 args).run Tryz.prog w=.ok (.enter 52 args) w:=fun _ _=>by kernel_rfl
 have hself:({ X with W:=X.W }:Sd)=X:=rfl
 have hal:=J8 wf k;refine(Gf (fst:=#[.pointer (some ⟨sp,0,none⟩)]) (cap:=#[]) (Qd:=fun v R'=>∃s',(0≤v∧v<(xJ X.W ((X.W.ins k).getD (0,0,0,0)):Int))∧D.Dv s (Vi ((X.W.ins k).getD (0,0,0,0))) (xJ X.W ((X.W.ins k).getD (0,0,0,0)):Int) v s'∧D.ok j s'∧R'=Q++(D.A s'++R))
  (Qp:=fun r R'=>∃s',D.Dp s (Vi ((X.W.ins k).getD (0,0,0,0))) (xJ X.W ((X.W.ins k).getD (0,0,0,0)):Int) r s'∧D.ok j s'∧R'=Q++(D.A s'++R)) h1 wf hB (k:Int) en (fun _ hn=>?_)).mono (fun r w' hh=>?_)
 ·simp only[Int.toNat_natCast] at hn ⊢
  intro Z dq w' hD;obtain⟨S,k1,k2⟩:=hD.tail;have k3:Own w0 w' (D.A s++(Q++(R++S))):=k1.perm (V5 _ _ _ _)
  refine(D.hd s _ _ _ j hok ⟨by omega,by omega⟩ k3).mono (fun r w'' hh=>?_)
  rcases hh with⟨v,s',a1,a2,a3,a4,a5⟩|⟨ch,s',a1,a2,a3,a4⟩
  ·exact .inl ⟨v,_,a1,⟨s',a2,a3,a4,rfl⟩,k2 _ _ (a5.perm (V5 _ _ _ _).symm)⟩
  ·exact .inr ⟨ch,_,a1,⟨s',a2,a3,rfl⟩,k2 _ _ (a4.perm (V5 _ _ _ _).symm)⟩
 ·simp only[Hl,Int.toNat_natCast] at hh
  rcases hh with⟨v,R',ra,rc,hq,h3,h4⟩|⟨ch,R',h3,h4,h5,h6⟩
  ·rcases hq with⟨hn,rfl⟩|⟨hn,s',hv,hdv,hok',rfl⟩
   ·have hno:Z8 X.W k=none:=by
     unfold Z8;rw[if_neg];rintro⟨c1,c2⟩
     rcases hn with hn|hn
     ·exact hn c1
     ·omega
    have e:zR X.W (k:Int) v=zR X.W (k:Int) 0:=Q2 wf (fun hl=>by
     rw[Int.toNat_natCast];rcases hn with hn|hn
     ·exact absurd hl hn
     ·exact hn) v 0
    rw[e] at h3 h4;refine .inl ⟨0,s,ra,rc,.inl ⟨hno,rfl,rfl⟩,D.less _ _ hok,h3,?_⟩
    refine h2 _ _ _ (h4.perm ?_)
    exact(List.Perm.swap _ _ _).trans (List.Perm.cons _ List.perm_middle.symm)
   ·have hso:Z8 X.W k=some (Vi ((X.W.ins k).getD (0,0,0,0)),(xJ X.W ((X.W.ins k).getD (0,0,0,0)):Int)):=by unfold Z8;rw[if_pos hn]
    refine .inl ⟨v,s',ra,rc,.inr ⟨_,_,hso,hv,hdv⟩,hok',h3,?_⟩
    refine h2 _ _ _ (h4.perm ?_)
    exact(List.Perm.swap _ _ _).trans (List.Perm.cons _ List.perm_middle.symm)
  ·obtain⟨s',hdp,hok',rfl⟩:=h5
   have hso:Z8 X.W k=some (Vi ((X.W.ins k).getD (0,0,0,0)),(xJ X.W ((X.W.ins k).getD (0,0,0,0)):Int)):=by unfold Z8;rw[if_pos h4]
   exact .inr ⟨ch,s',_,_,h3,hso,hdp,hok',h2 _ _ _ h6⟩
theorem Jt {w0 w:World}{b sp:Nat}{L:Sl}{X:Sd}{R:List zv}{B:Nat}(h:zG w0 w b sp L X R)(wf:WF B X.W)(hB:B≤80000) :
  Calls Tryz.prog 82 #[.pointer (some ⟨b,0,none⟩)] w fun r w'=>∃ra rc,r=.returned (.slice ra (yY X.W).2.length rc)∧zG w0 w' b sp L { X with W:=(yY X.W).1 } (zd 1 ra rc (yY X.W).2.length (zt (yY X.W).2)::R):=by
 obtain⟨T,Q,h1,h2⟩:=h.world;refine(FA h1 wf hB).mono (fun r w' hh=>?_)
 obtain⟨ra,rc,h3,h4⟩:=hh;exact⟨ra,rc,h3,h2 _ _ _ (h4.perm ((List.Perm.swap _ _ _).trans (List.Perm.cons _ List.perm_middle.symm)))⟩
theorem Gl {w0 w:World}{b sp:Nat}{L:Sl}{X:Sd}{R:List zv}(h:zG w0 w b sp L X R):Calls Tryz.prog 25 #[.pointer (some ⟨b,0,none⟩)] w fun r w'=>r=.returned (.tuple #[.int .i64 X.W.en,.int .i64 X.W.why])∧∃k,w'=w.drewN k:=by
 obtain⟨T,Q,h1,h2⟩:=h.world;exact Hm h1
theorem Ke {w0 w:World}{b sp:Nat}{L:Sl}{X:Sd}{R:List zv}(h:zG w0 w b sp L X R)(hl:X.W.gs.length≤1000000):Calls Tryz.prog 36 #[.pointer (some ⟨b,0,none⟩)] w fun r w'=>r=.returned (.bool (Um X.W))∧Below w.heap.size w w':=by
 obtain⟨T,Q,h1,h2⟩:=h.world;exact JR h1 hl
theorem UW {w0 w:World}{b sp:Nat}{L:Sl}{X:Sd}{R:List zv}(h:zG w0 w b sp L X R)(g:Int):Calls Tryz.prog 35 #[.pointer (some ⟨b,0,none⟩),.int .i64 g] w fun r w'=>r=.returned (.int .i64 (xm X.W g))∧w'=w:=by
 obtain⟨T,Q,h1,h2⟩:=h.world;exact Rp h1 g
theorem Wy {w0 w:World}{b sp:Nat}{L:Sl}{X:Sd}{R:List zv}(h:zG w0 w b sp L X R)(hl:X.W.gs.length≤1000000) :
  Calls Tryz.prog 11 #[.pointer (some ⟨b,0,none⟩)] w fun r w'=>r=.returned (.int .i64 (xU X))∧Below w.heap.size w w':=by
 have HE:=Qq (Gl h)
 have HS:=Qq (fun k=>Ke (h.step (zx w k)) hl)
 unfold xU;generalize Um X.W=st at *;generalize X.W.en=en at *;clear h hl;go_enter Tryz.func11,Tryz.ntmps11
 go_wp2_with fail;refine HE.out.mono ?_
 rintro r w1 ⟨rfl,k,rfl⟩;by_cases e1:en=1
 ·subst e1
  go_wp2;go_ret;exact⟨rfl,zx w k⟩
 ·have b1:(en==1)=false:=by simpa using e1
  by_cases e2:en=2
  ·subst e2
   go_wp2;go_ret;exact⟨rfl,zx w k⟩
  ·have b2:(en==2)=false:=by simpa using e2
   go_wp2_with fail;refine(HS.out k).mono ?_
   rintro r w2 ⟨rfl,hb⟩;have HB:=Qq (zB (zx w k) hb)
   clear hb;cases st with
   | true =>
    go_wp2;go_ret;exact⟨by simp[e1,e2],HB.out⟩
   | false =>
    go_wp2;go_ret;exact⟨by simp[e1,e2],HB.out⟩
theorem Xl:∀(l:List Int) (X:Sd) (i:Nat) (g:Int),yn X i (l++[g])={ (yn X i l).zI i { (yn X i l).p i with q:=(xx ((yn X i l).p i).N ((yn X i l).p i).q g (yn X i l).gl).1 } with gl:=(xx ((yn X i l).p i).N ((yn X i l).p i).q g (yn X i l).gl).2.1 }
 | [],X,i,g=>rfl
 | h::t,X,i,g=>by
  rw[List.cons_append];exact Xl t _ i g
section
variable {w0 w:World} {b sp:Nat} {L:Sl} {X:Sd} {R:List zv}
theorem zG.perm {R':List zv}(h:zG w0 w b sp L X R)(hp:R.Perm R'):zG w0 w b sp L X R':=by
 obtain⟨S,h1,h2⟩:=h.tail;exact h2 _ _ (h1.perm (hp.append_right S))
theorem zG.box (h:zG w0 w b sp L X R)(l:List Value)(t:TypeId):zG w0 (w.alloc (.cells l.toArray t)) b sp L X (ze w.heap.size l::R):=by
 obtain⟨S,h1,h2⟩:=h.tail;exact h2 _ _ (h1.alloc l t rfl)
theorem zG.zi {q:Nat}{cs:List Value}(h:zG w0 w b sp L X (ze q cs::R))(k:Nat)(v:Value)(hk:cs[k]?=some v):w.cell? ⟨q,k,none⟩=some v∧w.frozen? ⟨q,k,none⟩=false:=by
 obtain⟨S,h1,h2⟩:=h.tail;exact Own.zi h1 0 rfl k v hk
theorem zG.zJ {q:Nat}{cs:List Value}(h:zG w0 w b sp L X (ze q cs::R))(k:Nat)(v:Value):zG w0 (w.setCell ⟨q,k,none⟩ v) b sp L X (ze q (cs.set k v)::R):=by
 obtain⟨S,h1,h2⟩:=h.tail;exact h2 _ _ (Own.set h1 k v)
theorem zG.row {a:Option Addr}{cap n:Nat}{cs:List Value}{A:zv}(h:zG w0 w b sp L X (A::zd 1 a cap n cs::R)):zT 1 w a cap n cs:=by
 obtain⟨S,h1,h2⟩:=h.tail;exact Own.xl h1 1 rfl
end
def Xk (w0:World)(b sp:Nat)(L:Sl)(D:UU sp)(s:D.T)(X:Sd)(R:List zv)(j m k:Nat)(r:Ending)(w':World):Prop :=
 (∃v s' ra rc,Fit D s (Z8 X.W k) v s'∧D.ok j s'∧r=.returned (.slice ra (runM X m v).2.length rc)∧zG w0 w' b sp L (runM X m v).1 (zd 1 ra rc (runM X m v).2.length (zt (runM X m v).2)::(D.A s'++R))) ∨
 (∃ch s' kd n,r=.panicked ch∧Z8 X.W k=some (kd,n)∧D.Dp s kd n r s'∧D.ok j s'∧zG w0 w' b sp L X (D.A s'++R))
theorem Xk.KV {w0:World}{b sp:Nat}{L:Sl}{D:UU sp}{s:D.T}{X:Sd}{R:List zv}{j m k:Nat}{w':World}{ch:List PanicEntry}{s':D.T}{kd n:Int}(h1:Z8 X.W k=some (kd,n))(h2:D.Dp s kd n (.panicked ch) s')(h3:D.ok j s')(h4:zG w0 w' b sp L X (D.A s'++R)):Xk w0 b sp L D s X R j m k (.panicked ch) w':=.inr ⟨ch,s',kd,n,rfl,h1,h2,h3,h4⟩
theorem JW {w0 w:World}{b sp:Nat}{L:Sl}{X:Sd}{R:List zv}{D:UU sp}{s:D.T}{j B:Nat}(h:zG w0 w b sp L X (D.A s++R))(hok:D.ok (j+1) s)(wf:yF B X)(hB:B≤80000){m:Nat}(hm:m<X.ms.length)(hP:(X.m m).P ≠ -1)(hG:(X.m m).G ≠ -1)(hen:X.W.en=0){k:Nat}(hk:(X.m m).G=(k:Int)) :
  Calls Tryz.prog 74 #[.pointer (some ⟨b,0,none⟩),.int .i64 (m:Int)] w (Xk w0 b sp L D s X R j m k):=by
 obtain⟨i,hPi,hi,hby⟩:=wf.at hm hP;obtain⟨pb,off,p,g,hpa,hld⟩:=h.pa hi;obtain⟨mb,off2,hma⟩:=h.ma hm;obtain⟨C13,xS⟩:=h.xS;have ZP:=h.ZP;obtain⟨⟨z0,z1,z2⟩,f0,f1,f2⟩:=h.xQ hm hma;rw[hma] at xS;rw[hPi] at z0;rw[hk] at z1;have hnp:=wf.np;have hnm:=wf.nm;have hmL:=wf.mL m;have hmX:(m:Int)<(X.ms.length:Int):=by omega
 have hm0:(0:Int)≤(m:Int):=by omega
 have hiX:(i:Int)<(X.ps.length:Int):=by omega
 have hi0:(0:Int)≤(i:Int):=by omega
 have hLp:=hmL.2.2 hG;obtain⟨k',hk',hks,hkl⟩:=wf.lets hm hG;have hkk:k'=k:=by omega
 subst hkk;have hlets:X.W.lets (k':Int):=⟨hen,by omega,by omega,by simpa using hks⟩
 have HEX:=Qq (fun(wx:World) (hx:zG w0 wx b sp L X (D.A s++R))=>Oc hx hok wf.wf hB k')
 have HEX2:=Qq (fun(wx:World) (q:Nat) (hx:zG w0 wx b sp L X (D.A s++(ze q [.bool false,.slice none 0 0]::R)))=>Oc hx hok wf.wf hB k')
 have HRL:Hid (∀(v:Int),(zR X.W (k':Int) v).2.2.length≤100):=Qq (fun v=>by
  have hr:=(Sh wf.wf hB hlets v).1
  have hw:=(wf.wf.exec hB (k':Int) v).1
  exact Nat.le_trans (ZY _ _ hr.nd (fun x hx=>by
   obtain⟨q,e,-,-,hs⟩:=hr.st x hx;refine⟨by omega,?_⟩
   rcases Nat.lt_or_ge q (zR X.W (k':Int) v).1.gs.length with h1|h1
   ·omega
   ·rw[Ww (by omega)] at hs;exact absurd hs (by decide))) hw.g1.2)
 have HLEN:Hid (∀(v:Int) (l:List Int),l.length≤(zR X.W (k':Int) v).2.2.length→(yn { X with W:=(zR X.W (k':Int) v).1 } i l).gl.length≤1000):=Qq (fun v l hl=>by
  have hr:=(Sh wf.wf hB hlets v).1
  have hw:=(wf.wf.exec hB (k':Int) v).1
  have hb:(zR X.W (k':Int) v).2.2.length≤100:=Nat.le_trans (ZY _ _ hr.nd (fun x hx=>by
   obtain⟨q,e,-,-,hs⟩:=hr.st x hx;refine⟨by omega,?_⟩
   rcases Nat.lt_or_ge q (zR X.W (k':Int) v).1.gs.length with h1|h1
   ·omega
   ·rw[Ww (by omega)] at hs;exact absurd hs (by decide))) hw.g1.2
  have hp:=(WD l { X with W:=(zR X.W (k':Int) v).1 } i hi).2.length_eq
  have h2:({ X with W:=(zR X.W (k':Int) v).1 }:Sd).all.length≤100:=wf.bound
  have h3:(yn { X with W:=(zR X.W (k':Int) v).1 } i l).gl.length≤(yn { X with W:=(zR X.W (k':Int) v).1 } i l).all.length:=by
   unfold Sd.all;rw[List.length_append];omega
  rw[List.length_append] at hp;omega)
 have HQ:Hid (∀(v:Int) (l:List Int),Qs { X with W:=(zR X.W (k':Int) v).1 } (yn { X with W:=(zR X.W (k':Int) v).1 } i l)):=Qq (fun v l=>(WD l { X with W:=(zR X.W (k':Int) v).1 } i hi).1)
 have HMOD:Hid (∀v,runM X m v=if(zR X.W (k':Int) v).2.1=true∧0<(X.m m).L-1 then((yn { X with W:=(zR X.W (k':Int) v).1 } i (zR X.W (k':Int) v).2.2).zP m { (yn { X with W:=(zR X.W (k':Int) v).1 } i (zR X.W (k':Int) v).2.2).m m with L:=(X.m m).L-1 },(zR X.W (k':Int) v).2.2)
   else({ (yn { X with W:=(zR X.W (k':Int) v).1 } i (zR X.W (k':Int) v).2.2).zP m { (yn { X with W:=(zR X.W (k':Int) v).1 } i (zR X.W (k':Int) v).2.2).m m with G:=-1,L:=(X.m m).L-1 } with gl:=if((yn { X with W:=(zR X.W (k':Int) v).1 } i (zR X.W (k':Int) v).2.2).W.g k').st=1 then(yn { X with W:=(zR X.W (k':Int) v).1 } i (zR X.W (k':Int) v).2.2).gl++[(k':Int)] else(yn { X with W:=(zR X.W (k':Int) v).1 } i (zR X.W (k':Int) v).2.2).gl },(zR X.W (k':Int) v).2.2)):=Qq (fun v=>by
  unfold runM;simp only
  have hi2:(X.m m).P.toNat=i:=by rw[hPi,Int.toNat_natCast]
  rw[hi2];simp only[hk,Int.toNat_natCast])
 have HST:Hid (∀v,k'<(zR X.W (k':Int) v).1.gs.length):=Qq (fun v=>by
  have:=(wf.wf.exec hB (k':Int) v).2.gl;omega)
 have H:=Qq h;have HMM:=Qq hm;have HMA:=Qq hma;have HPA:=Qq hpa;have HLD:=Qq hld;have HI:=Qq hi;obtain⟨LL,hLL⟩:∃LL,LL=(X.m m).L:=⟨_,rfl⟩
 have HGI:=Qq hk;have HPI:=Qq hPi;rw[←hLL] at z2 HMOD hLp;have hL2:LL≤1024:=by rw[hLL];exact hmL.2.1
 have HLL:=Qq hLL;clear h hok wf hm hP hG hen hPi hi hby hpa hld hma hnp hnm hmL hk hk' hks hkl hlets hLL;go_enter Tryz.func74,Tryz.ntmps74
 go_upto_region 2 with fail
 have hmf:∀(fn:Fn) (first cap:Array Value) (w:World),(Instr.makeFunc fn first cap).run Tryz.prog w=.ok (.func fn first cap) w:=fun _ _ _ _=>rfl
 have HSB:Hid (∀wx Y Z,zG w0 wx b sp L Y Z→Y.ms=X.ms→wx.cell? ⟨b,11,none⟩=some (.pointer (some ⟨sp,0,none⟩))∧wx.cell? ⟨mb,off2+m*3+1,none⟩=some (.int .i64 (k':Int))):=Qq (fun wx Y Z hx e=>by
  have e1:Y.m m=X.m m:=by unfold Sd.m;rw[e]
  have h2:=(hx.xQ (i:=m) (by rw[e];exact HMM.out) HMA.out).1.2.1
  rw[e1,HGI.out] at h2;exact⟨hx.ZP,h2⟩)
 clear ZP z0 z1 z2 f0 f1 f2;refine xY (fun wx=>wx.cell? ⟨b,11,none⟩=some (.pointer (some ⟨sp,0,none⟩))∧wx.cell? ⟨mb,off2+m*3+1,none⟩=some (.int .i64 (k':Int))) 15 (Array.replicate 15 false) (by kernel_rfl) (by kernel_rfl) ?_
 have h1:=H.out.step (zg w)
 generalize w.drew=w1 at *;refine zm 0 12 _ (Qj 15 4095) 3 (by kernel_rfl) Xn (HSB.out _ _ _ h1 rfl) (by kernel_rfl) ?_
 simp only[QX,QV,QJ];(repeat((first|refine Qx (h:=?_)|refine Qv (h:=?_));simp only[Act.put,QW,QY,QZ]));refine zb ?_;refine yz 12 13 _ (Qj 15 8191) (Qj 15 12287) 2 (by kernel_rfl) (fun K hK=>?_) (fun K hK=>?_)
 ·skip
  have HKK:=Qq hK;clear hK;simp only[QQ,QJ];refine zc (by rfl) ?_;go_simp;refine(HEX.out _ h1).mono ?_
  intro r w2 hp;rcases hp with⟨v,s',ra,rc,hfit,hok',rfl,h2⟩|⟨ch,s',kd,n,rfl,hak,hdp,hok',h2⟩
  ·skip
   have HFIT:=Qq (And.intro hfit hok')
   have HLEN2:=Qq (HLEN.out v)
   have HQ2:=Qq (HQ.out v)
   have HMOD2:=Qq (HMOD.out v)
   have HST2:=Qq (HST.out v)
   have hrl:=HRL.out v;clear hfit hok' HLEN HQ HMOD HST HEX HEX2 HRL;generalize zR X.W (k':Int) v=E at *
   obtain⟨W1,kp,rd⟩:=E;simp only at h2 HLEN2 HQ2 HMOD2 HST2 hrl ⊢
   obtain⟨X1,hX1⟩:∃X1:Sd,X1={ X with W:=W1 }:=⟨_,rfl⟩
   rw[←hX1] at h2 HLEN2 HQ2 HMOD2;have HX1:Hid (X1.ms=X.ms∧X1.ps=X.ps∧X1.W=W1):=Qq (by rw[hX1];exact⟨rfl,rfl,rfl⟩)
   clear hX1;obtain⟨N,hN⟩:∃N,N=rd.length:=⟨_,rfl⟩
   rw[←hN] at h2 hrl ⊢;have HN:=Qq hN;clear hN;have e1:=HSB.out _ _ _ h2 HX1.out.1;refine HKK.out _ _ (e1) ?_
   clear HKK K;have h3:=h2.box [.bool false,.slice none 0 0] 210
   have e2:=HSB.out _ _ _ h3 HX1.out.1;refine zh 13 _ (Qj 15 16383) 1 (by kernel_rfl) (fun K hK=>?_)
   have HKK:=Qq hK;clear hK;simp only[QQ,QJ];refine zc (by rfl) ?_;go_simp;refine HKK.out _ _ (e2) ?_
   clear HKK K;generalize w2.alloc (.cells #[.bool false,.slice none 0 0] 210)=w3 at *
   generalize w2.heap.size=qb at *;obtain⟨x0,y0⟩:=h3.zi 0 _ rfl;obtain⟨x1,y1⟩:=h3.zi 1 _ rfl;have h4:=(h3.zJ 0 (.bool kp)).zJ 1 (.slice ra N rc)
   have e3:=HSB.out _ _ _ h4 HX1.out.1;refine zh 14 _ (Qj 15 32767) 0 (by kernel_rfl) (fun K hK=>?_)
   have HKK:=Qq hK;clear hK;simp only[QQ,QJ];refine zc (by rfl) ?_;go_simp;refine HKK.out _ _ (e3) ?_
   clear HKK K;refine wpAnyH_done (by kernel_rfl) (?_) _
   have HS:=Qq h4;clear h2 h3 h4 e1 e2 x0 y0 x1 y1 H;generalize (w3.setCell ⟨qb,0,none⟩ (.bool kp)).setCell ⟨qb,1,none⟩ (.slice ra N rc)=w4 at *
   obtain⟨ZP,z1⟩:=e3;have c1:=(HS.out.zi 1 _ rfl).1
   clear ZP z1;go_wp2_with fail;go_loopw [31] (fun iv wr=>∃i2:Nat,i2≤N∧iv=.int .i64 i2∧Hid (zG w0 wr b sp L (yn X1 i (rd.take i2)) (ze qb [.bool kp,.slice ra N rc]::zd 1 ra rc N (zt rd)::(D.A s'++R)))) (fun iv _=>N-(intOf iv).toNat)
   case atStart=>exact⟨0,by omega,rfl,HS⟩
   case round =>
    obtain⟨i2,hi2,rfl,hr⟩:=hrel;clear HS c1;have q:=HQ2.out (rd.take i2)
    have hms:(yn X1 i (rd.take i2)).ms=X.ms:=q.ms.trans HX1.out.1
    have hps:(yn X1 i (rd.take i2)).ps.length=X.ps.length:=by rw[q.len,HX1.out.2.1]
    have hmm:(yn X1 i (rd.take i2)).m m=X.m m:=by unfold Sd.m;rw[hms]
    have hmY:m<(yn X1 i (rd.take i2)).ms.length:=by rw[hms];exact HMM.out
    have hiY:i<(yn X1 i (rd.take i2)).ps.length:=by rw[hps];exact HI.out
    by_cases hlt:i2<N
    ·have hlt2:(i2:Int)<(N:Int):=by omega
     have hi20:(0:Int)≤(i2:Int):=by omega
     have hil:i2<rd.length:=by rw[←HN.out];exact hlt
     have hrow:=hr.out.row;obtain⟨rb,roff,rfl,hc⟩:=hrow.cells i2 (.int .i64 rd[i2]) (by rw[xK,List.getElem?_eq_getElem hil];rfl)
     have z0:=(hr.out.xQ hmY HMA.out).1.1
     rw[hmm,HPI.out] at z0;obtain⟨C12,Zw⟩:=hr.out.Zw;rw[HPA.out,hps] at Zw;have x0:=(hr.out.proc hiY HPA.out HLD.out).1.1
     have hgl:=HLEN2.out (rd.take i2) (by rw[List.length_take];omega)
     have htk:rd.take (i2+1)=rd.take i2++[rd[i2]]:=List.take_succ_eq_append_getElem hil
     have HRD:=Qq (fun(wx:World) (hx:zG w0 wx b sp L (yn X1 i (rd.take i2)) (ze qb [.bool kp,.slice (some ⟨rb,roff,none⟩) N rc]::zd 1 (some ⟨rb,roff,none⟩) rc N (zt rd)::(D.A s'++R)))=>(RR hx hiY HLD.out (by omega) rd[i2]).mono (R':=fun r w'=>(∃y,r=.returned (.int .i64 y))∧zG w0 w' b sp L (yn X1 i (rd.take (i2+1))) (ze qb [.bool kp,.slice (some ⟨rb,roff,none⟩) N rc]::zd 1 (some ⟨rb,roff,none⟩) rc N (zt rd)::(D.A s'++R))) (fun r w' hh=>⟨⟨_,hh.1⟩,by rw[htk,Xl];exact hh.2⟩))
     generalize rd[i2]=gv at *
     clear q hms hps hmm hmY hiY hil hrow hgl htk;go_upto_region 6 with fail
     refine zk (fun wx=>∃nq,wx=World.drewN (wr) nq) 15 1 (Array.replicate 16 false) (Qj 16 32767) (by kernel_rfl) (by kernel_rfl) ?_
     refine zf 0 15 _ (Qj 16 32767) 0 (by kernel_rfl) za (zE wr) (by kernel_rfl) ?_
     simp only[QX,QV,QJ];(repeat((first|refine Qx (h:=?_)|refine Qw (h:=?_));simp only[Act.put,QW,QY,QZ]));refine zb ?_;refine zo ?_;refine zS 15 (by kernel_rfl) ?_
     simp only[QQ,QJ];go_wp2_with fail;refine(HRD.out _ (hr.out.step (zx wr _))).mono ?_
     rintro r w5 ⟨⟨y,rfl⟩,h5⟩;have H5:=Qq h5;clear h5 HRD hr z0 Zw x0 hc;go_wp2_with fail;refine NoPanic.normal ?_
     go_wp2;exact⟨⟨i2+1,by omega,by go_num,H5⟩,by simp[intOf];omega⟩
    ·obtain rfl:i2=N:=by omega
     have etk:rd.take i2=rd:=by rw[HN.out,List.take_length]
     rw[etk] at hr q hms hps hmm hmY hiY;obtain⟨Y,hY⟩:∃Y,Y=yn X1 i rd:=⟨_,rfl⟩
     have HMOD3:=HMOD2;have hylen:=HLEN2.out rd (by omega)
     rw[←hY] at hr q hms hps hmm hmY hiY HMOD3 hylen;have hYW:Y.W=W1:=q.W.trans HX1.out.2.2
     obtain⟨⟨-,z1,z2⟩,-,f1,f2⟩:=hr.out.xQ hmY HMA.out;rw[hmm,HGI.out] at z1;rw[hmm,←HLL.out] at z2;have hwr:IntKind.i64.wrap (LL-1)=LL-1:=by rw[IntKind.wrap_i64];omega
     have h6:=hr.out.setL hmY HMA.out (LL-1)
     have hm6:m<(Y.zP m { Y.m m with L:=LL-1 }).ms.length:=by simpa [Sd.zP] using hmY
     obtain⟨⟨-,y1,y2⟩,-,g1,-⟩:=h6.xQ hm6 HMA.out;rw[xk hmY,if_pos rfl] at y1 y2;simp only at y1 y2
     rw[hmm,HGI.out] at y1;obtain⟨b0,-⟩:=h6.zi 0 _ rfl;obtain⟨b1,-⟩:=h6.zi 1 _ rfl;have H6:=Qq h6;have HY:Hid (Y.ms=X.ms∧Y.m m=X.m m∧m<Y.ms.length∧m<(Y.zP m { Y.m m with L:=LL-1 }).ms.length∧Y.W=W1∧Y.gl.length≤1000):=Qq ⟨hms,hmm,hmY,hm6,hYW,hylen⟩
     clear q hms hps hmm hmY hiY hY hYW h6 hm6 HMOD2 HQ2 HLEN2 hylen etk hr HX1 z1 f1;go_upto_region 9 with fail
     generalize wr.setCell ⟨mb,off2+m*3+2,none⟩ (.int .i64 (LL-1))=w6 at *
     clear z2 f2;have HPO:Hid (∀wx Z,zG w0 wx b sp L Z (zd 1 ra rc i2 (zt rd)::(D.A s'++R))→runM X m v=(Z,rd)→Xk w0 b sp L D s X R j m k' (.returned (.slice ra i2 rc)) wx):=Qq (fun wx Z hz e=>.inl ⟨v,s',ra,rc,HFIT.out.1,HFIT.out.2,by rw[e,HN.out],by rw[e];rw[HN.out] at hz;exact hz⟩)
     by_cases hkeep:kp=true∧0<LL-1
     ·obtain⟨hk1,hk2⟩:=hkeep
      subst hk1;have hres:=HMOD3.out;rw[if_pos ⟨rfl,hk2⟩] at hres
      have HRES:Hid (∀rr,rr=Ending.returned (.slice ra i2 rc)→Xk w0 b sp L D s X R j m k' rr w6):=Qq (fun rr e=>by rw[e];exact HPO.out _ _ H6.out.less hres)
      clear hres HPO HMOD3 H6;have hk3:LL-1>0:=hk2
      go_wp2;go_ret;exact HRES.out _ rfl
     ·have hres:=HMOD3.out
      rw[if_neg hkeep] at hres;have HRES:=Qq hres;clear hres HMOD3;obtain⟨e1,e2,e3,e4,e5,e6⟩:=HY.out;have hst:xm W1 (k':Int)=(W1.g k').st:=by
       unfold xm;rw[if_pos ⟨by omega,by have:=HST2.out;omega⟩,Int.toNat_natCast]
      have HSTA:=Qq (fun(wx:World) (hx:zG w0 wx b sp L (Y.zP m { Y.m m with L:=LL-1 }) (ze qb [.bool kp,.slice ra i2 rc]::zd 1 ra rc i2 (zt rd)::(D.A s'++R)))=>(by
       have:=UW hx (k':Int)
       rw[show(Y.zP m { Y.m m with L:=LL-1 }).W=W1 from e5,hst] at this
       exact this:Calls Tryz.prog 35 #[.pointer (some ⟨b,0,none⟩),.int .i64 (k':Int)] wx fun r w'=>r=.returned (.int .i64 (W1.g k').st)∧w'=wx))
      rw[e5] at HRES;generalize (W1.g k').st=sv at *
      have hcond:(kp=true∧LL-1>0)=False:=by simpa using hkeep
      clear e1 e2 e3 e4 e5 e6 hst;have HB0:=Qq b0;have HB1:=Qq b1;have hk0:kp=false∨(kp=true∧¬LL-1>0):=by
       cases kp with
       | false=>exact .inl rfl
       | true=>exact .inr ⟨rfl,fun hc=>hkeep ⟨rfl,hc⟩⟩
      clear hkeep hcond;rcases hk0 with rfl|⟨rfl,hk0⟩
      ·skip
       go_upto_region 11 with fail
       refine zk (fun wx=>∃nq,wx=World.drewN (w6) nq) 7 2 (Array.replicate 9 false) (Qj 9 127) (by kernel_rfl) (by kernel_rfl) ?_
       refine zf 0 7 _ (Qj 9 127) 0 (by kernel_rfl) za (zE w6) (by kernel_rfl) ?_
       simp only[QX,QV,QJ];(repeat((first|refine Qx (h:=?_)|refine Qw (h:=?_));simp only[Act.put,QW,QY,QZ]));refine zb ?_;refine zo ?_;refine zS 7 (by kernel_rfl) ?_
       simp only[QQ,QJ];go_wp2_with fail;refine(HSTA.out _ (H6.out.step (zx w6 _))).mono ?_
       rintro r w7 ⟨rfl,rfl⟩;by_cases hsv:sv=1
       ·have hsv2:(sv==1)=true:=by simpa using hsv
        rw[if_pos hsv] at HRES;have h7:=H6.out.step (zx w6 1)
        have y7:=zq y1 (zx w6 1)
        have HY1:Hid (∀wx Z,zG w0 wx b sp L (Y.zP m { Y.m m with L:=LL-1 }) Z→wx.cell? ⟨mb,off2+m*3+1,none⟩=some (.int .i64 (k':Int))):=Qq (fun wx Z hz=>by
         have h2:=(hz.xQ HY.out.2.2.2.1 HMA.out).1.2.1
         rw[xk HY.out.2.2.1,if_pos rfl] at h2;simp only at h2
         rw[HY.out.2.1,HGI.out] at h2;exact h2)
        have H7:=Qq h7;clear hsv h7 HSTA H6 y1 y2 b0 b1 HB0 HB1 g1;go_wp2_with fail;refine NoPanic.normal ?_
        go_upto_region 12 with fail
        have h7:=H7.out;generalize w6.drewN 1=w7 at *;have h8:=h7.step (zg w7)
        refine zk (fun wx=>wx.cell? ⟨mb,off2+m*3+1,none⟩=some (.int .i64 (k':Int))) 9 0 (Array.replicate 9 false) (Qj 9 511) (by kernel_rfl) (by kernel_rfl) ?_
        refine zf 0 7 _ (Qj 9 127) 2 (by kernel_rfl) za (HY1.out _ _ h8) (by kernel_rfl) ?_
        simp only[QX,QV,QJ];(repeat((first|refine Qx (h:=?_)|refine Qv (h:=?_));simp only[Act.put,QW,QY,QZ]));refine zb ?_;have h9:=h8.box [.int .i64 (k':Int)] 3
        refine zA 7 _ (Qj 9 255) 1 (by kernel_rfl) (fun K hK=>?_)
        have HKK:=Qq hK;clear hK;simp only[QQ,QJ];refine zc (by rfl) ?_;go_simp;refine HKK.out _ _ (HY1.out _ _ h9) ?_
        clear HKK K;refine zA 8 _ (Qj 9 511) 0 (by kernel_rfl) (fun K hK=>?_)
        have HKK:=Qq hK;clear hK;simp only[QQ,QJ];refine zc (by rfl) ?_;go_simp;refine(XB h9 (some ⟨w7.drew.heap.size,0,none⟩) 1 1 [(k':Int)] rfl (zN.one w7.drew (k':Int) 3 rfl).ints (by have:=HY.out.2.2.2.2.2;show Y.gl.length+1≤_;omega)).mono ?_
        rintro r w10 ⟨rfl,h10⟩;have e10:w10.cell? ⟨mb,off2+m*3+1,none⟩=some (.int .i64 (k':Int)):=by
         have h2:w10.cell? ⟨mb,off2+m*3+1,none⟩=some (.int .i64 ((Y.zP m { Y.m m with L:=LL-1 }).m m).G):=(h10.xQ (i:=m) HY.out.2.2.2.1 HMA.out).1.2.1
         rw[xk HY.out.2.2.1,if_pos rfl] at h2;simp only at h2
         rw[HY.out.2.1,HGI.out] at h2;exact h2
        refine HKK.out _ _ (e10) ?_
        clear HKK K;refine zo ?_;refine zD (by kernel_rfl) (NoPanic.normal ?_)
        have h11:=h10.ye (i:=m) HY.out.2.2.2.1 HMA.out (-1)
        obtain⟨⟨-,d1,-⟩,-,k1,-⟩:=h10.xQ (i:=m) HY.out.2.2.2.1 HMA.out
        have e8:=(h11.less.zi 1 _ rfl).1
        have HF:Hid (∀rr,rr=Ending.returned (.slice ra i2 rc)→Xk w0 b sp L D s X R j m k' rr (w10.setCell ⟨mb,off2+m*3+1,none⟩ (.int .i64 (-1)))):=Qq (fun rr e=>by
         rw[e];refine HPO.out _ _ h11.less.less ?_
         rw[HRES.out];congr 1
         show _=({ (Y.zP m { Y.m m with L:=LL-1 }).zP m { (Y.zP m { Y.m m with L:=LL-1 }).m m with G:=-1 } with gl:=Y.gl++[(k':Int)] }:Sd)
         rw[xL,xk HY.out.2.2.1,if_pos rfl])
        clear h7 h8 h9 h10 h11 y7 HRES HPO e10 H7 HY1;go_upto_region 14 with fail
        clear d1 k1;generalize w10.setCell ⟨mb,off2+m*3+1,none⟩ (.int .i64 (-1))=w11 at *
        go_wp2;go_ret;exact HF.out _ rfl
       ·have hsv2:(sv==1)=false:=by simpa using hsv
        rw[if_neg hsv] at HRES;have h8:=(H6.out.step (zx w6 1)).ye HY.out.2.2.2.1 HMA.out (-1)
        obtain⟨⟨-,d1,-⟩,-,k1,-⟩:=(H6.out.step (zx w6 1)).xQ HY.out.2.2.2.1 HMA.out
        have e8:=(h8.zi 1 _ rfl).1
        have HF:Hid (∀rr,rr=Ending.returned (.slice ra i2 rc)→Xk w0 b sp L D s X R j m k' rr ((w6.drewN 1).setCell ⟨mb,off2+m*3+1,none⟩ (.int .i64 (-1)))):=Qq (fun rr e=>by
         rw[e];refine HPO.out _ _ h8.less ?_
         rw[HRES.out];congr 1
         rw[xL,xk HY.out.2.2.1,if_pos rfl];rfl)
        clear hsv h8 HSTA H6 y1 y2 b0 b1 HB0 HB1 g1 HRES HPO;go_wp2_with fail;refine NoPanic.normal ?_
        go_upto_region 14 with fail
        clear d1 k1;generalize (w6.drewN 1).setCell ⟨mb,off2+m*3+1,none⟩ (.int .i64 (-1))=w9 at *
        go_wp2;go_ret;exact HF.out _ rfl
      ·skip
       go_upto_region 11 with fail
       refine zk (fun wx=>∃nq,wx=World.drewN (w6) nq) 7 2 (Array.replicate 9 false) (Qj 9 127) (by kernel_rfl) (by kernel_rfl) ?_
       refine zf 0 7 _ (Qj 9 127) 0 (by kernel_rfl) za (zE w6) (by kernel_rfl) ?_
       simp only[QX,QV,QJ];(repeat((first|refine Qx (h:=?_)|refine Qw (h:=?_));simp only[Act.put,QW,QY,QZ]));refine zb ?_;refine zo ?_;refine zS 7 (by kernel_rfl) ?_
       simp only[QQ,QJ];go_wp2_with fail;refine(HSTA.out _ (H6.out.step (zx w6 _))).mono ?_
       rintro r w7 ⟨rfl,rfl⟩;by_cases hsv:sv=1
       ·have hsv2:(sv==1)=true:=by simpa using hsv
        rw[if_pos hsv] at HRES;have h7:=H6.out.step (zx w6 1)
        have y7:=zq y1 (zx w6 1)
        have HY1:Hid (∀wx Z,zG w0 wx b sp L (Y.zP m { Y.m m with L:=LL-1 }) Z→wx.cell? ⟨mb,off2+m*3+1,none⟩=some (.int .i64 (k':Int))):=Qq (fun wx Z hz=>by
         have h2:=(hz.xQ HY.out.2.2.2.1 HMA.out).1.2.1
         rw[xk HY.out.2.2.1,if_pos rfl] at h2;simp only at h2
         rw[HY.out.2.1,HGI.out] at h2;exact h2)
        have H7:=Qq h7;clear hsv h7 HSTA H6 y1 y2 b0 b1 HB0 HB1 g1;go_wp2_with fail;refine NoPanic.normal ?_
        go_upto_region 12 with fail
        have h7:=H7.out;generalize w6.drewN 1=w7 at *;have h8:=h7.step (zg w7)
        refine zk (fun wx=>wx.cell? ⟨mb,off2+m*3+1,none⟩=some (.int .i64 (k':Int))) 9 0 (Array.replicate 9 false) (Qj 9 511) (by kernel_rfl) (by kernel_rfl) ?_
        refine zf 0 7 _ (Qj 9 127) 2 (by kernel_rfl) za (HY1.out _ _ h8) (by kernel_rfl) ?_
        simp only[QX,QV,QJ];(repeat((first|refine Qx (h:=?_)|refine Qv (h:=?_));simp only[Act.put,QW,QY,QZ]));refine zb ?_;have h9:=h8.box [.int .i64 (k':Int)] 3
        refine zA 7 _ (Qj 9 255) 1 (by kernel_rfl) (fun K hK=>?_)
        have HKK:=Qq hK;clear hK;simp only[QQ,QJ];refine zc (by rfl) ?_;go_simp;refine HKK.out _ _ (HY1.out _ _ h9) ?_
        clear HKK K;refine zA 8 _ (Qj 9 511) 0 (by kernel_rfl) (fun K hK=>?_)
        have HKK:=Qq hK;clear hK;simp only[QQ,QJ];refine zc (by rfl) ?_;go_simp;refine(XB h9 (some ⟨w7.drew.heap.size,0,none⟩) 1 1 [(k':Int)] rfl (zN.one w7.drew (k':Int) 3 rfl).ints (by have:=HY.out.2.2.2.2.2;show Y.gl.length+1≤_;omega)).mono ?_
        rintro r w10 ⟨rfl,h10⟩;have e10:w10.cell? ⟨mb,off2+m*3+1,none⟩=some (.int .i64 (k':Int)):=by
         have h2:w10.cell? ⟨mb,off2+m*3+1,none⟩=some (.int .i64 ((Y.zP m { Y.m m with L:=LL-1 }).m m).G):=(h10.xQ (i:=m) HY.out.2.2.2.1 HMA.out).1.2.1
         rw[xk HY.out.2.2.1,if_pos rfl] at h2;simp only at h2
         rw[HY.out.2.1,HGI.out] at h2;exact h2
        refine HKK.out _ _ (e10) ?_
        clear HKK K;refine zo ?_;refine zD (by kernel_rfl) (NoPanic.normal ?_)
        have h11:=h10.ye (i:=m) HY.out.2.2.2.1 HMA.out (-1)
        obtain⟨⟨-,d1,-⟩,-,k1,-⟩:=h10.xQ (i:=m) HY.out.2.2.2.1 HMA.out
        have e8:=(h11.less.zi 1 _ rfl).1
        have HF:Hid (∀rr,rr=Ending.returned (.slice ra i2 rc)→Xk w0 b sp L D s X R j m k' rr (w10.setCell ⟨mb,off2+m*3+1,none⟩ (.int .i64 (-1)))):=Qq (fun rr e=>by
         rw[e];refine HPO.out _ _ h11.less.less ?_
         rw[HRES.out];congr 1
         show _=({ (Y.zP m { Y.m m with L:=LL-1 }).zP m { (Y.zP m { Y.m m with L:=LL-1 }).m m with G:=-1 } with gl:=Y.gl++[(k':Int)] }:Sd)
         rw[xL,xk HY.out.2.2.1,if_pos rfl])
        clear h7 h8 h9 h10 h11 y7 HRES HPO e10 H7 HY1;go_upto_region 14 with fail
        clear d1 k1;generalize w10.setCell ⟨mb,off2+m*3+1,none⟩ (.int .i64 (-1))=w11 at *
        go_wp2;go_ret;exact HF.out _ rfl
       ·have hsv2:(sv==1)=false:=by simpa using hsv
        rw[if_neg hsv] at HRES;have h8:=(H6.out.step (zx w6 1)).ye HY.out.2.2.2.1 HMA.out (-1)
        obtain⟨⟨-,d1,-⟩,-,k1,-⟩:=(H6.out.step (zx w6 1)).xQ HY.out.2.2.2.1 HMA.out
        have e8:=(h8.zi 1 _ rfl).1
        have HF:Hid (∀rr,rr=Ending.returned (.slice ra i2 rc)→Xk w0 b sp L D s X R j m k' rr ((w6.drewN 1).setCell ⟨mb,off2+m*3+1,none⟩ (.int .i64 (-1)))):=Qq (fun rr e=>by
         rw[e];refine HPO.out _ _ h8.less ?_
         rw[HRES.out];congr 1
         rw[xL,xk HY.out.2.2.1,if_pos rfl];rfl)
        clear hsv h8 HSTA H6 y1 y2 b0 b1 HB0 HB1 g1 HRES HPO;go_wp2_with fail;refine NoPanic.normal ?_
        go_upto_region 14 with fail
        clear d1 k1;generalize (w6.drewN 1).setCell ⟨mb,off2+m*3+1,none⟩ (.int .i64 (-1))=w9 at *
        go_wp2;go_ret;exact HF.out _ rfl
  ·exact⟨rfl,Xk.KV hak hdp hok' h2⟩
 ·skip
  have h2:=h1.box [.bool false,.slice none 0 0] 210
  have e2:=HSB.out _ _ _ h2 rfl;have HKK:=Qq hK;clear hK;simp only[QQ,QJ];refine zc (by rfl) ?_;go_simp;refine HKK.out _ _ (e2) ?_
  clear HKK K;generalize w1.alloc (.cells #[.bool false,.slice none 0 0] 210)=w2 at *
  generalize w1.heap.size=qb at *;refine zh 12 _ (Qj 15 16383) 1 (by kernel_rfl) (fun K hK=>?_)
  have HKK:=Qq hK;clear hK;simp only[QQ,QJ];refine zc (by rfl) ?_;go_simp;refine(HEX2.out _ qb (h2.perm List.perm_middle.symm)).mono ?_
  intro r w3 hp;rcases hp with⟨v,s',ra,rc,hfit,hok',rfl,h3⟩|⟨ch,s',kd,n,rfl,hak,hdp,hok',h3⟩
  ·skip
   have HFIT:=Qq (And.intro hfit hok')
   have HLEN2:=Qq (HLEN.out v)
   have HQ2:=Qq (HQ.out v)
   have HMOD2:=Qq (HMOD.out v)
   have HST2:=Qq (HST.out v)
   have hrl:=HRL.out v;clear hfit hok' HLEN HQ HMOD HST HEX HEX2 HRL;generalize zR X.W (k':Int) v=E at *
   obtain⟨W1,kp,rd⟩:=E;simp only at h3 HLEN2 HQ2 HMOD2 HST2 hrl ⊢
   obtain⟨X1,hX1⟩:∃X1:Sd,X1={ X with W:=W1 }:=⟨_,rfl⟩
   rw[←hX1] at h3 HLEN2 HQ2 HMOD2;have HX1:Hid (X1.ms=X.ms∧X1.ps=X.ps∧X1.W=W1):=Qq (by rw[hX1];exact⟨rfl,rfl,rfl⟩)
   clear hX1;obtain⟨N,hN⟩:∃N,N=rd.length:=⟨_,rfl⟩
   rw[←hN] at h3 hrl ⊢;have HN:=Qq hN;clear hN;have h3:zG w0 w3 b sp L X1 (ze qb [.bool false,.slice none 0 0]::zd 1 ra rc N (zt rd)::(D.A s'++R)):=h3.perm ((List.Perm.cons _ List.perm_middle).trans (List.Perm.swap _ _ _))
   have e3:=HSB.out _ _ _ h3 HX1.out.1;refine HKK.out _ _ (e3) ?_
   clear HKK K;obtain⟨x0,y0⟩:=h3.zi 0 _ rfl;obtain⟨x1,y1⟩:=h3.zi 1 _ rfl;have h4:=(h3.zJ 0 (.bool kp)).zJ 1 (.slice ra N rc)
   have e3:=HSB.out _ _ _ h4 HX1.out.1;refine zh 14 _ (Qj 15 32767) 0 (by kernel_rfl) (fun K hK=>?_)
   have HKK:=Qq hK;clear hK;simp only[QQ,QJ];refine zc (by rfl) ?_;go_simp;refine HKK.out _ _ (e3) ?_
   clear HKK K;refine wpAnyH_done (by kernel_rfl) (?_) _
   have HS:=Qq h4;clear h2 h3 h4 e2 x0 y0 x1 y1 H;generalize (w3.setCell ⟨qb,0,none⟩ (.bool kp)).setCell ⟨qb,1,none⟩ (.slice ra N rc)=w4 at *
   obtain⟨ZP,z1⟩:=e3;have c1:=(HS.out.zi 1 _ rfl).1
   clear ZP z1;go_wp2_with fail;go_loopw [31] (fun iv wr=>∃i2:Nat,i2≤N∧iv=.int .i64 i2∧Hid (zG w0 wr b sp L (yn X1 i (rd.take i2)) (ze qb [.bool kp,.slice ra N rc]::zd 1 ra rc N (zt rd)::(D.A s'++R)))) (fun iv _=>N-(intOf iv).toNat)
   case atStart=>exact⟨0,by omega,rfl,HS⟩
   case round =>
    obtain⟨i2,hi2,rfl,hr⟩:=hrel;clear HS c1;have q:=HQ2.out (rd.take i2)
    have hms:(yn X1 i (rd.take i2)).ms=X.ms:=q.ms.trans HX1.out.1
    have hps:(yn X1 i (rd.take i2)).ps.length=X.ps.length:=by rw[q.len,HX1.out.2.1]
    have hmm:(yn X1 i (rd.take i2)).m m=X.m m:=by unfold Sd.m;rw[hms]
    have hmY:m<(yn X1 i (rd.take i2)).ms.length:=by rw[hms];exact HMM.out
    have hiY:i<(yn X1 i (rd.take i2)).ps.length:=by rw[hps];exact HI.out
    by_cases hlt:i2<N
    ·have hlt2:(i2:Int)<(N:Int):=by omega
     have hi20:(0:Int)≤(i2:Int):=by omega
     have hil:i2<rd.length:=by rw[←HN.out];exact hlt
     have hrow:=hr.out.row;obtain⟨rb,roff,rfl,hc⟩:=hrow.cells i2 (.int .i64 rd[i2]) (by rw[xK,List.getElem?_eq_getElem hil];rfl)
     have z0:=(hr.out.xQ hmY HMA.out).1.1
     rw[hmm,HPI.out] at z0;obtain⟨C12,Zw⟩:=hr.out.Zw;rw[HPA.out,hps] at Zw;have x0:=(hr.out.proc hiY HPA.out HLD.out).1.1
     have hgl:=HLEN2.out (rd.take i2) (by rw[List.length_take];omega)
     have htk:rd.take (i2+1)=rd.take i2++[rd[i2]]:=List.take_succ_eq_append_getElem hil
     have HRD:=Qq (fun(wx:World) (hx:zG w0 wx b sp L (yn X1 i (rd.take i2)) (ze qb [.bool kp,.slice (some ⟨rb,roff,none⟩) N rc]::zd 1 (some ⟨rb,roff,none⟩) rc N (zt rd)::(D.A s'++R)))=>(RR hx hiY HLD.out (by omega) rd[i2]).mono (R':=fun r w'=>(∃y,r=.returned (.int .i64 y))∧zG w0 w' b sp L (yn X1 i (rd.take (i2+1))) (ze qb [.bool kp,.slice (some ⟨rb,roff,none⟩) N rc]::zd 1 (some ⟨rb,roff,none⟩) rc N (zt rd)::(D.A s'++R))) (fun r w' hh=>⟨⟨_,hh.1⟩,by rw[htk,Xl];exact hh.2⟩))
     generalize rd[i2]=gv at *
     clear q hms hps hmm hmY hiY hil hrow hgl htk;go_upto_region 6 with fail
     refine zk (fun wx=>∃nq,wx=World.drewN (wr) nq) 15 1 (Array.replicate 16 false) (Qj 16 32767) (by kernel_rfl) (by kernel_rfl) ?_
     refine zf 0 15 _ (Qj 16 32767) 0 (by kernel_rfl) za (zE wr) (by kernel_rfl) ?_
     simp only[QX,QV,QJ];(repeat((first|refine Qx (h:=?_)|refine Qw (h:=?_));simp only[Act.put,QW,QY,QZ]));refine zb ?_;refine zo ?_;refine zS 15 (by kernel_rfl) ?_
     simp only[QQ,QJ];go_wp2_with fail;refine(HRD.out _ (hr.out.step (zx wr _))).mono ?_
     rintro r w5 ⟨⟨y,rfl⟩,h5⟩;have H5:=Qq h5;clear h5 HRD hr z0 Zw x0 hc;go_wp2_with fail;refine NoPanic.normal ?_
     go_wp2;exact⟨⟨i2+1,by omega,by go_num,H5⟩,by simp[intOf];omega⟩
    ·obtain rfl:i2=N:=by omega
     have etk:rd.take i2=rd:=by rw[HN.out,List.take_length]
     rw[etk] at hr q hms hps hmm hmY hiY;obtain⟨Y,hY⟩:∃Y,Y=yn X1 i rd:=⟨_,rfl⟩
     have HMOD3:=HMOD2;have hylen:=HLEN2.out rd (by omega)
     rw[←hY] at hr q hms hps hmm hmY hiY HMOD3 hylen;have hYW:Y.W=W1:=q.W.trans HX1.out.2.2
     obtain⟨⟨-,z1,z2⟩,-,f1,f2⟩:=hr.out.xQ hmY HMA.out;rw[hmm,HGI.out] at z1;rw[hmm,←HLL.out] at z2;have hwr:IntKind.i64.wrap (LL-1)=LL-1:=by rw[IntKind.wrap_i64];omega
     have h6:=hr.out.setL hmY HMA.out (LL-1)
     have hm6:m<(Y.zP m { Y.m m with L:=LL-1 }).ms.length:=by simpa [Sd.zP] using hmY
     obtain⟨⟨-,y1,y2⟩,-,g1,-⟩:=h6.xQ hm6 HMA.out;rw[xk hmY,if_pos rfl] at y1 y2;simp only at y1 y2
     rw[hmm,HGI.out] at y1;obtain⟨b0,-⟩:=h6.zi 0 _ rfl;obtain⟨b1,-⟩:=h6.zi 1 _ rfl;have H6:=Qq h6;have HY:Hid (Y.ms=X.ms∧Y.m m=X.m m∧m<Y.ms.length∧m<(Y.zP m { Y.m m with L:=LL-1 }).ms.length∧Y.W=W1∧Y.gl.length≤1000):=Qq ⟨hms,hmm,hmY,hm6,hYW,hylen⟩
     clear q hms hps hmm hmY hiY hY hYW h6 hm6 HMOD2 HQ2 HLEN2 hylen etk hr HX1 z1 f1;go_upto_region 9 with fail
     generalize wr.setCell ⟨mb,off2+m*3+2,none⟩ (.int .i64 (LL-1))=w6 at *
     clear z2 f2;have HPO:Hid (∀wx Z,zG w0 wx b sp L Z (zd 1 ra rc i2 (zt rd)::(D.A s'++R))→runM X m v=(Z,rd)→Xk w0 b sp L D s X R j m k' (.returned (.slice ra i2 rc)) wx):=Qq (fun wx Z hz e=>.inl ⟨v,s',ra,rc,HFIT.out.1,HFIT.out.2,by rw[e,HN.out],by rw[e];rw[HN.out] at hz;exact hz⟩)
     by_cases hkeep:kp=true∧0<LL-1
     ·obtain⟨hk1,hk2⟩:=hkeep
      subst hk1;have hres:=HMOD3.out;rw[if_pos ⟨rfl,hk2⟩] at hres
      have HRES:Hid (∀rr,rr=Ending.returned (.slice ra i2 rc)→Xk w0 b sp L D s X R j m k' rr w6):=Qq (fun rr e=>by rw[e];exact HPO.out _ _ H6.out.less hres)
      clear hres HPO HMOD3 H6;have hk3:LL-1>0:=hk2
      go_wp2;go_ret;exact HRES.out _ rfl
     ·have hres:=HMOD3.out
      rw[if_neg hkeep] at hres;have HRES:=Qq hres;clear hres HMOD3;obtain⟨e1,e2,e3,e4,e5,e6⟩:=HY.out;have hst:xm W1 (k':Int)=(W1.g k').st:=by
       unfold xm;rw[if_pos ⟨by omega,by have:=HST2.out;omega⟩,Int.toNat_natCast]
      have HSTA:=Qq (fun(wx:World) (hx:zG w0 wx b sp L (Y.zP m { Y.m m with L:=LL-1 }) (ze qb [.bool kp,.slice ra i2 rc]::zd 1 ra rc i2 (zt rd)::(D.A s'++R)))=>(by
       have:=UW hx (k':Int)
       rw[show(Y.zP m { Y.m m with L:=LL-1 }).W=W1 from e5,hst] at this
       exact this:Calls Tryz.prog 35 #[.pointer (some ⟨b,0,none⟩),.int .i64 (k':Int)] wx fun r w'=>r=.returned (.int .i64 (W1.g k').st)∧w'=wx))
      rw[e5] at HRES;generalize (W1.g k').st=sv at *
      have hcond:(kp=true∧LL-1>0)=False:=by simpa using hkeep
      clear e1 e2 e3 e4 e5 e6 hst;have HB0:=Qq b0;have HB1:=Qq b1;have hk0:kp=false∨(kp=true∧¬LL-1>0):=by
       cases kp with
       | false=>exact .inl rfl
       | true=>exact .inr ⟨rfl,fun hc=>hkeep ⟨rfl,hc⟩⟩
      clear hkeep hcond;rcases hk0 with rfl|⟨rfl,hk0⟩
      ·skip
       go_upto_region 11 with fail
       refine zk (fun wx=>∃nq,wx=World.drewN (w6) nq) 7 2 (Array.replicate 9 false) (Qj 9 127) (by kernel_rfl) (by kernel_rfl) ?_
       refine zf 0 7 _ (Qj 9 127) 0 (by kernel_rfl) za (zE w6) (by kernel_rfl) ?_
       simp only[QX,QV,QJ];(repeat((first|refine Qx (h:=?_)|refine Qw (h:=?_));simp only[Act.put,QW,QY,QZ]));refine zb ?_;refine zo ?_;refine zS 7 (by kernel_rfl) ?_
       simp only[QQ,QJ];go_wp2_with fail;refine(HSTA.out _ (H6.out.step (zx w6 _))).mono ?_
       rintro r w7 ⟨rfl,rfl⟩;by_cases hsv:sv=1
       ·have hsv2:(sv==1)=true:=by simpa using hsv
        rw[if_pos hsv] at HRES;have h7:=H6.out.step (zx w6 1)
        have y7:=zq y1 (zx w6 1)
        have HY1:Hid (∀wx Z,zG w0 wx b sp L (Y.zP m { Y.m m with L:=LL-1 }) Z→wx.cell? ⟨mb,off2+m*3+1,none⟩=some (.int .i64 (k':Int))):=Qq (fun wx Z hz=>by
         have h2:=(hz.xQ HY.out.2.2.2.1 HMA.out).1.2.1
         rw[xk HY.out.2.2.1,if_pos rfl] at h2;simp only at h2
         rw[HY.out.2.1,HGI.out] at h2;exact h2)
        have H7:=Qq h7;clear hsv h7 HSTA H6 y1 y2 b0 b1 HB0 HB1 g1;go_wp2_with fail;refine NoPanic.normal ?_
        go_upto_region 12 with fail
        have h7:=H7.out;generalize w6.drewN 1=w7 at *;have h8:=h7.step (zg w7)
        refine zk (fun wx=>wx.cell? ⟨mb,off2+m*3+1,none⟩=some (.int .i64 (k':Int))) 9 0 (Array.replicate 9 false) (Qj 9 511) (by kernel_rfl) (by kernel_rfl) ?_
        refine zf 0 7 _ (Qj 9 127) 2 (by kernel_rfl) za (HY1.out _ _ h8) (by kernel_rfl) ?_
        simp only[QX,QV,QJ];(repeat((first|refine Qx (h:=?_)|refine Qv (h:=?_));simp only[Act.put,QW,QY,QZ]));refine zb ?_;have h9:=h8.box [.int .i64 (k':Int)] 3
        refine zA 7 _ (Qj 9 255) 1 (by kernel_rfl) (fun K hK=>?_)
        have HKK:=Qq hK;clear hK;simp only[QQ,QJ];refine zc (by rfl) ?_;go_simp;refine HKK.out _ _ (HY1.out _ _ h9) ?_
        clear HKK K;refine zA 8 _ (Qj 9 511) 0 (by kernel_rfl) (fun K hK=>?_)
        have HKK:=Qq hK;clear hK;simp only[QQ,QJ];refine zc (by rfl) ?_;go_simp;refine(XB h9 (some ⟨w7.drew.heap.size,0,none⟩) 1 1 [(k':Int)] rfl (zN.one w7.drew (k':Int) 3 rfl).ints (by have:=HY.out.2.2.2.2.2;show Y.gl.length+1≤_;omega)).mono ?_
        rintro r w10 ⟨rfl,h10⟩;have e10:w10.cell? ⟨mb,off2+m*3+1,none⟩=some (.int .i64 (k':Int)):=by
         have h2:w10.cell? ⟨mb,off2+m*3+1,none⟩=some (.int .i64 ((Y.zP m { Y.m m with L:=LL-1 }).m m).G):=(h10.xQ (i:=m) HY.out.2.2.2.1 HMA.out).1.2.1
         rw[xk HY.out.2.2.1,if_pos rfl] at h2;simp only at h2
         rw[HY.out.2.1,HGI.out] at h2;exact h2
        refine HKK.out _ _ (e10) ?_
        clear HKK K;refine zo ?_;refine zD (by kernel_rfl) (NoPanic.normal ?_)
        have h11:=h10.ye (i:=m) HY.out.2.2.2.1 HMA.out (-1)
        obtain⟨⟨-,d1,-⟩,-,k1,-⟩:=h10.xQ (i:=m) HY.out.2.2.2.1 HMA.out
        have e8:=(h11.less.zi 1 _ rfl).1
        have HF:Hid (∀rr,rr=Ending.returned (.slice ra i2 rc)→Xk w0 b sp L D s X R j m k' rr (w10.setCell ⟨mb,off2+m*3+1,none⟩ (.int .i64 (-1)))):=Qq (fun rr e=>by
         rw[e];refine HPO.out _ _ h11.less.less ?_
         rw[HRES.out];congr 1
         show _=({ (Y.zP m { Y.m m with L:=LL-1 }).zP m { (Y.zP m { Y.m m with L:=LL-1 }).m m with G:=-1 } with gl:=Y.gl++[(k':Int)] }:Sd)
         rw[xL,xk HY.out.2.2.1,if_pos rfl])
        clear h7 h8 h9 h10 h11 y7 HRES HPO e10 H7 HY1;go_upto_region 14 with fail
        clear d1 k1;generalize w10.setCell ⟨mb,off2+m*3+1,none⟩ (.int .i64 (-1))=w11 at *
        go_wp2;go_ret;exact HF.out _ rfl
       ·have hsv2:(sv==1)=false:=by simpa using hsv
        rw[if_neg hsv] at HRES;have h8:=(H6.out.step (zx w6 1)).ye HY.out.2.2.2.1 HMA.out (-1)
        obtain⟨⟨-,d1,-⟩,-,k1,-⟩:=(H6.out.step (zx w6 1)).xQ HY.out.2.2.2.1 HMA.out
        have e8:=(h8.zi 1 _ rfl).1
        have HF:Hid (∀rr,rr=Ending.returned (.slice ra i2 rc)→Xk w0 b sp L D s X R j m k' rr ((w6.drewN 1).setCell ⟨mb,off2+m*3+1,none⟩ (.int .i64 (-1)))):=Qq (fun rr e=>by
         rw[e];refine HPO.out _ _ h8.less ?_
         rw[HRES.out];congr 1
         rw[xL,xk HY.out.2.2.1,if_pos rfl];rfl)
        clear hsv h8 HSTA H6 y1 y2 b0 b1 HB0 HB1 g1 HRES HPO;go_wp2_with fail;refine NoPanic.normal ?_
        go_upto_region 14 with fail
        clear d1 k1;generalize (w6.drewN 1).setCell ⟨mb,off2+m*3+1,none⟩ (.int .i64 (-1))=w9 at *
        go_wp2;go_ret;exact HF.out _ rfl
      ·skip
       go_upto_region 11 with fail
       refine zk (fun wx=>∃nq,wx=World.drewN (w6) nq) 7 2 (Array.replicate 9 false) (Qj 9 127) (by kernel_rfl) (by kernel_rfl) ?_
       refine zf 0 7 _ (Qj 9 127) 0 (by kernel_rfl) za (zE w6) (by kernel_rfl) ?_
       simp only[QX,QV,QJ];(repeat((first|refine Qx (h:=?_)|refine Qw (h:=?_));simp only[Act.put,QW,QY,QZ]));refine zb ?_;refine zo ?_;refine zS 7 (by kernel_rfl) ?_
       simp only[QQ,QJ];go_wp2_with fail;refine(HSTA.out _ (H6.out.step (zx w6 _))).mono ?_
       rintro r w7 ⟨rfl,rfl⟩;by_cases hsv:sv=1
       ·have hsv2:(sv==1)=true:=by simpa using hsv
        rw[if_pos hsv] at HRES;have h7:=H6.out.step (zx w6 1)
        have y7:=zq y1 (zx w6 1)
        have HY1:Hid (∀wx Z,zG w0 wx b sp L (Y.zP m { Y.m m with L:=LL-1 }) Z→wx.cell? ⟨mb,off2+m*3+1,none⟩=some (.int .i64 (k':Int))):=Qq (fun wx Z hz=>by
         have h2:=(hz.xQ HY.out.2.2.2.1 HMA.out).1.2.1
         rw[xk HY.out.2.2.1,if_pos rfl] at h2;simp only at h2
         rw[HY.out.2.1,HGI.out] at h2;exact h2)
        have H7:=Qq h7;clear hsv h7 HSTA H6 y1 y2 b0 b1 HB0 HB1 g1;go_wp2_with fail;refine NoPanic.normal ?_
        go_upto_region 12 with fail
        have h7:=H7.out;generalize w6.drewN 1=w7 at *;have h8:=h7.step (zg w7)
        refine zk (fun wx=>wx.cell? ⟨mb,off2+m*3+1,none⟩=some (.int .i64 (k':Int))) 9 0 (Array.replicate 9 false) (Qj 9 511) (by kernel_rfl) (by kernel_rfl) ?_
        refine zf 0 7 _ (Qj 9 127) 2 (by kernel_rfl) za (HY1.out _ _ h8) (by kernel_rfl) ?_
        simp only[QX,QV,QJ];(repeat((first|refine Qx (h:=?_)|refine Qv (h:=?_));simp only[Act.put,QW,QY,QZ]));refine zb ?_;have h9:=h8.box [.int .i64 (k':Int)] 3
        refine zA 7 _ (Qj 9 255) 1 (by kernel_rfl) (fun K hK=>?_)
        have HKK:=Qq hK;clear hK;simp only[QQ,QJ];refine zc (by rfl) ?_;go_simp;refine HKK.out _ _ (HY1.out _ _ h9) ?_
        clear HKK K;refine zA 8 _ (Qj 9 511) 0 (by kernel_rfl) (fun K hK=>?_)
        have HKK:=Qq hK;clear hK;simp only[QQ,QJ];refine zc (by rfl) ?_;go_simp;refine(XB h9 (some ⟨w7.drew.heap.size,0,none⟩) 1 1 [(k':Int)] rfl (zN.one w7.drew (k':Int) 3 rfl).ints (by have:=HY.out.2.2.2.2.2;show Y.gl.length+1≤_;omega)).mono ?_
        rintro r w10 ⟨rfl,h10⟩;have e10:w10.cell? ⟨mb,off2+m*3+1,none⟩=some (.int .i64 (k':Int)):=by
         have h2:w10.cell? ⟨mb,off2+m*3+1,none⟩=some (.int .i64 ((Y.zP m { Y.m m with L:=LL-1 }).m m).G):=(h10.xQ (i:=m) HY.out.2.2.2.1 HMA.out).1.2.1
         rw[xk HY.out.2.2.1,if_pos rfl] at h2;simp only at h2
         rw[HY.out.2.1,HGI.out] at h2;exact h2
        refine HKK.out _ _ (e10) ?_
        clear HKK K;refine zo ?_;refine zD (by kernel_rfl) (NoPanic.normal ?_)
        have h11:=h10.ye (i:=m) HY.out.2.2.2.1 HMA.out (-1)
        obtain⟨⟨-,d1,-⟩,-,k1,-⟩:=h10.xQ (i:=m) HY.out.2.2.2.1 HMA.out
        have e8:=(h11.less.zi 1 _ rfl).1
        have HF:Hid (∀rr,rr=Ending.returned (.slice ra i2 rc)→Xk w0 b sp L D s X R j m k' rr (w10.setCell ⟨mb,off2+m*3+1,none⟩ (.int .i64 (-1)))):=Qq (fun rr e=>by
         rw[e];refine HPO.out _ _ h11.less.less ?_
         rw[HRES.out];congr 1
         show _=({ (Y.zP m { Y.m m with L:=LL-1 }).zP m { (Y.zP m { Y.m m with L:=LL-1 }).m m with G:=-1 } with gl:=Y.gl++[(k':Int)] }:Sd)
         rw[xL,xk HY.out.2.2.1,if_pos rfl])
        clear h7 h8 h9 h10 h11 y7 HRES HPO e10 H7 HY1;go_upto_region 14 with fail
        clear d1 k1;generalize w10.setCell ⟨mb,off2+m*3+1,none⟩ (.int .i64 (-1))=w11 at *
        go_wp2;go_ret;exact HF.out _ rfl
       ·have hsv2:(sv==1)=false:=by simpa using hsv
        rw[if_neg hsv] at HRES;have h8:=(H6.out.step (zx w6 1)).ye HY.out.2.2.2.1 HMA.out (-1)
        obtain⟨⟨-,d1,-⟩,-,k1,-⟩:=(H6.out.step (zx w6 1)).xQ HY.out.2.2.2.1 HMA.out
        have e8:=(h8.zi 1 _ rfl).1
        have HF:Hid (∀rr,rr=Ending.returned (.slice ra i2 rc)→Xk w0 b sp L D s X R j m k' rr ((w6.drewN 1).setCell ⟨mb,off2+m*3+1,none⟩ (.int .i64 (-1)))):=Qq (fun rr e=>by
         rw[e];refine HPO.out _ _ h8.less ?_
         rw[HRES.out];congr 1
         rw[xL,xk HY.out.2.2.1,if_pos rfl];rfl)
        clear hsv h8 HSTA H6 y1 y2 b0 b1 HB0 HB1 g1 HRES HPO;go_wp2_with fail;refine NoPanic.normal ?_
        go_upto_region 14 with fail
        clear d1 k1;generalize (w6.drewN 1).setCell ⟨mb,off2+m*3+1,none⟩ (.int .i64 (-1))=w9 at *
        go_wp2;go_ret;exact HF.out _ rfl
  ·exact⟨rfl,Xk.KV hak hdp hok' (zG.less (h3.perm List.perm_middle))⟩
end Go.Proofs.YtlkjheheofgdgaaGreat
open Go Go.RowKit
namespace Go.Proofs.YtlkjheheofgdgaaGreat
theorem L7 {w0 w:World}{b sp:Nat}{L:Sl}{X:Sd}{R:List zv}(h:zG w0 w b sp L X R){m:Nat}(hm:m<X.ms.length)(hn:X.ps.length≤1000)(hn2:X.ms.length≤1000) :
  Calls Tryz.prog 72 #[.pointer (some ⟨b,0,none⟩),.int .i64 (m:Int)] w fun r w'=>r=.returned (.int .i64 (holdM X m).2)∧zG w0 w' b sp L (holdM X m).1 R:=by
 obtain⟨C12,Zw⟩:=h.Zw;obtain⟨C13,xS⟩:=h.xS;have HP:=Qq (fun(i:Nat) (hi:i<X.ps.length)=>(by
  obtain⟨pb,off,p,g,k1,k2⟩:=h.pa hi;exact⟨pb,off,p,g,k1,k2,h.proc hi k1 k2⟩:∃pb off p g,L.pa=some ⟨pb,off,none⟩∧L.ld[i]?=some (p,g)∧(w.cell? ⟨pb,off+i*3,none⟩=some (.pointer (some ⟨p,0,none⟩))∧w.cell? ⟨pb,off+i*3+1,none⟩=some (.int .i64 ((X.p i).tu:Int))∧w.cell? ⟨pb,off+i*3+2,none⟩=some (.int .i64 (X.p i).by_)) ∧
  w.frozen? ⟨pb,off+i*3+1,none⟩=false∧w.frozen? ⟨pb,off+i*3+2,none⟩=false))
 obtain⟨mb,off2,hma⟩:=h.ma hm;rw[hma] at xS;have HMA:=Qq hma;have HE:=Qq (fun(i:Nat) (hi:i<X.ps.length) (hb:(X.p i).by_ = -1) (hall:∀j,j<i→(X.p j).by_ ≠ -1)=>(by
  unfold holdM;have e:X.ps.findIdx? (fun p=>p.by_ == -1)=some i:=by
   rw[List.findIdx?_eq_some_iff_getElem]
   have eg:∀j (hj:j<X.ps.length),X.ps[j]=X.p j:=fun j hj=>by
    have:=X.Zt hj;rw[List.getElem?_eq_getElem hj] at this;simpa using this
   exact⟨hi,by rw[eg i hi];simpa using hb,fun j hj=>by rw[eg j (by omega)];simpa using hall j hj⟩
  rw[e]:holdM X m=((X.zI i { X.p i with by_:=(m:Int) }).zP m { X.m m with P:=(i:Int) },2)))
 have HN:=Qq (fun(hall:∀j,j<X.ps.length→(X.p j).by_ ≠ -1)=>(by
  unfold holdM;have e:X.ps.findIdx? (fun p=>p.by_ == -1)=none:=by
   rw[List.findIdx?_eq_none_iff]
   intro P hP;obtain⟨j,hj,rfl⟩:=List.getElem_of_mem hP;have eg:=X.Zt hj;rw[List.getElem?_eq_getElem hj] at eg
   simp only[Option.some.injEq] at eg;rw[eg];simpa using hall j hj
  rw[e]:holdM X m=(X,3)))
 have H:=Qq h;generalize hrr:holdM X m=rr at *
 have HRR:=Qq hrr;have hmX:(m:Int)<(X.ms.length:Int):=by omega
 have hm0:(0:Int)≤(m:Int):=by omega
 have HMX:=Qq hm;obtain⟨N,hN⟩:∃N,N=X.ps.length:=⟨_,rfl⟩
 have HNN:=Qq hN;obtain⟨K,hK⟩:∃K,K=X.ms.length:=⟨_,rfl⟩
 rw[←hN] at HP HE HN Zw hn;rw[←hK] at xS hmX hn2;have HKK:=Qq hK;clear h hma hrr hN hK hm;go_enter Tryz.func72,Tryz.ntmps72
 go_wp2_with fail;go_loopw [12] (fun iv wr=>∃i:Nat,i≤N∧iv=.int .i64 i∧wr=w∧Hid (∀j,j<i→(X.p j).by_ ≠ -1)) (fun iv _=>N-(intOf iv).toNat)
 case atStart=>exact⟨0,by omega,rfl,rfl,Qq (fun j hj=>by omega)⟩
 case round =>
  obtain⟨i,hi,rfl,rfl,hall⟩:=hrel;by_cases hlt:i<N
  ·have hlt2:(i:Int)<(N:Int):=by omega
   have hi0:(0:Int)≤(i:Int):=by omega
   obtain⟨pb,off,p,g,hpa,-,⟨x0,x1,x2⟩,y1,y2⟩:=HP.out i hlt;rw[hpa] at Zw;have HPA:=Qq hpa;clear hpa x0 x1 y1;by_cases hby:(X.p i).by_ = -1
   ·have o1:=H.out.Lw (by rw[←HNN.out];exact hlt) HPA.out (m:Int)
    obtain⟨⟨z0,z1,z2⟩,f0,f1,f2⟩:=o1.xQ (i:=m) (by exact HMX.out) HMA.out
    have o2:=o1.zI (i:=m) (by exact HMX.out) HMA.out (i:Int)
    have hres:=HE.out i hlt hby hall.out;have HFIN:Hid (rr.2=2∧zG w0 ((wr.setCell ⟨pb,off+i*3+2,none⟩ (.int .i64 (m:Int))).setCell ⟨mb,off2+m*3,none⟩ (.int .i64 (i:Int))) b sp L rr.1 R):=Qq (by
     rw[hres];exact⟨rfl,o2⟩)
    rw[hby] at x2;clear o1 o2 hres z1 z2 f1 f2 hby;go_wp2;go_ret;exact⟨by rw[HFIN.out.1];rfl,HFIN.out.2⟩
   ·have hb2:((X.p i).by_ == -1)=false:=by simpa using hby
    have H2:Hid (∀j,j<i+1→(X.p j).by_ ≠ -1):=Qq (fun j hj=>by
     rcases Nat.lt_succ_iff_lt_or_eq.1 hj with h|h
     ·exact hall.out j h
     ·rw[h];exact hby)
    generalize (X.p i).by_=bv at *
    clear hby hall;go_wp2;exact⟨⟨i+1,by omega,by go_num,by trivial,H2⟩,by simp[intOf];omega⟩
  ·obtain rfl:i=N:=by omega
   have hres:=HN.out hall.out;have HFIN:Hid (rr.2=3∧zG w0 wr b sp L rr.1 R):=Qq (by rw[hres];exact⟨rfl,H.out⟩)
   clear hres;go_wp2;go_ret;exact⟨by rw[HFIN.out.1];rfl,HFIN.out.2⟩
end Go.Proofs.YtlkjheheofgdgaaGreat
