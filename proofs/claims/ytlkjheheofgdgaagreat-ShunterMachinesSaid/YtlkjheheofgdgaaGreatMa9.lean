/-
  Texts put together: TopRun2, CrcNums, Seg, WPut, WGet, WCrc1, WCrc2, WSeg1, WSeg2, WRec1, TopLive, MaM, MaN, MaP, SdGen, MaO, NumsIn, ActsIn, ActsK4, W10Pg, W10Mach.
-/
import Derived.Test.YtlkjheheofgdgaaGreatMa8
import Derived.Test.YtlkjheheofgdgaaGreatMa7
import Derived.WalkKit
import Derived.Test.YtlkjheheofgdgaaGreatMa6
import Derived.Test.YtlkjheheofgdgaaGreatRows
import Derived.Test.YtlkjheheofgdgaaGreatMa1
import Derived.ProofKit
import Derived.WalkSpells
import Derived.WalkLawsBesides
import Derived.IntWalk
import Derived.Lib.Hide
import Derived.LoopTactic
import Derived.Deep.RegionWith
import Derived.Lib.BitFns
import Derived.Deep.MidRow
import Derived.Deep.QuietTactic
import Derived.BigQuiet
import Derived.RegionTactic
import Derived.Deep.RegionHeld3
import Derived.Deep.SlicePairs
import Derived.WideKeyArr2
import Derived.Lib.SmallJoins
import Derived.Laws.BitsAllLaws
import Derived.OpenShut
import Derived.ChangeOld
import Derived.Below
set_option maxRecDepth 100000
set_option maxHeartbeats 16000000
set_option linter.unusedSimpArgs false
set_option linter.unusedVariables false
open Go Go.RowKit
namespace Go.Proofs.YtlkjheheofgdgaaGreat
theorem N7 {w0 w:World}{R:List zy}(h:Own w0 w R)(na:Option Addr)(nc most:Nat)(nums:List Nat)(fa:Option Addr)(fc:Nat)(fr:List (Option Addr×Nat))(fs:List (List zS))(ra:Option Addr)(rc:Nat)(rooms:List Int)(zN:Nat)(ca:Option Addr)(cc:Nat)(ks:List Zc)(hpn:∀(wx:World) (Q:List zy),Own w0 wx (Q++R)→YU wx fa fr fs ra rooms ca cc ks∧zt wx na (xZ nums))(hlk:zN≤1000)(np nm:Nat)(ring sl:Int)(hnp:np≤1000)(hnm:nm≤1000)
  (hn0:na=none→nums.length=0∧nc=0) (hnl:nums.length≤100000) (hn64:∀n∈nums,n<18446744073709551616) (hmo:most≤20000)
  (hR:∀k Y,OB (xX (xu fs ks rooms zN) np nm ring sl) k Y→k≤most→(∃B,B≤80000∧yM B Y)∧(Y.W.en=0∨Y.W.en=1∨Y.W.en=2)) :
  Calls Tryz.prog 23 #[.agg #[.slice fa fs.length fc,.slice ra rooms.length rc,.int .i64 (zN:Int),.slice ca ks.length cc],.agg #[.int .i64 (np:Int),.int .i64 (nm:Int),.int .i64 ring,.int .i64 sl],.slice na nums.length nc,.int .i64 (most:Int)] w
   fun r w'=>∃(bs sp k:Nat) (Y:Sd),r=.returned (.pointer (some ⟨bs,0,none⟩))∧OB (xX (xu fs ks rooms zN) np nm ring sl) k Y∧k≤most∧Own w0 w' (yx bs sp Y::R):=by
 have hmf:∀(fn:Fn) (first cap:Array Value) (w:World),(Instr.makeFunc fn first cap).run Tryz.prog w=.ok (.func fn first cap) w:=fun _ _ _ _=>rfl
 have en:∀(args:Array Value) (w:World),(callFunc 46 args).run Tryz.prog w=.ok (.enter 46 args) w:=fun _ _=>by kernel_rfl
 have h1:=h.alloc [.slice fa fs.length fc,.slice ra rooms.length rc,.int .i64 (zN:Int),.slice ca ks.length cc] 65 (b:=w.heap.size) rfl
 have h2:=h1.alloc [.int .i64 (np:Int),.int .i64 (nm:Int),.int .i64 ring,.int .i64 sl] 67 (b:=w.heap.size+1) (by simp)
 have h3:=h2.alloc [.int .i64 (most:Int)] 3 (b:=w.heap.size+1+1) (by simp)
 have HO:=Qq h3;have HPN:=Qq hpn;have HR:=Qq hR;have H64:=Qq hn64;have HB:=Qq h;clear h h1 h2 h3 hpn hR hn64;go_enter Tryz.func23,Tryz.ntmps23
 go_upto_region 1 with fail
 generalize ((w.alloc (.cells [.slice fa fs.length fc,.slice ra rooms.length rc,.int .i64 (zN:Int),.slice ca ks.length cc].toArray 65)).alloc (.cells [.int .i64 (np:Int),.int .i64 (nm:Int),.int .i64 ring,.int .i64 sl].toArray 67)).alloc (.cells [.int .i64 (most:Int)].toArray 3)=wa at *
 generalize w.heap.size+1+1=bm at *
 generalize w.heap.size+1=bc at *
 generalize w.heap.size=bp at *;have HSB:Hid (∀(wx:World) (As:List zy) (i j:Nat),Own w0 wx As→As[i]?=some (zf bp [.slice fa fs.length fc,.slice ra rooms.length rc,.int .i64 (zN:Int),.slice ca ks.length cc])→As[j]?=some (zf bc [.int .i64 (np:Int),.int .i64 (nm:Int),.int .i64 ring,.int .i64 sl])→wx.cell? ⟨bp,0,none⟩=some (.slice fa fs.length fc)∧wx.cell? ⟨bp,1,none⟩=some (.slice ra rooms.length rc)∧wx.cell? ⟨bp,2,none⟩=some (.int .i64 (zN:Int))∧wx.cell? ⟨bp,3,none⟩=some (.slice ca ks.length cc)∧wx.cell? ⟨bc,0,none⟩=some (.int .i64 (np:Int))∧wx.cell? ⟨bc,1,none⟩=some (.int .i64 (nm:Int))∧wx.cell? ⟨bc,2,none⟩=some (.int .i64 ring)∧wx.cell? ⟨bc,3,none⟩=some (.int .i64 sl)) :=
  Qq (fun wx As i j h hi hj=>⟨(h.zo i hi 0 _ rfl).1,(h.zo i hi 1 _ rfl).1,(h.zo i hi 2 _ rfl).1,(h.zo i hi 3 _ rfl).1,(h.zo j hj 0 _ rfl).1,(h.zo j hj 1 _ rfl).1,(h.zo j hj 2 _ rfl).1,(h.zo j hj 3 _ rfl).1⟩)
 go_cut [9] (fun sv wx=>∃bs sp bx,sv=.pointer (some ⟨bx,0,none⟩)∧Hid (Own w0 wx (yx bs sp (xX (xu fs ks rooms zN) np nm ring sl)::YH sp 0 ⟨[],nums,[]⟩ .nilFunc::zf bx [.pointer (some ⟨bs,0,none⟩)]::zf bm [.int .i64 (most:Int)]::R)))
 case first =>
  have o0:Own w0 wa.drew (zf bm [.int .i64 (most:Int)]::zf bc [.int .i64 (np:Int),.int .i64 (nm:Int),.int .i64 ring,.int .i64 sl]::zf bp [.slice fa fs.length fc,.slice ra rooms.length rc,.int .i64 (zN:Int),.slice ca ks.length cc]::R):=HO.out.step (zg wa)
  refine yd (fun wx=>wx.cell? ⟨bp,0,none⟩=some (.slice fa fs.length fc)∧wx.cell? ⟨bp,1,none⟩=some (.slice ra rooms.length rc)∧wx.cell? ⟨bp,2,none⟩=some (.int .i64 (zN:Int))∧wx.cell? ⟨bp,3,none⟩=some (.slice ca ks.length cc)∧wx.cell? ⟨bc,0,none⟩=some (.int .i64 (np:Int))∧wx.cell? ⟨bc,1,none⟩=some (.int .i64 (nm:Int))∧wx.cell? ⟨bc,2,none⟩=some (.int .i64 ring)∧wx.cell? ⟨bc,3,none⟩=some (.int .i64 sl)) 7 (Array.replicate 7 false) (by kernel_rfl) (by kernel_rfl) ?_
  generalize wa.drew=wd at *;clear HO;refine zq 0 3 _ (Qj 7 7) 4 (by kernel_rfl) za (HSB.out _ _ 2 1 o0 rfl rfl) (by kernel_rfl) ?_
  simp only[QX,QV,QJ];(repeat((first|refine Qx (h:=?_)|refine Qv (h:=?_));simp only[Act.put,QW,QY,QZ]));refine zb ?_;refine yJ 3 5 _ (Qj 7 15) (Qj 7 39) 3 (by kernel_rfl) (fun K hK=>?_) (fun K hK=>?_)
  ·skip
   have hon:=Rq o0 na nc nums (HPN.out _ [_,_,_] o0).2 hn0 (by omega)
   have HKK:=Qq hK;clear hK;simp only[QQ,QJ];refine zc (by rfl) ?_;go_simp;refine hon.mono ?_
   rintro r w1 ⟨sp,rfl,o1,hbo⟩;clear hon hbo;refine HKK.out _ _ (HSB.out _ _ 3 2 o1 rfl rfl) ?_
   clear HKK K;refine yJ 4 5 _ (Qj 7 31) (Qj 7 47) 2 (by kernel_rfl) (fun K hK=>?_) (fun K hK=>?_)
   ·skip
    have hsn:=Uh o1 fa fc fr fs ra rc rooms zN ca cc ks (HPN.out _ [_,_,_,_] o1).1 hlk np nm ring sl hnp hnm sp
    have HKK:=Qq hK;clear hK;simp only[QQ,QJ];refine zc (by rfl) ?_;go_simp;refine hsn.mono ?_
    rintro r w2 ⟨bs,rfl,o2⟩;clear hsn;refine HKK.out _ _ (HSB.out _ _ 4 3 o2 rfl rfl) ?_
    clear HKK K;have o3:=o2.alloc [.pointer none] 31 rfl
    refine zn 5 _ (Qj 7 63) 1 (by kernel_rfl) (fun K hK=>?_)
    have HKK:=Qq hK;clear hK;simp only[QQ,QJ];refine zc (by rfl) ?_;go_simp;refine HKK.out _ _ (HSB.out _ _ 5 4 o3 rfl rfl) ?_
    clear HKK K;generalize w2.alloc (.cells [.pointer none].toArray 31)=wb3 at *
    generalize w2.heap.size=bx at *;obtain⟨f0,g0⟩:=o3.zo 0 rfl 0 _ rfl;have oz:=o3.setAt 0 rfl 0 (.pointer (some ⟨bs,0,none⟩))
    refine zn 6 _ (Qj 7 127) 0 (by kernel_rfl) (fun K hK=>?_)
    have HKK:=Qq hK;clear hK;simp only[QQ,QJ];refine zc (by rfl) ?_;go_simp;refine HKK.out _ _ (HSB.out _ _ 5 4 oz rfl rfl) ?_
    clear HKK K;refine wpAnyH_done (by kernel_rfl) (NoPanic.normal ?_) _
    have HZ:Hid (Own w0 _ (yx bs sp (xX (xu fs ks rooms zN) np nm ring sl)::YH sp 0 ⟨[],nums,[]⟩ .nilFunc::zf bx [.pointer (some ⟨bs,0,none⟩)]::zf bm [.int .i64 (most:Int)]::R)):=Qq (((((((oz.pick 3 rfl).pick 1 rfl).pick 3 rfl).pick 3 rfl).pick 5 rfl).pick 5 rfl).drop.drop)
    clear oz f0 g0;go_wp2_with fail;go_meet;exact⟨bs,sp,bx,rfl,HZ⟩
   ·skip
    have o2:=o1.alloc [.pointer none] 31 rfl
    have HKK:=Qq hK;clear hK;simp only[QQ,QJ];refine zc (by rfl) ?_;go_simp;refine HKK.out _ _ (HSB.out _ _ 4 3 o2 rfl rfl) ?_
    clear HKK K;generalize w1.alloc (.cells [.pointer none].toArray 31)=wb2 at *
    generalize w1.heap.size=bx at *;have hsn:=Uh o2 fa fc fr fs ra rc rooms zN ca cc ks (HPN.out _ [_,_,_,_,_] o2).1 hlk np nm ring sl hnp hnm sp
    refine zn 4 _ (Qj 7 63) 1 (by kernel_rfl) (fun K hK=>?_)
    have HKK:=Qq hK;clear hK;simp only[QQ,QJ];refine zc (by rfl) ?_;go_simp;refine hsn.mono ?_
    rintro r w3 ⟨bs,rfl,o3⟩;clear hsn;refine HKK.out _ _ (HSB.out _ _ 5 4 o3 rfl rfl) ?_
    clear HKK K;obtain⟨f0,g0⟩:=o3.zo 1 rfl 0 _ rfl;have oz:=o3.setAt 1 rfl 0 (.pointer (some ⟨bs,0,none⟩))
    refine zn 6 _ (Qj 7 127) 0 (by kernel_rfl) (fun K hK=>?_)
    have HKK:=Qq hK;clear hK;simp only[QQ,QJ];refine zc (by rfl) ?_;go_simp;refine HKK.out _ _ (HSB.out _ _ 5 4 oz rfl rfl) ?_
    clear HKK K;refine wpAnyH_done (by kernel_rfl) (NoPanic.normal ?_) _
    have HZ:Hid (Own w0 _ (yx bs sp (xX (xu fs ks rooms zN) np nm ring sl)::YH sp 0 ⟨[],nums,[]⟩ .nilFunc::zf bx [.pointer (some ⟨bs,0,none⟩)]::zf bm [.int .i64 (most:Int)]::R)):=Qq (((((((oz.pick 3 rfl).pick 2 rfl).pick 3 rfl).pick 3 rfl).pick 5 rfl).pick 5 rfl).drop.drop)
    clear oz f0 g0;go_wp2_with fail;go_meet;exact⟨bs,sp,bx,rfl,HZ⟩
  ·skip
   have o1:=o0.alloc [.pointer none] 31 rfl
   have HKK:=Qq hK;clear hK;simp only[QQ,QJ];refine zc (by rfl) ?_;go_simp;refine HKK.out _ _ (HSB.out _ _ 3 2 o1 rfl rfl) ?_
   clear HKK K;generalize wd.alloc (.cells [.pointer none].toArray 31)=wb1 at *
   generalize wd.heap.size=bx at *;have hon:=Rq o1 na nc nums (HPN.out _ [_,_,_,_] o1).2 hn0 (by omega)
   refine zn 3 _ (Qj 7 47) 2 (by kernel_rfl) (fun K hK=>?_)
   have HKK:=Qq hK;clear hK;simp only[QQ,QJ];refine zc (by rfl) ?_;go_simp;refine hon.mono ?_
   rintro r w2 ⟨sp,rfl,o2,hbo⟩;clear hon hbo;refine HKK.out _ _ (HSB.out _ _ 4 3 o2 rfl rfl) ?_
   clear HKK K;have hsn:=Uh o2 fa fc fr fs ra rc rooms zN ca cc ks (HPN.out _ [_,_,_,_,_] o2).1 hlk np nm ring sl hnp hnm sp
   refine zn 4 _ (Qj 7 63) 1 (by kernel_rfl) (fun K hK=>?_)
   have HKK:=Qq hK;clear hK;simp only[QQ,QJ];refine zc (by rfl) ?_;go_simp;refine hsn.mono ?_
   rintro r w3 ⟨bs,rfl,o3⟩;clear hsn;refine HKK.out _ _ (HSB.out _ _ 5 4 o3 rfl rfl) ?_
   clear HKK K;obtain⟨f0,g0⟩:=o3.zo 2 rfl 0 _ rfl;have oz:=o3.setAt 2 rfl 0 (.pointer (some ⟨bs,0,none⟩))
   refine zn 6 _ (Qj 7 127) 0 (by kernel_rfl) (fun K hK=>?_)
   have HKK:=Qq hK;clear hK;simp only[QQ,QJ];refine zc (by rfl) ?_;go_simp;refine HKK.out _ _ (HSB.out _ _ 5 4 oz rfl rfl) ?_
   clear HKK K;refine wpAnyH_done (by kernel_rfl) (NoPanic.normal ?_) _
   have HZ:Hid (Own w0 _ (yx bs sp (xX (xu fs ks rooms zN) np nm ring sl)::YH sp 0 ⟨[],nums,[]⟩ .nilFunc::zf bx [.pointer (some ⟨bs,0,none⟩)]::zf bm [.int .i64 (most:Int)]::R)):=Qq (((((((oz.pick 3 rfl).pick 3 rfl).pick 3 rfl).pick 3 rfl).pick 5 rfl).pick 5 rfl).drop.drop)
   clear oz f0 g0;go_wp2_with fail;go_meet;exact⟨bs,sp,bx,rfl,HZ⟩
 case rest =>
  obtain⟨bs,sp,bx,rfl,HZ⟩:=hcut;clear HSB HO;have hok:(KR sp 0).ok (2*most) (⟨[],nums,[]⟩:Src):=⟨⟨fun r hr=>by simp at hr,H64.out⟩,(by first|exact⟨fun _=>rfl,(fun e=>by cases e),by omega⟩|exact⟨fun _=>rfl,fun e=>by cases e⟩),by simp[Src.many];omega,by simp,by simp;omega⟩
  have hg:=Mi HZ.out 46 #[.pointer (some ⟨bm,0,none⟩),.pointer (some ⟨bx,0,none⟩)] en
   (fun r R'=>∃(k:Nat) (Y:Sd) (s:Src),OB (xX (xu fs ks rooms zN) np nm ring sl) k Y∧k≤most∧R'=yx bs sp Y::YH sp 0 s .nilFunc::zf bx [.pointer (some ⟨bs,0,none⟩)]::zf bm [.int .i64 (most:Int)]::R)
   (fun w1 g ho=>by
    have h2:Own w0 w1 (yx bs sp (xX (xu fs ks rooms zN) np nm ring sl)::((KR sp 0).A ⟨[],nums,[]⟩++(zf bx [.pointer (some ⟨bs,0,none⟩)]::zf bm [.int .i64 (most:Int)]::(zf g [.int .i64 0]::zf (g+1) uz::R)))) :=
     ho.perm (List.perm_append_comm_assoc [zf g [.int .i64 0],zf (g+1) uz] [_,_,_,_] R)
    refine(NW h2 hok hmo HR.out (Kt sp)).mono (fun r w2 hh=>?_)
    obtain⟨k,Y,s,kk,u,h3,h4,h5,h6⟩:=hh;refine⟨_,kk,u,?_,⟨k,Y,s,h3,h4,rfl⟩,h5⟩
    exact h6.perm (List.perm_append_comm_assoc [_,_,_,_] [zf g [.int .i64 0],zf (g+1) uz] R))
  have HG:=Qq hg;clear hg hok HZ;go_wp2_with fail;refine HG.out.mono ?_
  rintro r w2 ⟨rr,R',kk,u,ho,⟨k,Y,s,hk1,hk2,rfl⟩,he,rfl⟩;obtain⟨u0,u1,u2,u3,u4,rfl⟩:=CJ he;obtain⟨x0,-⟩:=ho.zo 2 rfl 0 _ rfl;have HF:Hid (∃(bs' sp k:Nat) (Y:Sd),Ending.returned (.pointer (some ⟨bs,0,none⟩))=.returned (.pointer (some ⟨bs',0,none⟩))∧OB (xX (xu fs ks rooms zN) np nm ring sl) k Y∧k≤most∧Own w0 w2 (yx bs' sp Y::R)) :=
   Qq ⟨bs,sp,k,Y,rfl,hk1,hk2,((ho.pick 3 rfl).drop.pick 2 rfl).drop.pick 1 rfl |>.drop⟩
  clear ho hk1 hk2 he HG;go_wp2;go_ret;exact HF.out
def RD (x:Nat):Nat:=if x%2=1 then x / 2 ^^^ 3988292384 else x / 2
def Yu:Nat→Nat→Nat
 | 0,x=>x
 | k+1,x=>RD (Yu k x)
theorem Ro (x w:Nat):(x ^^^ 2*w)%2=1↔x%2=1:=by
 rw[Nat.xor_mod_two_eq_one];have:2*w%2=0:=by omega
 omega
theorem KB (x w:Nat):RD (x ^^^ 2*w)=RD x ^^^ w:=by
 unfold RD;have e:(x ^^^ 2*w) / 2=x / 2 ^^^ w:=by rw[Nat.xor_div_two,show 2*w / 2=w by omega]
 by_cases h:x%2=1
 ·rw[if_pos ((Ro x w).2 h),if_pos h,e,Nat.xor_assoc,Nat.xor_assoc,Nat.xor_comm w]
 ·rw[if_neg (fun k=>h ((Ro x w).1 k)),if_neg h,e]
theorem Ix (x:Nat)(h:x<4294967296):RD x<4294967296:=by
 unfold RD;split
 ·exact Nat.xor_lt_two_pow (n:=32) (by omega) (by omega)
 ·omega
theorem JY (k x:Nat)(h:x<4294967296):Yu k x<4294967296:=by
 induction k with
 | zero=>exact h
 | succ k ih=>exact Ix _ ih
theorem KJ (k x w:Nat):Yu k (x ^^^ 2 ^ k*w)=Yu k x ^^^ w:=by
 induction k generalizing w with
 | zero=>simp[Yu]
 | succ k ih=>rw[Yu,Yu,show 2 ^ (k+1)*w=2 ^ k*(2*w) by rw[Nat.pow_succ,Nat.mul_assoc],ih,KB]
theorem Qm (x:Nat):Yu 8 x=Yu 8 (x%256) ^^^ x / 256:=by
 have e:x=x%256 ^^^ 2 ^ 8*(x / 256):=by
  have hx:∀i,(x%256 ^^^ 2 ^ 8*(x / 256)).testBit i=x.testBit i:=fun i=>by
   rw[Nat.testBit_xor,show(256:Nat)=2 ^ 8 from rfl,Nat.testBit_mod_two_pow,Nat.mul_comm,Nat.testBit_mul_two_pow,Nat.testBit_div_two_pow]
   by_cases hi:i<8
   ·simp[hi,show ¬8≤i by omega]
   ·have:8≤i:=by omega
    simp[hi,this]
  exact(Nat.eq_of_testBit_eq hx).symm
 conv=>lhs;rw[e]
 exact KJ 8 _ _


def Lv (x b:Nat):Nat:=Yu 8 (x ^^^ b)
def UT (l:List UInt8)(x:Nat):Nat:=l.foldl (fun x b=>Lv x b.toNat) x
def Yd (l:List UInt8):Nat:=4294967295-UT l 4294967295
theorem RU (l m:List UInt8)(x:Nat):UT (l++m) x=UT m (UT l x):=by unfold UT;rw[List.foldl_append]
theorem MR (l:List UInt8)(k:Nat)(h:k<l.length)(x:Nat):UT (l.take (k+1)) x=Lv (UT (l.take k) x) l[k].toNat:=by
 rw[List.take_succ_eq_append_getElem h,RU];rfl
theorem Vr (x b:Nat)(hb:b<256):(x ^^^ b)%256=(x%256) ^^^ b∧(x ^^^ b) / 256=x / 256:=by
 refine⟨?_,?_⟩
 ·rw[show(256:Nat)=2 ^ 8 from rfl,Nat.xor_mod_two_pow,Nat.mod_eq_of_lt (a:=b) (by omega)]
 ·rw[show(256:Nat)=2 ^ 8 from rfl,Nat.xor_div_two_pow,Nat.div_eq_of_lt (a:=b) (by omega),Nat.xor_zero]
theorem R7 (x b:Nat)(hb:b<256):Lv x b=Yu 8 ((x%256) ^^^ b) ^^^ x / 256:=by
 unfold Lv;rw[Qm,(Vr x b hb).1,(Vr x b hb).2]

def WI (n:Nat):List UInt8:=[UInt8.ofNat n,UInt8.ofNat (n / 256),UInt8.ofNat (n / 65536),UInt8.ofNat (n / 16777216)]
theorem Y9 (n:Nat):(WI n).length=4:=rfl
theorem Ng (l:List UInt8):Yd l<4294967296:=by unfold Yd;omega
def Wf (q:Nat)(b:List UInt8):List UInt8:=83::103::(Y4 q++(Y4 b.length++b))
def X7 (q:Nat)(b:List UInt8):List UInt8:=Wf q b++WI (Yd (Wf q b))
theorem TC (q:Nat)(b:List UInt8):(Wf q b).length=2+(Y4 q).length+(Y4 b.length).length+b.length:=by
 unfold Wf;simp only[List.length_cons,List.length_append];omega
theorem Qg (q:Nat)(b:List UInt8):(X7 q b).length=6+(Y4 q).length+(Y4 b.length).length+b.length:=by
 unfold X7;rw[List.length_append,TC,Y9];omega
theorem NL {a b:ByteArray}(h:a.data.toList=b.data.toList):a=b:=by
 obtain⟨⟨x⟩⟩:=a;obtain⟨⟨y⟩⟩:=b;simp at h;rw[h]
theorem TY (n:Nat)(w:World)(h2:n<18446744073709551616) :
  Calls Tryz.prog 69 #[.int .u64 n] w fun e w'=>e=.returned (.string ⟨(Y4 n).toArray⟩)∧Below w.heap.size w w':=by
 have hl:=Qq (FQ n h2)
 go_enter Tryz.func69,Tryz.ntmps69
 go_wp2;go_loopw [0,4] (fun m i wr=>∃k:Nat,∃q:Nat,∃cs:List UInt8,k≤9∧m=.int .u64 q∧i=.int .i64 k∧q<18446744073709551616∧q<lim (10-k)∧cs.length=10∧cs.take k++Y4 q=Y4 n ∧
   Bytes wr w.heap.size cs∧Below w.heap.size w wr) (fun m i _=>(intOf m).toNat)
 case atStart =>
  exact⟨0,n,List.replicate 10 0,by omega,rfl,rfl,h2,hl.out,rfl,rfl,Bytes.fresh w 198 10,(Below.refl _ _).alloc (Nat.le_refl _) _⟩
 case round =>
  obtain⟨k,q,cs,hk,rfl,rfl,hq,hql,hcs,hput,hb,hbel⟩:=hrel;have Hput:=Qq hput;clear hput
  have Hcs:=Qq hcs;clear hcs
  have Hq:=Qq hq;clear hq
  have Hl:=Qq hql;clear hql
  have H2:=Qq h2;clear h2
  by_cases h:128≤q
  ·obtain⟨j,hj,hl2⟩:=Kb _ _ Hl.out h
   have Hj:=Qq hj;clear hj
   have hk8:k≤8:=by have:=Hj.out;omega
   have Hl2:=Qq hl2;clear hl2
   obtain⟨c,hck⟩:∃c:Int,wr.cell? ⟨w.heap.size,k,none⟩=some (.int .u8 c):=⟨_,hb.1 k (by have:=Hcs.out;omega)⟩
   have hfk:=hb.2 k (by have:=Hcs.out;omega)
   have Hb:=Qq hb;clear hb
   go_wp2;refine⟨⟨k+1,q / 128,cs.set k (UInt8.ofNat (q%128+128)),by omega,by go_num,by go_num,?_,?_,?_,?_,?_,?_⟩,?_⟩
   ·have:=Hq.out;omega
   ·rw[show 10-(k+1)=j+1 by have:=Hj.out;omega];exact Hl2.out
   ·simp[Hcs.out]
   ·rw[←Hput.out,Me q h (FQ _ Hq.out),xK _ _ _ (by have:=Hcs.out;omega)];simp
   ·exact Hb.out.set k (by have:=Hcs.out;omega) _ _ (Md q)
   ·exact hbel.setCell (by simp) _
   ·simp[intOf];omega
  ·obtain⟨c,hck⟩:∃c:Int,wr.cell? ⟨w.heap.size,k,none⟩=some (.int .u8 c):=⟨_,hb.1 k (by have:=Hcs.out;omega)⟩
   have hfk:=hb.2 k (by have:=Hcs.out;omega)
   have hsl:∀w',(Instr.sliceAt 198 (.pointer (some ⟨w.heap.size,0,none⟩)) none (some (.int .i64 ((k:Int)+1))) none).run Tryz.prog w'=.ok (.slice (some ⟨w.heap.size,0,none⟩) (k+1) 10) w':=fun w'=>by
    rw[run_sliceAt_array_h w' 198 ⟨w.heap.size,0,none⟩ Tryz.underlying198 .i64 ((k:Int)+1) (by omega) (by show(k:Int)+1≤10;omega)]
    rfl
   have hcv:(convert 200 9 (.slice (some ⟨w.heap.size,0,none⟩) (k+1) 10)).run Tryz.prog (wr.setCell ⟨w.heap.size,k,none⟩ (.int .u8 q))=.ok (.string ⟨(Y4 n).toArray⟩) (wr.setCell ⟨w.heap.size,k,none⟩ (.int .u8 q)):=by
    have hb':=hb.set k (by have:=Hcs.out;omega) (UInt8.ofNat q) q (by simp;omega)
    have hln:(List.take (k+1) (cs.set k (UInt8.ofNat q))).length=k+1:=by simp[Hcs.out];omega
    have:=run_convert_bytes_back (P:=Tryz.prog) (wr.setCell ⟨w.heap.size,k,none⟩ (.int .u8 q)) 200 9 5 ⟨w.heap.size,0,none⟩ 10 (List.take (k+1) (cs.set k (UInt8.ofNat q))) Tryz.underlying200 Tryz.underlying5 Tryz.underlying9 (fun j hj=>by
     have:=hb'.1 j (by simp[Hcs.out];omega)
     simp only[List.getElem_take];by_cases h0:j=0
     ·subst h0;exact this
     ·simp[Addr.add,h0] at this ⊢;exact this)
    rw[hln] at this;rw[this,←Hput.out,Nz q (by omega),xK _ _ _ (by have:=Hcs.out;omega)]
   have Hb:=Qq hb;clear hb
   go_wp2;go_ret;exact⟨rfl,hbel.setCell (by simp) _⟩

end Go.Proofs.YtlkjheheofgdgaaGreat

open Go Go.RowKit
namespace Go.Proofs.YtlkjheheofgdgaaGreat
theorem VI (a b:Nat)(ha:a<4294967296)(hb:b<4294967296):bits BinOp.xor IntKind.u32 (a:Int) (b:Int)=((a ^^^ b:Nat):Int):=by
 show IntKind.u32.wrap ((BitVec.ofInt 32 (a:Int) ^^^ BitVec.ofInt 32 (b:Int)).toNat:Int)=_
 have e:∀n:Nat,BitVec.ofInt 32 (n:Int)=BitVec.ofNat 32 n:=fun n=>by apply BitVec.eq_of_toNat_eq;rw[BitVec.toNat_ofInt,BitVec.toNat_ofNat];omega
 rw[e,e,BitVec.toNat_xor,BitVec.toNat_ofNat,BitVec.toNat_ofNat,Nat.mod_eq_of_lt (by omega),Nat.mod_eq_of_lt (by omega),IntKind.wrap_u32]
 have:=Nat.xor_lt_two_pow (n:=32) (by omega:a<_) (by omega:b<_)
 omega
def XG (k:Nat):List Value:=(List.range k).map fun i=>.int .u32 (Yu 8 i:Int)
def TV:List Value:=List.replicate 256 (.int .u32 0)
theorem Ui:TV.length=256:=by unfold TV;rw[List.length_replicate]
theorem Uj:(Tryz.prog.info? 236).map (·.size)=some (XG 256).length:=by kernel_rfl
theorem GG:(XG 256).toArray.all (·.oneCell')=true:=all_oneCell_toArray (fun v hv=>by unfold XG at hv;simp only[List.mem_map] at hv;obtain⟨i,_,rfl⟩:=hv;rfl)
theorem Vi (x:Nat)(h:x<4294967296):bits BinOp.and IntKind.u32 (x:Int) 1=((x%2:Nat):Int):=by
 show IntKind.u32.wrap ((BitVec.ofInt 32 (x:Int) &&& BitVec.ofInt 32 1).toNat:Int)=_
 have e:BitVec.ofInt 32 (x:Int)=BitVec.ofNat 32 x:=by apply BitVec.eq_of_toNat_eq;rw[BitVec.toNat_ofInt,BitVec.toNat_ofNat];omega
 have e1:BitVec.ofInt 32 1=BitVec.ofNat 32 1:=rfl
 rw[e,e1,BitVec.toNat_and,BitVec.toNat_ofNat,BitVec.toNat_ofNat,Nat.mod_eq_of_lt (by omega),show 1%2 ^ 32=1 from rfl,Nat.and_one_is_mod,IntKind.wrap_u32]
 omega
theorem R0 (w:World):Sem.run Tryz.prog (zeroValue 236) w=.ok (.agg TV.toArray) w:=by
 have h:(Tryz.prog.info? 236).map (·.zero)=some (some (.agg TV.toArray)):=by kernel_rfl
 cases hq:Tryz.prog.info? 236 with
 | none=>simp[hq] at h
 | some i=>simp[hq] at h;simp[zeroValue,typeInfo,hq,h,Sem.run_bind]
theorem MA (w:World) :
  Calls Tryz.prog 102 #[] w fun e w'=>e=.returned (.agg (XG 256).toArray)∧Below w.heap.size w w':=by
 have hz:=R0;go_enter Tryz.func102,Tryz.ntmps102
 go_wp2_with fail;go_loopw [2,3,4] (fun i x c wr=>∃k:Nat,k≤256∧c=.int .i64 k∧Hid (zF wr w.heap.size TV∧(∃cs,cs.length=256∧cs.take k=XG k∧zF wr (w.heap.size+1) cs)∧Below w.heap.size w wr)) (fun i x c _=>256-(intOf c).toNat)
 case atStart =>
  exact⟨0,by omega,rfl,⟨(zF.mk w TV _ _ rfl).alloc _,⟨TV,Ui,rfl,zF.mk _ TV _ _ (by simp)⟩,((Below.refl _ _).alloc (Nat.le_refl _) _).alloc (by simp) _⟩⟩
 case round =>
  obtain⟨k,hk,rfl,hr⟩:=hrel;by_cases hlt:k<256
  ·obtain⟨hc0,⟨cs,hcl,hct,hc1⟩,hbel⟩:=hr.out
   obtain⟨g1,g2⟩:=hc1.at k (by omega)
   generalize cs[k]=cv at g1
   have Hcl:=Qq hcl;clear hcl
   have Hct:=Qq hct;clear hct
   have H0:=Qq hc0;clear hc0
   have H1:=Qq hc1;clear hc1
   have Hb:=Qq hbel;clear hbel hr
   have hkm:((k:Int)%4294967296)=k:=by omega
   go_wp2_with fail;go_loopw [3,9] (fun x c wi=>∃j X:Nat,j≤8∧X<4294967296∧x=.int .u32 X∧c=.int .i64 j∧wi=wr∧Hid (X=Yu j k)) (fun x c _=>8-(intOf c).toNat)
   case atStart=>exact⟨0,k,by omega,by omega,rfl,rfl,rfl,rfl⟩
   case round =>
    obtain⟨j,X,hj,hX,rfl,rfl,rfl,Hj⟩:=hrel;by_cases hj2:j<8
    ·by_cases ho:X%2=1
     ·have ha:bits BinOp.and IntKind.u32 (X:Int) 1=1:=by rw[Vi X hX];omega
      have HN:Hid (Yu (j+1) k=X / 2 ^^^ 3988292384):=Qq (by rw[Yu,←Hj.out,RD,if_pos ho])
      clear ho;go_wp2;refine⟨⟨j+1,X / 2 ^^^ 3988292384,by omega,Nat.xor_lt_two_pow (n:=32) (by omega) (by omega),?_,by go_num,trivial,HN.out.symm⟩,by simp[intOf];omega⟩
      rw[show((X:Int) / 2)=((X / 2:Nat):Int) by omega];exact congrArg (Value.int .u32) (VI (X / 2) 3988292384 (by omega) (by omega))
     ·have ha:bits BinOp.and IntKind.u32 (X:Int) 1=0:=by rw[Vi X hX];omega
      have HN:Hid (Yu (j+1) k=X / 2):=Qq (by rw[Yu,←Hj.out,RD,if_neg ho])
      clear ho;go_wp2;refine⟨⟨j+1,X / 2,by omega,by omega,?_,by go_num,trivial,HN.out.symm⟩,by simp[intOf];omega⟩
      rw[show((X:Int) / 2)=((X / 2:Nat):Int) by omega];exact congrArg (Value.int .u32) ((VI (X / 2) 0 (by omega) (by omega)).trans (by rw[Nat.xor_zero]))
    ·obtain rfl:j=8:=by omega
     go_wp2;refine⟨⟨k+1,by omega,by go_num,H0.out.Zo (by omega),⟨cs.set k (.int .u32 X),by rw[List.length_set];exact Hcl.out,?_,H1.out.set k _⟩,Hb.out.setCell (by simp) _⟩,by simp[intOf];omega⟩
     rw[xK _ _ _ (by have:=Hcl.out;omega),Hct.out]
     unfold XG;rw[List.range_succ,List.map_append,Hj.out];rfl
  ·obtain rfl:k=256:=by omega
   obtain⟨hc0,⟨cs,hcl,hct,hc1⟩,hbel⟩:=hr.out;rw[List.take_of_length_le (by omega)] at hct
   subst hct;have hl:=hc1.range;have ht:=hc0.there 256 (by rw[Ui];omega)
   clear hr;go_wp2_with (first|(with_reducible refine wpList_load_mid rfl _ _ rfl _ _ rfl _ _ hl Tryz.underlying236 rfl Uj ?_)|(with_reducible refine wpList_store_mid rfl _ _ _ rfl _ _ _ rfl rfl ht Uj GG ?_))
   have hl2:=World.rangeAt_setCells_same wr w.heap.size 0 (XG 256) (by rw[show(XG 256).length=256 from hcl];exact ht)
   refine bodyPost_ret (v:=.agg (XG 256).toArray) ?_ rfl ⟨rfl,Y8 hbel _ (Nat.le_refl _) _ _⟩
   have hL:=run_loadVar_mid (P:=Tryz.prog) _ _ 0 _ (XG 256) _ hl2 Tryz.underlying236 rfl Uj
   exact zu Tryz.results102 _ ⟨_,0,none⟩ rfl hL
def TN (l:List ByteArray):List UInt8:=l.flatMap (·.data.toList)
theorem MI (l:List ByteArray)(k:Nat)(h:k<l.length):TN (l.take (k+1))=TN (l.take k)++l[k].data.toList:=by
 unfold TN;rw[List.take_succ_eq_append_getElem h,List.flatMap_append];simp
def G6 (x:Nat)(l:List UInt8):Nat:=4294967295-UT l (4294967295-x)
theorem Nq (l:List UInt8):G6 0 l=Yd l:=rfl

theorem Ew (a b:Nat)(ha:a<256)(hb:b<256):bits BinOp.xor IntKind.u8 (a:Int) (b:Int)=((a ^^^ b:Nat):Int):=by
 show IntKind.u8.wrap ((BitVec.ofInt 8 (a:Int) ^^^ BitVec.ofInt 8 (b:Int)).toNat:Int)=_
 have e:∀n:Nat,BitVec.ofInt 8 (n:Int)=BitVec.ofNat 8 n:=fun n=>by apply BitVec.eq_of_toNat_eq;rw[BitVec.toNat_ofInt,BitVec.toNat_ofNat];omega
 rw[e,e,BitVec.toNat_xor,BitVec.toNat_ofNat,BitVec.toNat_ofNat,Nat.mod_eq_of_lt (by omega),Nat.mod_eq_of_lt (by omega),IntKind.wrap_u8]
 have:=Nat.xor_lt_two_pow (n:=8) (by omega:a<_) (by omega:b<_)
 omega
theorem OE (x:Nat)(h:x<4294967296):bits BinOp.xor IntKind.u32 IntKind.u32.max (x:Int)=((4294967295-x:Nat):Int):=by
 have e:IntKind.u32.max=((4294967295:Nat):Int):=by decide
 rw[e,VI _ _ (by omega) h,Nat.xor_comm]
 congr 1
 have h2:(BitVec.ofNat 32 x ^^^ BitVec.allOnes 32).toNat=(~~~ (BitVec.ofNat 32 x)).toNat:=by rw[BitVec.xor_allOnes]
 rw[BitVec.toNat_xor,BitVec.toNat_not,BitVec.toNat_ofNat,BitVec.toNat_allOnes,Nat.mod_eq_of_lt (by simpa using h)] at h2
 simpa using h2
theorem K9 (k:Nat):(XG k).length=k:=by unfold XG;rw[List.length_map,List.length_range]
theorem Ip (k i:Nat)(h:i<k):(XG k)[i]?=some (.int .u32 (Yu 8 i:Int)):=by
 unfold XG;rw[List.getElem?_map,List.getElem?_range h];rfl

theorem Qe (x cap:Nat)(a:Option Addr)(l:List ByteArray)(w:World)(hx:x<4294967296)(hl:l.length≤1000)(ha:XO w a l)(hs:∀s∈l,s.size≤maxLen) :
  Calls Tryz.prog 89 #[.agg #[.int .u32 x],.slice a l.length cap] w fun e w'=>e=.returned (.agg #[.int .u32 (G6 x (TN l):Int)])∧Below w.heap.size w w':=by
 have hz:=R0;have Ha:=Qq ha;clear ha
 have Hs:=Qq hs;clear hs
 obtain⟨m,hm⟩:∃m,m=l.length:=⟨_,rfl⟩
 rw[←hm] at hl ⊢;have Hm:=Qq hm;clear hm
 go_enter Tryz.func89,Tryz.ntmps89
 go_wp2_with fail;refine(MA _).mono ?_
 rintro e w1 ⟨rfl,hb⟩;obtain⟨T,hT⟩:∃T,T=XG 256:=⟨_,rfl⟩
 obtain⟨T0,hT0⟩:∃T0,T0=TV:=⟨_,rfl⟩
 rw[←hT];rw[←hT0] at hz;have hsz:=hb.size;simp at hsz
 have c0:w1.cell? ⟨w.heap.size,0,none⟩=some (.int .u32 x):=by rw[hb.cell (p:=⟨w.heap.size,0,none⟩) (by simp;omega)];simp
 have c1:zF w1 (w.heap.size+1) [.int .u32 0]:=(zF.mk _ [.int .u32 0] _ _ (by simp)).below hb
 have HA1:Hid (XO w1 a l):=Qq (((Ha.out.below ((Below.refl _ _).alloc (Nat.le_refl _) _)).below ((Below.refl _ _).alloc (Nat.le_refl _) _)).below hb)
 have HB1:Hid (Below w.heap.size w w1):=Qq (((((Below.refl _ _).alloc (Nat.le_refl _) _).alloc (by simp) _)).trans (hb.mono (by simp;omega)))
 have C1:=Qq c1;have hl0:T0.length=256:=by rw[hT0];exact Ui
 have ht:(w1.alloc (.cells T0.toArray 236)).there w1.heap.size 0 256:=(zF.mk w1 T0 236 _ rfl).there 256 (by rw[hl0];omega)
 have ht':∀j,j<256→((w1.alloc (.cells T0.toArray 236)).cell? ⟨w1.heap.size,j,none⟩).isSome=true∧(w1.alloc (.cells T0.toArray 236)).frozen? ⟨w1.heap.size,j,none⟩=false:=fun j hj=>by have:=ht j hj;rw[Nat.zero_add] at this;exact this
 have hlen:T.length=256:=by rw[hT];exact K9 256
 have hst:Sem.run Tryz.prog (storeCells ⟨w1.heap.size,0,none⟩ T) (w1.alloc (.cells T0.toArray 236))=.ok () ((w1.alloc (.cells T0.toArray 236)).setCells w1.heap.size 0 T):=by
  have:=run_storeCells_cells (P:=Tryz.prog) w1.heap.size 0 T 0 (w1.alloc (.cells T0.toArray 236)) (fun j hj=>by simp only[Nat.zero_add] at *;exact(ht' j (by omega)).1) (fun j hj=>by simp only[Nat.zero_add] at *;exact(ht' j (by omega)).2) (fun v hv=>by rw[hT] at hv;unfold XG at hv;simp only[List.mem_map] at hv;obtain⟨i,_,rfl⟩:=hv;rfl)
  exact this
 have hTT:zF ((w1.alloc (.cells T0.toArray 236)).setCells w1.heap.size 0 T) w1.heap.size T:=(zF.mk w1 T0 236 _ rfl).setCells (by omega)
 have hbx:((w1.alloc (.cells T0.toArray 236)).setCells w1.heap.size 0 T).cell? ⟨w.heap.size,0,none⟩=some (.int .u32 x):=by
  rw[World.cell?_setCells_out _ _ _ _ _ (fun hb _=>absurd hb (by simp;omega)),World.cell?_alloc_past _ _ _ (by omega)];exact c0
 have hb2:Below w1.heap.size w1 ((w1.alloc (.cells T0.toArray 236)).setCells w1.heap.size 0 T):=Y8 ((Below.refl _ _).alloc (Nat.le_refl _) _) _ (Nat.le_refl _) _ _
 obtain⟨w2,hw2⟩:∃w2,w2=(w1.alloc (.cells T0.toArray 236)).setCells w1.heap.size 0 T:=⟨_,rfl⟩
 rw[←hw2] at hst hTT hbx hb2;have HC2:=Qq (C1.out.below hb2)
 have HA2:=Qq (HA1.out.below hb2)
 have HB2:=Qq (zA HB1.out hb2)
 have HTT:=Qq hTT;have HT:=Qq hT;clear hT
 clear hb c1 hT0 ht ht' hTT hb2 hw2 C1 HA1 HB1;have hsg:IntKind.u32.signed=false:=rfl
 have hnx:=OE x hx;obtain⟨y0,hy0⟩:∃y0,y0=4294967295-x:=⟨_,rfl⟩
 rw[←hy0] at hnx;have hy0':y0<4294967296:=by omega
 have HY0:=Qq hy0;clear hy0
 go_wp2_with fail;obtain⟨gt,hgt⟩:∃gt,gt=w1.heap.size:=⟨_,rfl⟩
 rw[←hgt] at HTT ⊢;clear hst hz hgt hl0 hlen hnx c0;go_loopw [6,8,16] (fun xv pv iv wr=>∃k y:Nat,k≤m∧y<4294967296∧iv=.int .i64 k∧xv=.int .u32 y∧wr=w2∧Hid (y=UT (TN (l.take k)) y0)) (fun _ _ iv _=>m-(intOf iv).toNat)
 case atStart=>exact⟨0,y0,by omega,hy0',rfl,rfl,rfl,rfl⟩
 case round =>
  obtain⟨k,y,hk,hy,rfl,rfl,rfl,Hy⟩:=hrel;by_cases hlt:k<m
  ·obtain⟨b,off,rfl,hcell⟩:=HA2.out k (by have:=Hm.out;omega)
   have hsl:=Hs.out _ (List.getElem_mem (by have:=Hm.out;omega:k<l.length))
   have hsn:=MI l k (by have:=Hm.out;omega)
   generalize l[k]'(by have:=Hm.out;omega)=s at hcell hsl hsn
   unfold maxLen at hsl;have Hsn:=Qq hsn;clear hsn
   go_wp2_with fail;go_loopw [6,9,22] (fun xv iv cv wi=>∃j z:Nat,j≤s.size∧z<4294967296∧cv=.int .i64 j∧xv=.int .u32 z∧wi=wr∧Hid (z=UT (s.data.toList.take j) y)) (fun _ _ cv _=>s.size-(intOf cv).toNat)
   case atStart=>exact⟨0,y,by omega,hy,rfl,rfl,rfl,rfl⟩
   case round =>
    obtain⟨j,z,hj,hz,rfl,rfl,rfl,Hz⟩:=hrel;by_cases hjl:j<s.size
    ·obtain⟨c,hc⟩:∃c:Nat,c=s[j].toNat:=⟨_,rfl⟩
     have hc2:c<256:=by rw[hc];exact s[j].toNat_lt
     obtain⟨i,hi⟩:∃i:Nat,i=(z%256) ^^^ c:=⟨_,rfl⟩
     have hi2:i<256:=by rw[hi];exact Nat.xor_lt_two_pow (n:=8) (by omega) hc2
     have hidx:bits BinOp.xor IntKind.u8 ((z:Int)%256) (s[j].toNat:Int)=(i:Int):=by
      rw[show((z:Int)%256)=((z%256:Nat):Int) by omega,←hc,Ew _ _ (by omega) hc2,hi]
     have htc:wr.cell? ⟨gt,i,none⟩=some (.int .u32 (Yu 8 i:Int)):=(HTT.out i _ (by rw[HT.out];exact Ip 256 i hi2)).1
     have hq:=JY 8 i (by omega)
     have hnew:Lv z c=Yu 8 i ^^^ z / 256:=by rw[R7 z c hc2,hi]
     generalize Yu 8 i=q at htc hq hnew;have Hnew:=Qq hnew;clear hnew hi
     have Hc:=Qq hc;clear hc
     go_wp2;refine⟨⟨j+1,z / 256 ^^^ q,by omega,Nat.xor_lt_two_pow (n:=32) (by omega) (by omega),by go_num,?_,trivial,?_⟩,by simp[intOf];omega⟩
     ·rw[show((z:Int) / 256)=((z / 256:Nat):Int) by omega];exact congrArg (Value.int .u32) (VI (z / 256) q (by omega) hq)
     ·show _=_
      rw[MR _ j (by simpa using hjl),←Hz.out]
      have:=Hc.out
      rw[Nat.xor_comm,←Hnew.out,this];rfl
    ·obtain rfl:j=s.size:=by omega
     go_wp2;refine⟨⟨k+1,z,by omega,hz,by go_num,rfl,trivial,?_⟩,by simp[intOf];omega⟩
     show z=_
     rw[Hsn.out,RU,←Hy.out,Hz.out,List.take_of_length_le (by simp)]
  ·obtain rfl:k=m:=by omega
   obtain⟨d1,d2⟩:=HC2.out.at 0 (by simp)
   have hny:=OE y hy;have hres:4294967295-y=G6 x (TN l):=by
    unfold G6;rw[Hy.out,HY0.out,Hm.out,List.take_length]
   have Hres:=Qq hres;clear hres
   go_wp2;refine bodyPost_ret (v:=.agg #[.int .u32 ((4294967295-y:Nat):Int)]) ?_ rfl ⟨by rw[Hres.out],HB2.out.setCell (by simp) _⟩
   simp[results,Tryz.results89,go_sem,d1]

theorem Ll {w:World}{b:Nat}{s:ByteArray}(h:w.cell? ⟨b,0,none⟩=some (.string s)):XO w (some ⟨b,0,none⟩) [s]:=fun i hi=>by
 obtain rfl:i=0:=by simpa using hi
 exact⟨b,0,rfl,h⟩
theorem JC (s:ByteArray):TN [s]=s.data.toList:=by simp[TN]
theorem Gj (x:Nat)(w:World):Calls Tryz.prog 90 #[.agg #[.int .u32 x]] w fun e w'=>e=.returned (.int .u32 x)∧Below w.heap.size w w':=by
 go_enter Tryz.func90,Tryz.ntmps90
 go_wp2;go_ret;exact⟨rfl,(Below.refl _ _).alloc (Nat.le_refl _) _⟩
theorem Ea (cap:Nat)(a:Option Addr)(l:List ByteArray)(w:World)(hl:l.length≤1000)(ha:XO w a l)(hs:∀s∈l,s.size≤maxLen) :
  Calls Tryz.prog 81 #[.slice a l.length cap] w fun e w'=>e=.returned (.int .u32 (Yd (TN l):Int))∧Below w.heap.size w w':=by
 obtain⟨m,hm⟩:∃m,m=l.length:=⟨_,rfl⟩
 rw[←hm] at hl ⊢;have Hm:=Qq hm;clear hm
 go_enter Tryz.func81,Tryz.ntmps81
 go_wp2_with fail;rw[Hm.out];refine(Qe 0 cap a l _ (by omega) (by rw[←Hm.out];exact hl) ha hs).mono ?_
 rintro e w1 ⟨rfl,hb⟩;rw[Nq];have hb2:=Qq hb;clear hb
 go_wp2_with fail;refine(Gj _ _).mono ?_
 rintro e w2 ⟨rfl,hb3⟩;go_wp2;go_ret;exact⟨rfl,zA hb2.out hb3⟩
theorem IK (cap b:Nat)(s:ByteArray)(w:World)(h:w.cell? ⟨b,0,none⟩=some (.string s))(hs:s.size≤maxLen) :
  Calls Tryz.prog 81 #[.slice (some ⟨b,0,none⟩) 1 cap] w fun e w'=>e=.returned (.int .u32 (Yd s.data.toList:Int))∧Below w.heap.size w w':=by
 have:=Ea cap (some ⟨b,0,none⟩) [s] w (by simp) (Ll h) (by simpa using hs)
 rw[JC] at this;exact this
theorem Ly (n k:Nat)(hk:k<4):(WI n)[k]'(by rw[Y9];exact hk)=UInt8.ofNat (n / 2 ^ (8*k)):=by
 match k,hk with
 | 0,_=>simp[WI]
 | 1,_=>simp[WI]
 | 2,_=>simp[WI]
 | 3,_=>simp[WI]
theorem MY {w wr:World}{n k g:Nat}{cs:List UInt8}{v:Int}(h:cs.length=4∧cs.take k=(WI n).take k∧Bytes wr g cs∧Below w.heap.size w wr)(hk:k<4)(hg:w.heap.size≤g)
  (hv:v=((UInt8.ofNat (n / 2 ^ (8*k))).toNat:Int)) :
  (cs.set k (UInt8.ofNat (n / 2 ^ (8*k)))).length=4∧(cs.set k (UInt8.ofNat (n / 2 ^ (8*k)))).take (k+1)=(WI n).take (k+1)∧Bytes (wr.setCell ⟨g,k,none⟩ (.int .u8 v)) g (cs.set k (UInt8.ofNat (n / 2 ^ (8*k))))∧Below w.heap.size w (wr.setCell ⟨g,k,none⟩ (.int .u8 v)):=by
 obtain⟨h1,h2,h3,h4⟩:=h;refine⟨by simp[h1],?_,h3.set k (by omega) _ _ hv,h4.setCell hg _⟩
 rw[xK _ _ _ (by omega),h2,List.take_succ_eq_append_getElem (by rw[Y9];exact hk),Ly n k hk]
theorem Kz (t:ByteArray)(w:World)(ht:t.size≤maxLen) :
  Calls Tryz.prog 70 #[.string t] w fun e w'=>e=.returned (.string ⟨(WI (Yd t.data.toList)).toArray⟩)∧Below w.heap.size w w':=by
 have hlt:=Ng t.data.toList;obtain⟨n,hn⟩:∃n,n=Yd t.data.toList:=⟨_,rfl⟩
 rw[←hn] at hlt ⊢;have Hn:=Qq hn;clear hn
 obtain⟨l,hl⟩:∃l,l=WI n:=⟨_,rfl⟩
 rw[←hl];have Hl:=Qq hl;clear hl
 go_enter Tryz.func70,Tryz.ntmps70
 go_wp2_with fail;refine(IK 1 w.heap.size t _ (by simp) ht).mono ?_
 rintro e w1 ⟨rfl,hb⟩;rw[←Hn.out];have Hb:=Qq (((Below.refl _ _).alloc (Nat.le_refl _) _).trans (hb.mono (by simp)));clear hb
 go_wp2_with fail;go_loopw [5,9] (fun _ i wr=>∃k:Nat,∃cs:List UInt8,k≤4∧i=.int .i64 k∧Hid (cs.length=4∧cs.take k=(WI n).take k∧Bytes wr w1.heap.size cs∧Below w.heap.size w wr)) (fun _ i _=>4-(intOf i).toNat)
 case atStart=>exact⟨0,List.replicate 4 0,by omega,rfl,rfl,rfl,Bytes.fresh w1 203 4,Hb.out.alloc Hb.out.size _⟩
 case round =>
  obtain⟨k,cs,hk,rfl,hr⟩:=hrel;by_cases hlt4:k<4
  ·obtain⟨h1,h2,h3,h4⟩:=hr.out
   have hck:(wr.cell? ⟨w1.heap.size,k,none⟩)=some (.int .u8 (cs[k].toNat:Int)):=h3.1 k (by omega)
   have hfk:=h3.2 k (by omega)
   generalize (cs[k].toNat:Int)=c at hck
   clear h1 h2 h3 h4;have hx:k=0∨k=1∨k=2∨k=3:=by omega
   have hsz:w.heap.size≤w1.heap.size:=Hb.out.size
   rcases hx with rfl|rfl|rfl|rfl
   all_goals
    go_wp2;refine⟨⟨_,_,?_,?_,Qq (MY hr.out (by omega) hsz ?_)⟩,?_⟩
    ·omega
    ·go_num
    ·simp;try omega
    ·simp[intOf]
  ·obtain rfl:k=4:=by omega
   obtain⟨h1,h2,h3,h4⟩:=hr.out;have hsl:∀w',(Instr.sliceAt 203 (.pointer (some ⟨w1.heap.size,0,none⟩)) none none none).run Tryz.prog w'=.ok (.slice (some ⟨w1.heap.size,0,none⟩) 4 4) w':=fun w'=>by
    rw[run_sliceAt_array_all w' 203 ⟨w1.heap.size,0,none⟩ Tryz.underlying203]
    rfl
   have hcs:cs=l:=by rw[Hl.out];rw[List.take_of_length_le (by omega),List.take_of_length_le (by rw[Y9];omega)] at h2;exact h2
   rw[hcs] at h3;have hcv:=MN (P:=Tryz.prog) (n:=4) (cap:=4) h3 (by rw[Hl.out];rfl) 200 9 5 Tryz.underlying200 Tryz.underlying5 Tryz.underlying9
   clear h1 h2 h3 hcs;have H4:=Qq h4;clear h4 hr
   go_wp2;go_ret;exact⟨rfl,H4.out⟩
theorem MK (s:ByteArray):s.size=s.data.toList.length:=by simp
theorem WE (a b:ByteArray):(a++b).data.toList=a.data.toList++b.data.toList:=by simp
theorem LM {a a':ByteArray}{k k':Int}(h:a=a')(h2:k=k'):Ending.returned (.tuple #[.string a,.int .i64 k])=.returned (.tuple #[.string a',.int .i64 k']):=by rw[h,h2]
theorem NG (q:Nat)(b:ByteArray)(w:World)(hq:q<18446744073709551616)(hb:b.size≤4096) :
  Calls Tryz.prog 47 #[.int .u64 q,.string b] w fun e w'=>e=.returned (.tuple #[.string ⟨(X7 q b.data.toList).toArray⟩,.int .i64 0])∧Below w.heap.size w w':=by
 have hpl:=Wy q;have hpl2:=Wy b.size;have Hq:=Qq hq;have hbl:b.data.toList.length=b.size:=by simp
 have Hbl:=Qq hbl;clear hbl
 go_enter Tryz.func47,Tryz.ntmps47
 go_wp2_with fail;refine(TY q _ Hq.out).mono ?_
 rintro e w1 ⟨rfl,hb1⟩;have Hb1:=Qq hb1;clear hb1
 go_wp2_with fail;refine(TY b.size _ (by omega)).mono ?_
 rintro e w2 ⟨rfl,hb2⟩;have Hb2:=Qq (zA Hb1.out hb2);clear hb2 Hb1
 obtain⟨P1,hP1⟩:∃P1,P1=Y4 q:=⟨_,rfl⟩
 obtain⟨P2,hP2⟩:∃P2,P2=Y4 b.size:=⟨_,rfl⟩
 rw[←hP1] at hpl ⊢;rw[←hP2] at hpl2 ⊢;have HP:=Qq (And.intro hP1 hP2);clear hP1 hP2
 obtain⟨T,hT⟩:∃T,T=ByteArray.mk #[83,103]++ByteArray.mk P1.toArray++ByteArray.mk P2.toArray++b:=⟨_,rfl⟩
 have hTl:T.data.toList=Wf q b.data.toList:=by
  obtain⟨e1,e2⟩:=HP.out;rw[hT,WE,WE,WE,Wf,Hbl.out,e1,e2];simp
 have hTs:T.size≤10000:=by
  have e:T.size=T.data.toList.length:=by simp
  rw[e,hTl,TC,Hbl.out];have:=Wy q;have:=Wy b.size
  omega
 have HT:=Qq hT;have HTl:=Qq hTl;clear hTl
 go_wp2_with fail;rw[←HT.out];refine(Kz T _ (by unfold maxLen;omega)).mono ?_
 rintro e w3 ⟨rfl,hb3⟩;rw[HTl.out];have Hb3:=Qq (zA Hb2.out hb3);clear hb3 Hb2 hT
 have hfin:T++ByteArray.mk (WI (Yd (Wf q b.data.toList))).toArray=ByteArray.mk (X7 q b.data.toList).toArray:=by
  apply NL;rw[WE,HTl.out];simp[X7]
 have HF:=Qq hfin;clear hfin
 have hSL:=Y9 (Yd (Wf q b.data.toList))
 generalize WI (Yd (Wf q b.data.toList))=SL at HF hSL ⊢
 go_wp2;go_ret2
 exact⟨LM HF.out rfl,Hb3.out⟩
theorem Ho {r:Rec}(h:Rec.ok r):((r.2:Int)*4+(r.1-1))=(r.num:Int):=by unfold Rec.num;obtain⟨h1,h2,h3⟩:=h;omega
theorem QB (k:Int)(n:Nat)(w:World)(h:Rec.ok (k,n)) :
  Calls Tryz.prog 48 #[.agg #[.int .i64 k,.int .u64 (n:Int)]] w fun e w'=>e=.returned (.string ⟨(Y4 (Rec.num (k,n))).toArray⟩)∧Below w.heap.size w w':=by
 have hnum:=Ho h;have hlt:=Rec.EP h;obtain⟨h1,h2,h3⟩:=h;simp only at h1 h2 h3 hnum
 have h4:(n:Int)≤4611686018427387903:=by omega
 have Hn:=Qq hnum;clear hnum h3
 have Hl:=Qq hlt;clear hlt
 go_enter Tryz.func48,Tryz.ntmps48
 go_wp2_with fail;rw[Hn.out];refine(TY _ _ Hl.out).mono ?_
 rintro e w' ⟨rfl,hb⟩;have Hb:=Qq hb;clear hb
 go_wp2;go_ret;exact⟨rfl,zA ((Below.refl _ _).alloc (Nat.le_refl _) _) Hb.out⟩
theorem RY:Y4 (Rec.num (1,3))=[12]:=by decide +kernel
theorem Dw:(X7 0 []).length=8:=by rw[Qg];rfl
theorem Ub (w:World):Calls Tryz.prog 24 #[] w fun e w'=>e=.returned (.bool true)∧Below w.heap.size w w':=by
 have h8:=Dw;obtain⟨F,hF⟩:∃F,F=ByteArray.mk (X7 0 []).toArray:=⟨_,rfl⟩
 have hFs:F.size=8:=by rw[hF,MK];exact h8
 have HF:=Qq hF;clear hF h8
 go_enter Tryz.func24,Tryz.ntmps24
 go_wp2_with fail;refine(NG 0 ⟨#[]⟩ _ (by omega) (by decide)).mono ?_
 rintro e w1 ⟨rfl,hb1⟩;rw[show(ByteArray.mk #[]).data.toList=[] from rfl,←HF.out]
 have Hb1:=Qq hb1;clear hb1
 go_wp2_with fail;refine(QB 1 3 _ (by decide)).mono ?_
 rintro e w2 ⟨rfl,hb2⟩;rw[RY];have Hb2:=Qq (zA Hb1.out hb2);clear hb2
 go_wp2;go_ret;exact⟨rfl,Hb2.out⟩
def Wd.ck (W:Wd)(c:Nat):Wd:={ W with clock:=c }
def Dd.ck (d:Dd)(c:Nat):Dd:={ d with W:=d.W.ck c }
def DH (r:Wd×List Int)(c:Nat):Wd×List Int:=(r.1.ck c,r.2)
theorem S2 (W:Wd):W.ck W.clock=W:=rfl
theorem J0 (W:Wd)(c:Nat)(rd:List Int)(g:Nat)(x:zS):ZD (W.ck c) rd g x=(ZD W rd g x).ck c:=by
 show(if 16≤(W.g g).n then _ else _)=Dd.ck (if 16≤(W.g g).n then _ else _) c
 split<;>rfl
theorem EA (W:Wd)(c:Nat)(rd:List Int)(g:Nat)(x:zS):Y6 (W.ck c) rd g x=(Y6 W rd g x).ck c:=by
 show(if(W.g g).n≤1 then _ else _)=Dd.ck (if(W.g g).n≤1 then _ else _) c
 split<;>rfl
theorem GV (W:Wd)(c:Nat)(rd:List Int)(g:Nat)(x:zS):ZE (W.ck c) rd g x=(ZE W rd g x).ck c:=by
 show(if 1000≤W.out.length then _ else _)=Dd.ck (if 1000≤W.out.length then _ else _) c
 split<;>rfl
theorem GZ (W:Wd)(c:Nat)(rd:List Int)(g:Nat)(x:zS):ZR (W.ck c) rd g x=(ZR W rd g x).ck c:=by
 unfold ZR Dd.ck;simp only
 show Dd.mk (if W.lk x.2.1=[] then _ else _) rd none=Dd.mk (Wd.ck (if W.lk x.2.1=[] then _ else _) c) rd none
 split<;>rfl
theorem Mg (W:Wd)(c:Nat)(rd:List Int)(g:Nat)(x:zS):xA (W.ck c) rd g x=(xA W rd g x).ck c:=by
 show(if(xm (W.lk x.2.1) (g:Int)).2=0 then(if(xm (W.lk x.2.1) (g:Int)).1 = -1 then _ else _) else _)=Dd.ck (if(xm (W.lk x.2.1) (g:Int)).2=0 then(if(xm (W.lk x.2.1) (g:Int)).1 = -1 then _ else _) else _) c
 split
 ·split<;>rfl
 ·rfl
theorem V7 (W:Wd)(c:Nat)(x:zS)(b:Wt)(s:Bool):(W.ck c).fin x b s=(W.fin x b s).ck c:=by
 unfold Wd.fin;simp only
 show(if x.1=16 then Wd.put (if((W.yA x).getD b.2.1.toNat (1,0,0)).1=0 then(W.ck c).put _ _ _ else W.ck c) _ _ _ else if x.1=14 then Wd.put (if((W.yA x).getD b.2.1.toNat (1,0,0)).1=0 then(W.ck c).put _ _ _ else W.ck c) _ _ _ else(if((W.yA x).getD b.2.1.toNat (1,0,0)).1=0 then(W.ck c).put _ _ _ else W.ck c))=_
 by_cases h0:((W.yA x).getD b.2.1.toNat (1,0,0)).1=0
 ·rw[if_pos h0,if_pos h0]
  split
  ·rfl
  ·split<;>rfl
 ·rw[if_neg h0,if_neg h0]
  split
  ·rfl
  ·split<;>rfl
theorem Su (W:Wd)(c:Nat)(rd:List Int)(b:Wt)(s:Bool):goOnM (W.ck c) rd b s=DH (goOnM W rd b s) c:=by
 unfold goOnM;simp only
 show(if(W.g b.1.toNat).st=2 then(match W.xQ (W.g b.1.toNat).fn ((W.g b.1.toNat).pc-1) with|some x=>_|none=>_) else _)=DH (if(W.g b.1.toNat).st=2 then(match W.xQ (W.g b.1.toNat).fn ((W.g b.1.toNat).pc-1) with|some x=>_|none=>_) else _) c
 split
 ·cases W.xQ (W.g b.1.toNat).fn ((W.g b.1.toNat).pc-1) with
  | none=>rfl
  | some x=>simp only[V7];rfl
 ·rfl
theorem RE (c:Nat):∀(l:List Wt) (W:Wd) (rd:List Int),goOnsM (W.ck c) rd l=DH (goOnsM W rd l) c
 | [],W,rd=>rfl
 | r::t,W,rd=>by
  unfold goOnsM;rw[Su];exact RE c t _ _
theorem JG (W:Wd)(c:Nat)(rd:List Int)(x:zS):xN (W.ck c) rd x=(xN W rd x).ck c:=by
 unfold xN;simp only
 show(if(W.ch x.2.1).cl=true then _ else if(W.ch x.2.1).S=[] then Dd.mk (goOnsM ((W.zM x.2.1 _).ck c) rd _).1 (goOnsM ((W.zM x.2.1 _).ck c) rd _).2 none else _)=Dd.ck (if(W.ch x.2.1).cl=true then _ else if(W.ch x.2.1).S=[] then _ else _) c
 split
 ·rfl
 ·split
  ·rw[RE];rfl
  ·rfl
theorem Gc (W:Wd)(c:Nat)(rd:List Int)(g:Nat)(x:zS)(k:Zc)(p:Int):x9 (W.ck c) rd g x k p=(x9 W rd g x k p).map (·.ck c):=by
 unfold x9;simp only
 show(if(mSend (W.Ns.getD k.2.1.toNat 0) (W.ch k.2.1) ((W.g g).rg k.2.2)).2.2.2=10 then _ else if(mSend (W.Ns.getD k.2.1.toNat 0) (W.ch k.2.1) ((W.g g).rg k.2.2)).2.2.2=0 then some (Dd.mk (Wd.fin (if(mSend (W.Ns.getD k.2.1.toNat 0) (W.ch k.2.1) ((W.g g).rg k.2.2)).2.2.1=true then goOnM ((W.zM k.2.1 _).ck c) rd _ true else((W.zM k.2.1 _).ck c,rd)).1 x _ false) (if(mSend (W.Ns.getD k.2.1.toNat 0) (W.ch k.2.1) ((W.g g).rg k.2.2)).2.2.1=true then goOnM ((W.zM k.2.1 _).ck c) rd _ true else((W.zM k.2.1 _).ck c,rd)).2 none) else none)=_
 have e:mSend ((W.ck c).Ns.getD k.2.1.toNat 0) ((W.ck c).ch k.2.1) (((W.ck c).g g).rg k.2.2)=mSend (W.Ns.getD k.2.1.toNat 0) (W.ch k.2.1) ((W.g g).rg k.2.2):=rfl
 simp only[e];generalize mSend (W.Ns.getD k.2.1.toNat 0) (W.ch k.2.1) ((W.g g).rg k.2.2)=r
 by_cases h1:r.2.2.2=10
 ·rw[if_pos h1,if_pos h1];rfl
 ·rw[if_neg h1,if_neg h1]
  by_cases h2:r.2.2.2=0
  ·rw[if_pos h2,if_pos h2]
   by_cases h3:r.2.2.1=true
   ·rw[if_pos h3,if_pos h3,Su]
    simp only[DH,V7];rfl
   ·rw[if_neg h3,if_neg h3]
    simp only[V7];rfl
  ·rw[if_neg h2,if_neg h2];rfl
theorem GS (W:Wd)(c:Nat)(rd:List Int)(g:Nat)(x:zS)(k:Zc)(p:Int):xU (W.ck c) rd g x k p=(xU W rd g x k p).map (·.ck c):=by
 unfold xU;simp only
 show(if(mRecv (W.ch k.2.1)).2.2=0 then some (Dd.mk (Wd.fin (if(mRecv (W.ch k.2.1)).2.1.2.2.2=true then goOnM ((W.zM k.2.1 _).ck c) rd _ false else((W.zM k.2.1 _).ck c,rd)).1 x _ _) (if(mRecv (W.ch k.2.1)).2.1.2.2.2=true then goOnM ((W.zM k.2.1 _).ck c) rd _ false else((W.zM k.2.1 _).ck c,rd)).2 none) else none)=_
 have e:mRecv ((W.ck c).ch k.2.1)=mRecv (W.ch k.2.1):=rfl
 simp only[e];generalize mRecv (W.ch k.2.1)=r
 by_cases h2:r.2.2=0
 ·rw[if_pos h2,if_pos h2]
  by_cases h3:r.2.1.2.2.2=true
  ·rw[if_pos h3,if_pos h3,Su]
   simp only[DH,V7];rfl
  ·rw[if_neg h3,if_neg h3]
   simp only[V7];rfl
 ·rw[if_neg h2,if_neg h2];rfl
theorem Dh (W:Wd)(c:Nat)(rd:List Int)(g:Nat)(x:zS)(p:Int):Zw (W.ck c) rd g x p=(Zw W rd g x p).map (·.ck c):=by
 unfold Zw;simp only
 show(if((W.yA x).getD p.toNat (1,0,0)).1=1 then x9 (W.ck c) rd g x ((W.yA x).getD p.toNat (1,0,0)) p else xU (W.ck c) rd g x ((W.yA x).getD p.toNat (1,0,0)) p)=_
 split
 ·exact Gc _ _ _ _ _ _ _
 ·exact GS _ _ _ _ _ _ _
theorem Oj (W:Wd)(c:Nat)(rd:List Int)(g:Nat)(x:zS):xW (W.ck c) rd g x=(xW W rd g x).ck c:=by
 unfold xW;rw[Dh];cases Zw W rd g x 0<;>rfl
def XP (x:zS):Prop:=x.1≠11∧x.1≠16∧x.1≠17∧x.1≠21
theorem GM (W:Wd)(c:Nat)(g:Nat)(x:zS)(d:Int)(b:Bool)(h:XP x):zT (W.ck c) g x d b=(zT W g x d b).ck c:=by
 obtain⟨h1,h2,h3,h4⟩:=h;unfold zT;rw[if_neg h1,if_neg h1,if_neg h2,if_neg h2,if_neg h3,if_neg h3,if_neg h4,if_neg h4];split
 ·exact J0 _ _ _ _ _
 split
 ·exact EA _ _ _ _ _
 split
 ·rfl
 split
 ·exact Oj _ _ _ _ _
 split
 ·exact Oj _ _ _ _ _
 split
 ·exact JG _ _ _ _
 split
 ·exact GZ _ _ _ _ _
 split
 ·exact Mg _ _ _ _ _
 split
 ·exact GV _ _ _ _ _
 ·rfl
theorem XC (W:Wd)(i:Nat)(G:Gt):(W.ye i G).gs.length=W.gs.length:=by unfold Wd.ye;simp
theorem Pp (W:Wd)(i:Nat)(k v:Int):(W.put i k v).gs.length=W.gs.length:=XC _ _ _
theorem RK (W:Wd)(i:Nat)(s:Int):(W.zQ i s).gs.length=W.gs.length:=XC _ _ _
theorem Pu (W:Wd)(x:zS)(b:Wt)(s:Bool):(W.fin x b s).gs.length=W.gs.length:=by
 have h:(if((W.yA x).getD b.2.1.toNat (1,0,0)).1=0 then W.put b.1.toNat ((W.yA x).getD b.2.1.toNat (1,0,0)).2.2 b.2.2 else W).gs.length=W.gs.length:=by split;exact Pp _ _ _ _;rfl
 unfold Wd.fin;simp only
 split
 ·rw[Pp];exact h
 ·split
  ·rw[Pp];exact h
  ·exact h
theorem Sf (W:Wd)(rd:List Int)(b:Wt)(s:Bool):(goOnM W rd b s).1.gs.length=W.gs.length:=by
 unfold goOnM;simp only
 split
 ·split
  ·rw[RK];exact Pu _ _ _ _
  ·rfl
 ·rfl
theorem SW:∀(l:List Wt) (W:Wd) (rd:List Int),(goOnsM W rd l).1.gs.length=W.gs.length
 | [],W,rd=>rfl
 | r::t,W,rd=>by unfold goOnsM;rw[SW t];exact Sf _ _ _ _
theorem ID (W:Wd)(rd:List Int)(g:Nat)(x:zS)(k:Zc)(p:Int):∀d,x9 W rd g x k p=some d→d.W.gs.length=W.gs.length:=fun d h=>by
 unfold x9 at h;simp only at h
 split at h
 ·cases h;rfl
 ·split at h
  ·have h:=Option.some.inj h
   rw[←h];simp only
   rw[Pu];split
   ·exact Sf _ _ _ _
   ·rfl
  ·cases h
theorem Fk (W:Wd)(rd:List Int)(g:Nat)(x:zS)(k:Zc)(p:Int):∀d,xU W rd g x k p=some d→d.W.gs.length=W.gs.length:=fun d h=>by
 unfold xU at h;simp only at h
 split at h
 ·have h:=Option.some.inj h
  rw[←h];simp only
  rw[Pu];split
  ·exact Sf _ _ _ _
  ·rfl
 ·cases h
theorem OP (W:Wd)(rd:List Int)(g:Nat)(x:zS):(xW W rd g x).W.gs.length=W.gs.length:=by
 unfold xW;cases h:Zw W rd g x 0 with
 | none=>exact RK _ _ _
 | some d =>
  unfold Zw at h;simp only at h
  split at h
  ·exact ID _ _ _ _ _ _ d h
  ·exact Fk _ _ _ _ _ _ d h
theorem Hu (W:Wd)(g:Nat)(x:zS)(d:Int)(b:Bool)(h:XP x):(zT W g x d b).W.gs.length=W.gs.length:=by
 obtain⟨h1,h2,h3,h4⟩:=h;unfold zT;rw[if_neg h1,if_neg h2,if_neg h3,if_neg h4];split
 ·unfold ZD;simp only;split
  ·rfl
  ·exact XC _ _ _
 split
 ·unfold Y6;simp only;split
  ·exact RK _ _ _
  ·exact XC _ _ _
 split
 ·rfl
 split
 ·exact OP _ _ _ _
 split
 ·exact OP _ _ _ _
 split
 ·unfold xN;simp only;split
  ·rfl
  ·split
   ·exact SW _ _ _
   ·rfl
 split
 ·unfold ZR;simp only;split
  ·rfl
  ·exact RK _ _ _
 split
 ·unfold xA;simp only;split
  ·split
   ·rfl
   ·exact RK _ _ _
  ·rfl
 split
 ·unfold ZE;split<;>rfl
 ·rfl
theorem GQ (W:Wd)(g:Nat)(x:zS)(d:Int)(b:Bool)(h:XP x):zT W g x d b=zT W g x 0 false:=by
 obtain⟨h1,h2,h3,h4⟩:=h;unfold zT;rw[if_neg h2,if_neg h4,if_neg h2,if_neg h4]
def Lone (W:Wd):Prop:=W.gs.length=1∧∀l∈W.fs,∀x∈l,XP x
theorem Lone.ins {W:Wd}(h:Lone W)(g:Nat):∀x,W.ins g=some x→XP x:=fun x hx=>by
 unfold Wd.ins Wd.xQ at hx;split at hx
 ·cases hx
 ·have hm:x∈W.fs.getD (W.g g).fn.toNat []:=List.mem_of_getElem? hx
  rw[List.getD_eq_getElem?_getD] at hm
  cases e:W.fs[(W.g g).fn.toNat]? with
  | none=>rw[e] at hm;simp at hm
  | some l=>rw[e] at hm;exact h.2 l (List.mem_of_getElem? e) x hm
theorem Jd (W:Wd)(c:Nat)(g:Nat)(x:Option zS)(d:Int)(b:Bool)(h:∀y,x=some y→XP y):doM (W.ck c) g x d b=(doM W g x 0 false).ck c:=by
 cases x with
 | none=>rfl
 | some x =>
  unfold doM;simp only
  show(match Zp x (W.g g).o (W.g g).z with|some z=>_|none=>zT ((W.step g).ck c) g x d b)=_
  cases Zp x (W.g g).o (W.g g).z with
  | some z=>rfl
  | none=>simp only;rw[GM _ _ _ _ _ _ (h x rfl),GQ _ _ _ _ _ (h x rfl)]
theorem FM (W:Wd)(g:Nat)(x:Option zS)(d:Int)(b:Bool)(h:∀y,x=some y→XP y):(doM W g x d b).W.gs.length=W.gs.length:=by
 cases x with
 | none=>rfl
 | some x =>
  unfold doM;simp only
  cases Zp x (W.g g).o (W.g g).z with
  | some z=>exact XC _ _ _
  | none=>simp only;rw[Hu _ _ _ _ _ (h x rfl)];exact XC _ _ _
theorem Dl (d:Dd)(c:Nat):(d.ck c).end_=d.end_.ck c:=by
 unfold Dd.end_ Dd.ck;simp only
 cases d.tr<;>rfl
theorem Gn {W:Wd}(h:Lone W)(c:Nat)(g d:Int):zG (W.ck c) g d=((zG W g 0).1.ck c,(zG W g 0).2):=by
 unfold zG;show(if W.lets g then _ else _)=_
 by_cases hl:W.lets g
 ·rw[if_pos hl,if_pos hl]
  simp only
  have e:(W.ck c).ins g.toNat=W.ins g.toNat:=rfl
  rw[e,Jd _ _ _ _ _ _ (h.ins g.toNat),Dl]
  have e2:doM W g.toNat (W.ins g.toNat) (xE W ((W.ins g.toNat).getD (0,0,0,0)) 0).1 (xE W ((W.ins g.toNat).getD (0,0,0,0)) 0).2=doM W g.toNat (W.ins g.toNat) 0 false:=by
   have:=Jd W W.clock g.toNat (W.ins g.toNat) (xE W ((W.ins g.toNat).getD (0,0,0,0)) 0).1 (xE W ((W.ins g.toNat).getD (0,0,0,0)) 0).2 (h.ins g.toNat)
   rw[S2] at this;rw[this];have h2:=Jd W W.clock g.toNat (W.ins g.toNat) 0 false (h.ins g.toNat)
   rw[S2] at h2;exact h2.symm
  rw[e2];rfl
 ·rw[if_neg hl,if_neg hl]
theorem Gi {W:Wd}(h:Lone W)(g d:Int):(zG W g d).1.gs.length=1:=by
 unfold zG;split
 ·simp only
  unfold Dd.end_;split
  ·rw[FM _ _ _ _ _ (h.ins g.toNat)];exact h.1
  ·show(doM W g.toNat (W.ins g.toNat) _ _).W.gs.length=1
   rw[FM _ _ _ _ _ (h.ins g.toNat)];exact h.1
 ·exact h.1
theorem PR (W:Wd)(i:Nat)(G:Gt):(W.ye i G).hp=W.hp:=rfl
theorem PG (W:Wd)(i:Nat)(k v:Int):(W.put i k v).hp=W.hp:=PR _ _ _
theorem DY (W:Wd)(i:Nat)(s:Int):(W.zQ i s).hp=W.hp:=PR _ _ _
theorem QR (W:Wd)(x:zS)(b:Wt)(s:Bool):(W.fin x b s).hp=W.hp:=by
 have h:(if((W.yA x).getD b.2.1.toNat (1,0,0)).1=0 then W.put b.1.toNat ((W.yA x).getD b.2.1.toNat (1,0,0)).2.2 b.2.2 else W).hp=W.hp:=by split;exact PG _ _ _ _;rfl
 unfold Wd.fin;simp only
 split
 ·rw[PG];exact h
 ·split
  ·rw[PG];exact h
  ·exact h
theorem TW (W:Wd)(rd:List Int)(b:Wt)(s:Bool):(goOnM W rd b s).1.hp=W.hp:=by
 unfold goOnM;simp only
 split
 ·split
  ·rw[DY];exact QR _ _ _ _
  ·rfl
 ·rfl
theorem SV:∀(l:List Wt) (W:Wd) (rd:List Int),(goOnsM W rd l).1.hp=W.hp
 | [],W,rd=>rfl
 | r::t,W,rd=>by unfold goOnsM;rw[SV t];exact TW _ _ _ _
theorem J4 (W:Wd)(rd:List Int)(g:Nat)(x:zS)(k:Zc)(p:Int):∀d,x9 W rd g x k p=some d→d.W.hp=W.hp:=fun d h=>by
 unfold x9 at h;simp only at h
 split at h
 ·cases h;rfl
 ·split at h
  ·have h:=Option.some.inj h
   rw[←h];simp only
   rw[QR];split
   ·exact TW _ _ _ _
   ·rfl
  ·cases h
theorem Im (W:Wd)(rd:List Int)(g:Nat)(x:zS)(k:Zc)(p:Int):∀d,xU W rd g x k p=some d→d.W.hp=W.hp:=fun d h=>by
 unfold xU at h;simp only at h
 split at h
 ·have h:=Option.some.inj h
  rw[←h];simp only
  rw[QR];split
  ·exact TW _ _ _ _
  ·rfl
 ·cases h
theorem Ow (W:Wd)(rd:List Int)(g:Nat)(x:zS):(xW W rd g x).W.hp=W.hp:=by
 unfold xW;cases h:Zw W rd g x 0 with
 | none=>rfl
 | some d =>
  unfold Zw at h;simp only at h
  split at h
  ·exact J4 _ _ _ _ _ _ d h
  ·exact Im _ _ _ _ _ _ d h
theorem Fo (W:Wd)(g:Nat)(x:zS)(d:Int)(b:Bool)(h:XP x):(zT W g x d b).W.hp=W.hp:=by
 obtain⟨h1,h2,h3,h4⟩:=h;unfold zT;rw[if_neg h1,if_neg h2,if_neg h3,if_neg h4];split
 ·unfold ZD;simp only;split
  ·rfl
  ·rfl
 split
 ·unfold Y6;simp only;split
  ·rfl
  ·rfl
 split
 ·rfl
 split
 ·exact Ow _ _ _ _
 split
 ·exact Ow _ _ _ _
 split
 ·unfold xN;simp only;split
  ·rfl
  ·split
   ·exact SV _ _ _
   ·rfl
 split
 ·unfold ZR;simp only;split
  ·rfl
  ·rfl
 split
 ·unfold xA;simp only;split
  ·split
   ·rfl
   ·rfl
  ·rfl
 split
 ·unfold ZE;split<;>rfl
 ·rfl
theorem FC (W:Wd)(g:Nat)(x:Option zS)(d:Int)(b:Bool)(h:∀y,x=some y→XP y):(doM W g x d b).W.hp=W.hp:=by
 cases x with
 | none=>rfl
 | some x =>
  unfold doM;simp only
  cases Zp x (W.g g).o (W.g g).z with
  | some z=>rfl
  | none=>simp only;rw[Fo _ _ _ _ _ (h x rfl)];rfl
theorem IM {W:Wd}(h:Lone W)(g d:Int):(zG W g d).1.hp=W.hp:=by
 unfold zG;split
 ·simp only
  unfold Dd.end_;split
  ·exact FC _ _ _ _ _ (h.ins g.toNat)
  ·show(doM W g.toNat (W.ins g.toNat) _ _).W.hp=W.hp
   exact FC _ _ _ _ _ (h.ins g.toNat)
 ·rfl
def Wv (W V:Wd):Prop:=∃t,V.out=W.out++t
theorem Wv.DP (W:Wd):Wv W W:=⟨[],by simp⟩
theorem Wv.of {W V:Wd}(h:V.out=W.out):Wv W V:=⟨[],by rw[h];simp⟩
theorem Wv.trans {A B C:Wd}(h:Wv A B)(k:Wv B C):Wv A C:=by
 obtain⟨t,h⟩:=h;obtain⟨u,k⟩:=k;exact⟨t++u,by rw[k,h,List.append_assoc]⟩
theorem Pg (W:Wd)(x:zS)(b:Wt)(s:Bool):(W.fin x b s).out=W.out:=by
 have h:(if((W.yA x).getD b.2.1.toNat (1,0,0)).1=0 then W.put b.1.toNat ((W.yA x).getD b.2.1.toNat (1,0,0)).2.2 b.2.2 else W).out=W.out:=by split<;>rfl
 unfold Wd.fin;simp only
 split
 ·exact h
 ·split
  ·exact h
  ·exact h
theorem Sj (W:Wd)(rd:List Int)(b:Wt)(s:Bool):(goOnM W rd b s).1.out=W.out:=by
 unfold goOnM;simp only
 split
 ·split
  ·exact Pg _ _ _ _
  ·rfl
 ·rfl
theorem RR:∀(l:List Wt) (W:Wd) (rd:List Int),(goOnsM W rd l).1.out=W.out
 | [],W,rd=>rfl
 | r::t,W,rd=>by unfold goOnsM;rw[RR t];exact Sj _ _ _ _
theorem Ik (W:Wd)(rd:List Int)(g:Nat)(x:zS)(k:Zc)(p:Int):∀d,x9 W rd g x k p=some d→d.W.out=W.out:=fun d h=>by
 unfold x9 at h;simp only at h
 split at h
 ·cases h;rfl
 ·split at h
  ·have h:=Option.some.inj h
   rw[←h];simp only
   rw[Pg];split
   ·exact Sj _ _ _ _
   ·rfl
  ·cases h
theorem J1 (W:Wd)(rd:List Int)(g:Nat)(x:zS)(k:Zc)(p:Int):∀d,xU W rd g x k p=some d→d.W.out=W.out:=fun d h=>by
 unfold xU at h;simp only at h
 split at h
 ·have h:=Option.some.inj h
  rw[←h];simp only
  rw[Pg];split
  ·exact Sj _ _ _ _
  ·rfl
 ·cases h
theorem On (W:Wd)(rd:List Int)(g:Nat)(x:zS):(xW W rd g x).W.out=W.out:=by
 unfold xW;cases h:Zw W rd g x 0 with
 | none=>rfl
 | some d =>
  unfold Zw at h;simp only at h
  split at h
  ·exact Ik _ _ _ _ _ _ d h
  ·exact J1 _ _ _ _ _ _ d h
theorem GP (W:Wd)(g:Nat)(x:zS)(d:Int)(b:Bool)(h:XP x):Wv W (zT W g x d b).W:=by
 obtain⟨h1,h2,h3,h4⟩:=h;unfold zT;rw[if_neg h1,if_neg h2,if_neg h3,if_neg h4];split
 ·unfold ZD;simp only;split<;>exact Wv.of rfl
 split
 ·unfold Y6;simp only;split<;>exact Wv.of rfl
 split
 ·exact Wv.of rfl
 split
 ·exact Wv.of (On _ _ _ _)
 split
 ·exact Wv.of (On _ _ _ _)
 split
 ·unfold xN;simp only;split
  ·exact Wv.of rfl
  ·split
   ·exact Wv.of (RR _ _ _)
   ·exact Wv.of rfl
 split
 ·unfold ZR;simp only;split<;>exact Wv.of rfl
 split
 ·unfold xA;simp only;split
  ·split<;>exact Wv.of rfl
  ·exact Wv.of rfl
 split
 ·unfold ZE;split
  ·exact Wv.of rfl
  ·exact⟨_,rfl⟩
 ·exact Wv.of rfl
theorem FN (W:Wd)(g:Nat)(x:Option zS)(d:Int)(b:Bool)(h:∀y,x=some y→XP y):Wv W (doM W g x d b).W:=by
 cases x with
 | none=>exact Wv.of rfl
 | some x =>
  unfold doM;simp only
  cases Zp x (W.g g).o (W.g g).z with
  | some z=>exact Wv.of rfl
  | none=>exact GP (W.step g) g x d b (h x rfl)
theorem Iq {W:Wd}(h:Lone W)(g d:Int):Wv W (zG W g d).1:=by
 unfold zG;split
 ·simp only
  unfold Dd.end_;split
  ·exact FN _ _ _ _ _ (h.ins g.toNat)
  ·exact FN W g.toNat (W.ins g.toNat) _ _ (h.ins g.toNat)
 ·exact Wv.DP W
theorem S9:∀(l:List It) (W:Wd),(wokeM W l).en=W.en
 | [],W=>rfl
 | x::l,W=>by unfold wokeM;exact(S9 l _).trans rfl
theorem RB (W:Wd):(yO W).1.en=W.en:=by
 unfold yO;split
 ·exact S9 _ _
 ·rfl
theorem Mc {B:Nat}{X:Sd}(h:yM B X)(hB:B≤80000)(hen:Vu X.W.en)(m:Nat)(v:Int):(ZC X m v).1.W.ks=X.W.ks∧Vu (ZC X m v).1.W.en:=by
 rcases PO X m v with e|e|⟨-,-,e⟩
 ·rw[e];exact⟨rfl,hen⟩
 ·rw[e];exact⟨h.wf.tick.2.ks,by rw[RB];exact hen⟩
 ·rw[e];exact⟨(h.wf.exec hB _ _).2.ks,IH hen _ _⟩
def vM (W:Wd):Nat→Wd
 | 0=>W
 | k+1=>(zG (vM W k) 0 0).1
def CB (W:Wd):Int:=if W.en=1 then 1 else if W.en=2 then 2 else if Xs W then 3 else 0
def IF (W:Wd):Prop:=Lone W∧W.hp=[]
theorem Om {W:Wd}(h:IF W)(hw:WF 0 W)(hk:W.ks.length≤8):∀k,k≤5000→IF (vM W k)∧WF (9*k) (vM W k)∧(vM W k).ks=W.ks
 | 0,_=>⟨h,hw,rfl⟩
 | k+1,hk2=>by
  obtain⟨⟨h1,h2⟩,h3,h4⟩:=Om h hw hk k (by omega)
  obtain⟨q1,q2⟩:=h3.exec (by omega) 0 0
  refine⟨⟨⟨Gi h1 0 0,fun l hl x hx=>?_⟩,?_⟩,?_,?_⟩
  ·have e:(vM W (k+1)).fs=(vM W k).fs:=q2.fs
   rw[e] at hl;exact h1.2 l hl x hx
  ·show(zG (vM W k) 0 0).1.hp=[]
   rw[IM h1];exact h2
  ·refine WF.mono q1 ?_
   rw[h4];omega
  ·exact q2.ks.trans h4
theorem QK {W:Wd}(h:IF W)(hw:WF 0 W)(hk:W.ks.length≤8)(i:Nat):∀d,i+d≤5000→Wv (vM W i) (vM W (i+d))
 | 0,_=>Wv.DP _
 | d+1,hd=>(QK h hw hk i d (by omega)).trans (Iq (Om h hw hk (i+d) (by omega)).1.1 0 0)
structure JU (W:Wd) (k:Nat) (Y:Sd):Prop where
 j:∃j c,j≤k∧Y.W=(vM W j).ck c∧∀i,i<j→CB (vM W i)=0
 e:Y.W.en≠0→(Y.W.g 0).st=1→(0:Int)∈Y.gl
theorem N4 {W:Wd}(h:W.hp=[])(he:W.en=0):yO W=(W.ck (W.clock+1),[]):=by
 unfold yO;rw[if_pos he];simp only
 rw[h];have e:yW [] ((W.clock:Int)+1)=([],[]):=YO (by simp)
 rw[e];simp only
 unfold wokeM;show(_,_)=_
 congr 1
 unfold Wd.ck;rw[←h]
theorem Gy {W:Wd}(h:IF W)(hw:WF 0 W)(hk:W.ks.length≤8){k B:Nat}{Y:Sd}(hI:JU W k Y)(wf:yM B Y)(hB:B≤80000)(hen:Vu Y.W.en)(hk2:k<5000){m:Nat}{v:Int}(hp:Kq Y m v):JU W (k+1) (ZC Y m v).1:=by
 obtain⟨⟨j,c,hj,hY,hov⟩,he⟩:=hI;have hen0:=Sc hp.1 hen;have hVo:=Om h hw hk j (by omega)
 have hovj:CB (vM W j)=0:=by
  have:=hp.1
  unfold xC at this;rw[hY] at this;exact this
 have hg0:∀m,m<Y.ms.length→(Y.m m).G ≠ -1→(Y.m m).G=0:=fun m hm hG=>by
  obtain⟨q,e1,-,e2⟩:=wf.lets hm hG;have:Y.W.gs.length=1:=by rw[hY];exact hVo.1.1.1
  have:q=0:=by omega
  rw[e1,this];rfl
 refine⟨?_,?_⟩
 ·rcases PO Y m v with e|e|⟨hm,hG,e⟩
  ·exact⟨j,c,by omega,by rw[e];exact hY,hov⟩
  ·refine⟨j,Y.W.clock+1,by omega,?_,hov⟩
   rw[e,N4 (by rw[hY];exact hVo.1.2) hen0,hY]
   rfl
  ·refine⟨j+1,c,by omega,?_,fun i hi=>?_⟩
   ·rw[e,hg0 m (by have:=hp.2.1;omega) hG,hY,Gn hVo.1.1]
    rfl
   ·rcases Nat.lt_succ_iff_lt_or_eq.1 hi with h1|h1
    ·exact hov i h1
    ·rw[h1];exact hovj
 ·intro hn hst
  unfold ZC zZ at hn hst ⊢
  simp only at hn hst ⊢
  split at hn
  ·exact absurd (show(yO Y.W).1.en=0 by rw[RB];exact hen0) hn
  ·rename_i hm
   rw[if_neg hm] at hst ⊢;split at hn
   ·exact absurd (show(holdM Y m).1.W.en=0 by rw[Oa];exact hen0) hn
   ·rename_i hP
    rw[if_neg hP] at hst ⊢;split at hn
    ·exact absurd (show(yG Y m v.toNat).1.W.en=0 by rw[Oq];exact hen0) hn
    ·rename_i hG
     rw[if_neg hG] at hst ⊢;have hG0:=hg0 m (by have:=hp.2.1;omega) hG
     have hW:=Jh Y m v;have hn:(runM Y m v).1.W.en≠0:=hn
     have hst:((runM Y m v).1.W.g 0).st=1:=hst
     show(0:Int)∈(runM Y m v).1.gl
     rw[hW] at hn hst;have hkf:(zG Y.W (Y.m m).G v).2.1=false:=by
      unfold zG at hn ⊢
      split
      ·rename_i hl
       rw[if_pos hl] at hn;simp only at hn ⊢
       unfold YV;simp[hn]
      ·rfl
     unfold runM;simp only
     rw[if_neg (by rw[hkf];simp)]
     simp only
     rw[VP];simp only
     rw[hG0] at hst ⊢;rw[if_pos (by simpa using hst)]
     simp
theorem Jr {W:Wd}(h:IF W)(hw:WF 0 W)(hk:W.ks.length≤8){X:Sd}(hX:X.W=W)(wf:yM 0 X)(hen:W.en=0){k:Nat}{Y:Sd}(hr:OB X k Y)(hk2:k≤4000):JU W k Y∧yM (9*k) Y∧Vu Y.W.en∧Y.W.ks=W.ks:=by
 induction hr with
 | here=>exact⟨⟨⟨0,W.clock,Nat.le_refl _,by rw[hX];rfl,fun i hi=>by omega⟩,fun hn=>absurd (by rw[hX];exact hen) hn⟩,wf,.inl (by rw[hX];exact hen),by rw[hX]⟩
 | step hr hp ih =>
  rename_i k Y m v
  obtain⟨h1,h2,h3,h4⟩:=ih (by omega)
  obtain⟨q1,q2⟩:=Mc h2 (by omega) h3 m v
  refine⟨Gy h hw hk h1 h2 (by omega) h3 (by omega) hp,?_,q2,q1.trans h4⟩
  exact(h2.step (by omega) hp.2.1 (Sc hp.1 h3) hp.2.2).mono (by rw[h4];omega)
theorem Gs {W:Wd}{k1 k2:Nat}{Y Z:Sd}(h1:JU W k1 Y)(h2:JU W k2 Z)(o1:xC Y≠0)(o2:xC Z≠0):∃j c d,Y.W=(vM W j).ck c∧Z.W=(vM W j).ck d:=by
 obtain⟨⟨j,c,-,hY,hov⟩,-⟩:=h1;obtain⟨⟨i,d,-,hZ,hov2⟩,-⟩:=h2;have e1:xC Y=CB (vM W j):=by unfold xC;rw[hY];rfl
 have e2:xC Z=CB (vM W i):=by unfold xC;rw[hZ];rfl
 have:i=j:=by
  rcases Nat.lt_trichotomy i j with h|h|h
  ·exact absurd (hov i h) (by rw[←e2];exact o2)
  ·exact h
  ·exact absurd (hov2 j h) (by rw[←e1];exact o1)
 subst this;exact⟨i,c,d,hY,hZ⟩
theorem QU:∀{l:List Int},l.Nodup→(∀x∈l,x=0)→l=[]∨l=[0]
 | [],_,_=>.inl rfl
 | [x],_,h=>.inr (by rw[h x (by simp)])
 | x::y::t,hn,h=>by
  have h1:=h x (by simp)
  have h2:=h y (by simp)
  rw[h1,h2] at hn;simp at hn
theorem U2 {W:Wd}(h:IF W)(hw:WF 0 W)(hk:W.ks.length≤8){k B:Nat}{Y:Sd}(hI:JU W k Y)(wf:yM B Y)(hk2:k≤4000)(ho:xC Y≠0)(hen:Vu Y.W.en):Y.gl=if(Y.W.g 0).st=1 then[0] else[]:=by
 obtain⟨⟨j,c,hj,hY,-⟩,he⟩:=hI;have hgl:Y.W.gs.length=1:=by rw[hY];exact(Om h hw hk j (by omega)).1.1.1
 have hmem:∀x∈Y.gl,x=0∧(Y.W.g 0).st=1:=fun x hx=>by
  obtain⟨q,e,hs⟩:=(wf.mem x).1 (by unfold Sd.all;exact List.mem_append.2 (.inl hx))
  rcases Nat.eq_zero_or_pos q with h0|h0
  ·rw[h0] at e hs;exact⟨e,hs⟩
  ·rw[Wk (by omega)] at hs
   exact absurd hs (by decide)
 have hnd:Y.gl.Nodup:=by
  have:=wf.nd
  unfold Sd.all at this;exact(List.nodup_append.1 this).1
 split
 ·rename_i hs
  rcases QU hnd (fun x hx=>(hmem x hx).1) with e|e
  ·exfalso
   rcases hen with h0|h0|h0
   ·unfold xC at ho
    rw[if_neg (by omega),if_neg (by omega)] at ho
    have:Xs Y.W=false:=by
     unfold Xs;have hg:Y.W.gs=[Y.W.g 0]:=by
      unfold Wd.g;match hgs:Y.W.gs,hgl with
      | [x],_=>rfl
     rw[hg];simp[hs]
    rw[this] at ho;exact ho rfl
   ·have:=he (by omega) hs;rw[e] at this;simp at this
   ·have:=he (by omega) hs;rw[e] at this;simp at this
  ·exact e
 ·rename_i hs
  match hq:Y.gl with
  | []=>rfl
  | x::t=>exact absurd (hmem x (by rw[hq];simp)).2 hs
theorem Hx {w:World}{a:Option Addr}{len cap:Nat}{zs:List Int}(h:IsRow .u64 w a len cap zs) :
  ∃l:List Nat,l.length=len∧len≤cap∧zt w a (xZ l)∧(∀n∈l,n<18446744073709551616)∧(a=none→len=0∧cap=0):=by
 have h0:a=none→len=0∧cap=0:=by
  intro ha;rcases h with⟨_,h1,h2,_⟩|⟨x,h1,_⟩
  ·exact⟨h1,h2⟩
  ·rw[ha] at h1;cases h1
 obtain⟨h1,h2,h3,h4⟩:=h.cells;refine⟨(zs.take len).map Int.toNat,by rw[List.length_map];exact h3,h1,fun j v hj=>?_,fun n hn=>?_,h0⟩
 ·have hl:j<(zs.take len).length:=by have:=(List.getElem?_eq_some_iff.1 hj).1;simpa [xZ] using this
  obtain⟨b,off,h5,h6,h7⟩:=h4 j hl;have b1:=bounds_u64 h7;have e:(xZ ((zs.take len).map Int.toNat))[j]?=some (.int .u64 (((zs.take len)[j].toNat:Nat):Int)):=by
   unfold xZ;rw[List.map_map,List.getElem?_map,List.getElem?_eq_getElem hl];rfl
  rw[e] at hj;cases hj
  exact⟨b,off,h5,by rw[h6,Int.toNat_of_nonneg b1.1]⟩
 ·obtain⟨z,hz,rfl⟩:=List.mem_map.1 hn
  obtain⟨i,hi,rfl⟩:=List.mem_iff_getElem.1 hz;obtain⟨_,_,_,_,h7⟩:=h4 i hi;have b1:=bounds_u64 h7;omega
end Go.Proofs.YtlkjheheofgdgaaGreat
open Go Go.RowKit Go.Deep Go.WideShapes Go.ChangeShapes
namespace Go.Proofs.YtlkjheheofgdgaaGreat
abbrev CS:=Int×Int×Int
def J3 (w:World)(a:Option Addr)(l:List CS):Prop :=
 ∀i (h:i<l.length),∃b off,a=some ⟨b,off,none⟩∧w.cell? ⟨b,off+i*3,none⟩=some (.int .i64 l[i].1)∧w.cell? ⟨b,off+i*3+1,none⟩=some (.int .i64 l[i].2.1)∧w.cell? ⟨b,off+i*3+2,none⟩=some (.int .i64 l[i].2.2)
def Tn (z:Int):Prop:=-9223372036854775808≤z∧z≤9223372036854775807
def I7 (w:World)(a:Option Addr)(len cap:Nat)(l:List CS):Prop:=len=l.length∧len≤cap∧cap≤maxLen∧J3 w a l∧∀r∈l,Tn r.1∧Tn r.2.1∧Tn r.2.2
theorem JW {α:Type}{n:Nat}{p:Nat→α→Prop}(h:∀i,i<n→∃x,p i x):∃l:List α,l.length=n∧∀i (h:i<l.length),p i l[i]:=by
 have hv:∀i:Fin n,∃x,p i.val x:=fun i=>h i.val i.isLt
 refine⟨List.ofFn fun i:Fin n=>Classical.choose (hv i),by simp,fun i h=>?_⟩
 simp at h
 simp only[List.getElem_ofFn];exact Classical.choose_spec (hv ⟨i,h⟩)
theorem PH {H:Type}{enc:TypeId×Value→H}{P:Program}{w:World}{base:Nat}{spare:Nat→Bool}{held:Bool}{t e:TypeId}{f0 f1 f2:Field}{fuel:Nat}{a:Option Addr}{len cap:Nat}{x:DataW H×List MemPlace}
  (ht:P.underlying t=some (.slice e)) (he:P.underlying e=some (.struct #[f0,f1,f2])) (ce:P.cellsOf e=3) (o0:f0.offset=0) (o1:f1.offset=1) (o2:f2.offset=2) (c0:P.cellsOf f0.type=1) (c1:P.cellsOf f1.type=1) (c2:P.cellsOf f2.type=1)
  (t0:P.underlying f0.type=some (.int .i64)) (t1:P.underlying f1.type=some (.int .i64)) (t2:P.underlying f2.type=some (.int .i64))
  (h:DataW.trod enc P w base spare held fuel t [.slice a len cap]=some x):∃l,I7 w a len cap l:=by
 rcases open_slice ht h with⟨hcs,_⟩|⟨b,l',c',m,n,D,Pl,hcs,_,hl,hm,hmm,_,hi⟩
 ·simp at hcs
  obtain⟨rfl,rfl,rfl⟩:=hcs;exact⟨[],rfl,Nat.le_refl _,Nat.zero_le _,fun i hi=>by simp at hi,fun r hr=>by simp at hr⟩
 ·simp at hcs
  obtain⟨rfl,rfl,rfl⟩:=hcs;have hlm:len≤m:=by rw[hmm];split<;>omega
  obtain⟨l,hll,hat⟩:=JW (p:=fun i (r:CS)=>w.cell? (b.add (i*3))=some (.int .i64 r.1)∧w.cell? (b.add (i*3+1))=some (.int .i64 r.2.1)∧w.cell? (b.add (i*3+2))=some (.int .i64 r.2.2)∧Tn r.1∧Tn r.2.1∧Tn r.2.2) (n:=len) (fun i hil=>by
   obtain⟨cs',h1,h2⟩:=hi i (by omega)
   rw[ce] at h1;obtain⟨_,hlen,hcell⟩:=World.cells?_some h1
   obtain⟨xs,k,hk,hxy,_,hxl,hf⟩:=DataW.trod_struct he h2;match xs,hxl,cs',hlen with
   | [y0,y1,y2],_,[v0,v1,v2],_ =>
    have g0:=hf 0 f0 rfl;have g1:=hf 1 f1 rfl;have g2:=hf 2 f2 rfl;simp[o0,o1,o2,c0,c1,c2] at g0 g1 g2
    have e0:=hcell 0 (by omega)
    have e1:=hcell 1 (by omega)
    have e2:=hcell 2 (by omega)
    rw[Addr.add_add] at e0 e1 e2;obtain⟨z0,q0,_,w0⟩:=DataW.trod_int t0 g0;obtain⟨z1,q1,_,w1⟩:=DataW.trod_int t1 g1;obtain⟨z2,q2,_,w2⟩:=DataW.trod_int t2 g2;simp at q0 q1 q2
    subst q0 q1 q2;exact⟨(z0,z1,z2),by simpa using e0,by simpa using e1,by simpa using e2,bounds_i64 w0,bounds_i64 w1,bounds_i64 w2⟩)
  refine⟨l,hll.symm,hl,hm,fun i h=>?_,fun r hr=>?_⟩
  ·obtain⟨g0,g1,g2,_⟩:=hat i h
   obtain⟨bb,off,spot⟩:=b;obtain rfl:spot=none:=by have:=(hat 0 (by omega)).1;simpa [Addr.add] using World.cell?_spot this
   rw[Go.WideShapes.add_plain] at g0 g1 g2;exact⟨bb,off,rfl,g0,by rw[Nat.add_assoc];exact g1,by rw[Nat.add_assoc];exact g2⟩
  ·obtain⟨i,h,rfl⟩:=List.mem_iff_getElem.1 hr
   exact(hat i h).2.2.2
abbrev C0:=Int×Int×Int×Int
def Jn (k0 k1 k2 k3:IntKind)(w:World)(a:Option Addr)(l:List C0):Prop :=
 ∀i (h:i<l.length),∃b off,a=some ⟨b,off,none⟩∧w.cell? ⟨b,off+i*4,none⟩=some (.int k0 l[i].1)∧w.cell? ⟨b,off+i*4+1,none⟩=some (.int k1 l[i].2.1)∧w.cell? ⟨b,off+i*4+2,none⟩=some (.int k2 l[i].2.2.1)∧w.cell? ⟨b,off+i*4+3,none⟩=some (.int k3 l[i].2.2.2)
def Lt (k0 k1 k2 k3:IntKind)(w:World)(a:Option Addr)(len cap:Nat)(l:List C0):Prop:=len=l.length∧len≤cap∧cap≤maxLen∧Jn k0 k1 k2 k3 w a l∧∀r∈l,(Lit.int k0 r.1).wf=true∧(Lit.int k1 r.2.1).wf=true∧(Lit.int k2 r.2.2.1).wf=true∧(Lit.int k3 r.2.2.2).wf=true
theorem JD {α:Type}{n:Nat}{p:Nat→α→Prop}(h:∀i,i<n→∃x,p i x):∃l:List α,l.length=n∧∀i (h:i<l.length),p i l[i]:=by
 have hv:∀i:Fin n,∃x,p i.val x:=fun i=>h i.val i.isLt
 refine⟨List.ofFn fun i:Fin n=>Classical.choose (hv i),by simp,fun i h=>?_⟩
 simp at h
 simp only[List.getElem_ofFn];exact Classical.choose_spec (hv ⟨i,h⟩)
theorem SO {H:Type}{enc:TypeId×Value→H}{k0 k1 k2 k3:IntKind}{P:Program}{w:World}{base:Nat}{spare:Nat→Bool}{held:Bool}{t e:TypeId}{f0 f1 f2 f3:Field}{fuel:Nat}{a:Option Addr}{len cap:Nat}{x:DataW H×List MemPlace}
  (ht:P.underlying t=some (.slice e)) (he:P.underlying e=some (.struct #[f0,f1,f2,f3])) (ce:P.cellsOf e=4) (o0:f0.offset=0) (o1:f1.offset=1) (o2:f2.offset=2) (o3:f3.offset=3) (c0:P.cellsOf f0.type=1) (c1:P.cellsOf f1.type=1) (c2:P.cellsOf f2.type=1) (c3:P.cellsOf f3.type=1)
  (t0:P.underlying f0.type=some (.int k0)) (t1:P.underlying f1.type=some (.int k1)) (t2:P.underlying f2.type=some (.int k2)) (t3:P.underlying f3.type=some (.int k3))
  (h:DataW.trod enc P w base spare held fuel t [.slice a len cap]=some x):∃l,Lt k0 k1 k2 k3 w a len cap l:=by
 rcases open_slice ht h with⟨hcs,_⟩|⟨b,l',c',m,n,D,Pl,hcs,_,hl,hm,hmm,_,hi⟩
 ·simp at hcs
  obtain⟨rfl,rfl,rfl⟩:=hcs;exact⟨[],rfl,Nat.le_refl _,Nat.zero_le _,fun i hi=>by simp at hi,fun r hr=>by simp at hr⟩
 ·simp at hcs
  obtain⟨rfl,rfl,rfl⟩:=hcs;have hlm:len≤m:=by rw[hmm];split<;>omega
  obtain⟨l,hll,hat⟩:=JD (p:=fun i (r:C0)=>w.cell? (b.add (i*4))=some (.int k0 r.1)∧w.cell? (b.add (i*4+1))=some (.int k1 r.2.1)∧w.cell? (b.add (i*4+2))=some (.int k2 r.2.2.1)∧w.cell? (b.add (i*4+3))=some (.int k3 r.2.2.2)∧(Lit.int k0 r.1).wf=true∧(Lit.int k1 r.2.1).wf=true∧(Lit.int k2 r.2.2.1).wf=true∧(Lit.int k3 r.2.2.2).wf=true) (n:=len) (fun i hil=>by
   obtain⟨cs',h1,h2⟩:=hi i (by omega)
   rw[ce] at h1;obtain⟨_,hlen,hcell⟩:=World.cells?_some h1
   obtain⟨xs,k,hk,hxy,_,hxl,hf⟩:=DataW.trod_struct he h2;match xs,hxl,cs',hlen with
   | [y0,y1,y2,y3],_,[v0,v1,v2,v3],_ =>
    have g0:=hf 0 f0 rfl;have g1:=hf 1 f1 rfl;have g2:=hf 2 f2 rfl;have g3:=hf 3 f3 rfl;simp[o0,o1,o2,o3,c0,c1,c2,c3] at g0 g1 g2 g3
    have e0:=hcell 0 (by omega)
    have e1:=hcell 1 (by omega)
    have e2:=hcell 2 (by omega)
    have e3:=hcell 3 (by omega)
    rw[Addr.add_add] at e0 e1 e2 e3;obtain⟨z0,q0,_,w0⟩:=DataW.trod_int t0 g0;obtain⟨z1,q1,_,w1⟩:=DataW.trod_int t1 g1;obtain⟨z2,q2,_,w2⟩:=DataW.trod_int t2 g2;obtain⟨z3,q3,_,w3⟩:=DataW.trod_int t3 g3;simp at q0 q1 q2 q3
    subst q0 q1 q2 q3;exact⟨(z0,z1,z2,z3),by simpa using e0,by simpa using e1,by simpa using e2,by simpa using e3,w0,w1,w2,w3⟩)
  refine⟨l,hll.symm,hl,hm,fun i h=>?_,fun r hr=>?_⟩
  ·obtain⟨g0,g1,g2,g3,_⟩:=hat i h
   obtain⟨bb,off,spot⟩:=b;obtain rfl:spot=none:=by have:=(hat 0 (by omega)).1;simpa [Addr.add] using World.cell?_spot this
   rw[Go.WideShapes.add_plain] at g0 g1 g2 g3;exact⟨bb,off,rfl,g0,by rw[Nat.add_assoc];exact g1,by rw[Nat.add_assoc];exact g2,by rw[Nat.add_assoc];exact g3⟩
  ·obtain⟨i,h,rfl⟩:=List.mem_iff_getElem.1 hr
   exact(hat i h).2.2.2.2
end Go.Proofs.YtlkjheheofgdgaaGreat
open Go Go.RowKit Go.ChangeShapes Go.WideShapes Go.ChangeAt Go.Deep
set_option maxRecDepth 100000
namespace Go.Proofs.YtlkjheheofgdgaaGreat
section
variable {H:Type} {enc:TypeId×Value→H} {W:World} {base:Nat} {sp:Nat→Bool} {held:Bool}
theorem Wr {P:Program}{t e:TypeId}{fuel:Nat}{V:Value}{x:DataW H×List MemPlace}(ht:P.underlying t=some (.slice e))(h:DataW.trod enc P W base sp held fuel t [V]=some x) :
  ∃a len cap,V=.slice a len cap∧len≤cap∧cap≤maxLen:=by
 rcases DataW.trod_slice ht h with⟨hcs,hx⟩|⟨a,len,cap,elems,rest,n,_,hcs,hx,_,h1,h2,h3,_⟩
 ·simp at hcs
  exact⟨none,0,0,hcs,Nat.le_refl _,Nat.zero_le _⟩
 ·simp at hcs
  exact⟨some a,len,cap,hcs,h1,h2⟩
theorem E6 {fuel:Nat}{a:Option Addr}{len cap:Nat}{x:DataW H×List MemPlace}(h:DataW.trod enc Tryz.prog W base sp held fuel 78 [.slice a len cap]=some x) :
  ∃l:List zS,l.length=len∧xB W a l∧∀y∈l,yh y.2.2.1:=by
 obtain⟨l,h1,_,_,h4,h5⟩:=SO Tryz.underlying78 Tryz.underlying80 (by kernel_rfl) rfl rfl rfl rfl (by kernel_rfl) (by kernel_rfl) (by kernel_rfl) (by kernel_rfl) Tryz.underlying3 Tryz.underlying3 Tryz.underlying3 Tryz.underlying3 h
 exact⟨l,h1.symm,h4,fun y hy=>bounds_i64 (h5 y hy).2.2.1⟩
theorem Fp {fuel:Nat}{V:Value}{x:DataW H×List MemPlace}(h:DataW.trod enc Tryz.prog W base sp held fuel 22 [V]=some x) :
  ∃a len cap,∃l:List (List zS),V=.slice a len cap∧l.length=len∧len≤cap∧cap≤maxLen∧NA W a l∧(∀f∈l,∀y∈f,yh y.2.2.1):=by
 obtain⟨a,len,cap,rfl,h1,h2⟩:=Wr Tryz.underlying22 h;rcases DataW.trod_slice Tryz.underlying22 h with⟨hcs,hx⟩|⟨b,len',cap',elems,rest,n,_,hcs,hx,_,_,_,hel,hat,_⟩
 ·simp at hcs
  obtain⟨rfl,rfl,rfl⟩:=hcs;exact⟨none,0,0,[],rfl,rfl,h1,h2,fun i hi=>by simp at hi,fun f hf=>by simp at hf⟩
 ·simp at hcs
  obtain⟨rfl,rfl,rfl⟩:=hcs;have c1:Tryz.prog.cellsOf 78=1:=by kernel_rfl
  have hv:∀i:Fin len,∃l:List zS,∃ai ci,W.cell? (b.add i.val)=some (.slice ai l.length ci)∧l.length≤ci∧ci≤maxLen∧xB W ai l∧(∀y∈l,yh y.2.2.1):=fun i=>by
   have g:=hat i.val i.isLt;rw[c1,Nat.mul_one,List.getElem?_eq_getElem (by omega:i.val<elems.length)] at g
   obtain⟨cs',g1,g2⟩:=Option.bind_eq_some_iff.1 g;obtain⟨_,hlen,hcell⟩:=World.cells?_some g1
   match cs',hlen with
   | [v],_ =>
    have e0:=hcell 0 (by omega)
    obtain⟨ai,li,ci,rfl,k1,k2⟩:=Wr Tryz.underlying78 g2;obtain⟨l,l1,l2,l3⟩:=E6 g2;subst l1;exact⟨l,ai,ci,by simpa [Addr.add] using e0,k1,k2,l2,l3⟩
  refine⟨some b,len,cap,List.ofFn fun i:Fin len=>Classical.choose (hv i),rfl,by simp,h1,h2,fun i hi=>?_,fun f hf=>?_⟩
  ·simp at hi
   obtain⟨ai,ci,q1,q2,q3,q4,_⟩:=Classical.choose_spec (hv ⟨i,hi⟩)
   simp only[List.getElem_ofFn];obtain⟨bb,off,spot⟩:=b;obtain rfl:spot=none:=by
    obtain⟨_,_,_,g0,_⟩:=hv ⟨0,by omega⟩
    simpa [Addr.add] using World.cell?_spot g0
   exact⟨bb,off,ai,ci,rfl,by rw[←Go.WideShapes.add_plain];exact q1,q2,q3,q4⟩
  ·obtain⟨i,hi,rfl⟩:=List.mem_iff_getElem.1 hf
   simp at hi
   simp only[List.getElem_ofFn];obtain⟨ai,ci,q1,q2,q3,q4,q5⟩:=Classical.choose_spec (hv ⟨i,hi⟩)
   exact q5
theorem Iw {fuel:Nat}{a:Option Addr}{len cap:Nat}{x:DataW H×List MemPlace}(h:DataW.trod enc Tryz.prog W base sp held fuel 23 [.slice a len cap]=some x):∃l:List Int,l.length=len∧yR W a l:=by
 rcases open_ints Tryz.underlying23 Tryz.underlying3 (by kernel_rfl) h with⟨hcs,_⟩|⟨b,l',c',zs,hcs,_,hl,hm,hz,_,hcell,_⟩
 ·simp at hcs
  obtain⟨rfl,rfl,rfl⟩:=hcs;exact⟨[],rfl,fun i hi=>by simp at hi⟩
 ·simp at hcs
  obtain⟨rfl,rfl,rfl⟩:=hcs;have hzl:len≤zs.length:=by rw[hz];split<;>omega
  refine⟨zs.take len,by rw[List.length_take];omega,fun i hi=>?_⟩
  rw[List.length_take] at hi;have g:=hcell i (by omega)
  obtain⟨bb,off,spot⟩:=b;obtain rfl:spot=none:=by simpa [Addr.add] using World.cell?_spot (hcell 0 (by omega))
  rw[Go.WideShapes.add_plain] at g;refine⟨bb,off,rfl,?_⟩
  rw[g];simp[List.getD,List.getElem?_eq_getElem (by omega:i<zs.length)]
theorem Je {fuel:Nat}{a:Option Addr}{len cap:Nat}{x:DataW H×List MemPlace}(h:DataW.trod enc Tryz.prog W base sp held fuel 24 [.slice a len cap]=some x):∃l:List Sx,l.length=len∧Z4 W a l:=by
 obtain⟨l,h1,_,_,h4,_⟩:=PH Tryz.underlying24 Tryz.underlying128 (by kernel_rfl) rfl rfl rfl (by kernel_rfl) (by kernel_rfl) (by kernel_rfl) Tryz.underlying3 Tryz.underlying3 Tryz.underlying3 h
 exact⟨l,h1.symm,h4⟩
theorem isPg_of {r:Reach}{b0:Nat}{v:Value}{d:DataW H}{p:List MemPlace}(hv:Value.okWide Tryz.prog W r b0 26 v)(h:DataW.Trod enc Tryz.prog W base sp held 26 v d p) :
  ∃fa nf fc ca nc cc lk ka nk kc dd,v=.agg #[.slice fa nf fc,.slice ca nc cc,.int .i64 lk,.slice ka nk kc]∧Pc W fa nf fc ca nc cc lk ka nk kc dd:=by
 obtain⟨v0,v1,v2,v3,y0,y1,y2,y3,n,rfl,rfl,_,g0,g1,g2,g3⟩:=Go.Joins.open_agg4 Tryz.underlying26 (by kernel_rfl) (by kernel_rfl) hv h
 obtain⟨fa,nf,fc,fs,rfl,f1,f2,f3,f4,f5⟩:=Fp g0;obtain⟨ca,nc,cc,rfl,c1,c2⟩:=Wr Tryz.underlying23 g1;obtain⟨cs,c4,c5⟩:=Iw g1;obtain⟨lk,e2,_,_⟩:=DataW.trod_int Tryz.underlying3 g2;obtain rfl:v2=.int .i64 lk:=by simpa using e2
 obtain⟨ka,nk,kc,rfl,k1,k2⟩:=Wr Tryz.underlying24 g3;obtain⟨ks,k4,k5⟩:=Je g3;exact⟨fa,nf,fc,ca,nc,cc,lk,ka,nk,kc,⟨fs,cs,lk,ks⟩,rfl,⟨f1,c4,k4,rfl,⟨f2,f3⟩,by omega,by omega,f4,c5,k5,f5⟩⟩
end
end Go.Proofs.YtlkjheheofgdgaaGreat
open Go Go.RowKit
namespace Go.Proofs.YtlkjheheofgdgaaGreat.shunterMachines
theorem C6:True:=by
 have:=@isPg_of
 trivial
theorem EX (n:Nat):(madeCells #[Value.int .u64 0] (n*1)).toList=xZ (List.replicate n 0):=by
 rw[Nat.mul_one,toList_madeCells_one];simp[xZ]
theorem Gq (w:World)(n:Nat)(hn:n≤1000000):∃w1,(Instr.makeSlice 29 (.int .i64 (n:Int)) (.int .i64 (n:Int))).run Tryz.prog w=.ok (.slice (some ⟨w.heap.size,0,none⟩) n n) w1∧zU 1 w1 (some ⟨w.heap.size,0,none⟩) n n (xZ (List.replicate n 0))∧Below w.heap.size w w1:=by
 obtain⟨i0,hi,hz0,hz1,hz2⟩:=info_parts Oz;obtain⟨w1,h1,h2,h3⟩:=run_make_full (P:=Tryz.prog) w w.heap.size 29 33 i0 _ 1 Tryz.underlying29 hi hz0 hz1 .i64 .i64 n (by rw[hz2];omega) (by unfold maxLen;omega) (Nat.le_refl _)
 obtain⟨a,cap,e,hr,hb⟩:=zU.xO h2;simp only[Value.slice.injEq] at e;obtain⟨e1,e2,e3⟩:=e;subst e1;rw[←e3] at hr;rw[show(Value.int .u64 0).cells=#[Value.int .u64 0] from rfl,EX] at hr
 exact⟨w1,h1,hr,(yF h3).YB⟩
def z4:zS:=(0,0,0,0)
def Ld (x:zS):Bool:=x.1==11||x.1==16||x.1==17||x.1==21
theorem Kv {x:zS}(h:Ld x=false):XP x:=by
 unfold Ld at h;simp at h
 exact⟨h.1.1.1,h.1.1.2,h.1.2,h.2⟩
theorem GK:XP z4:=⟨by decide,by decide,by decide,by decide⟩
theorem Cx (nf nc nk:Nat)(lk:Int)(m:Nat):US nf nc nk lk m z4=0∧yh z4.2.2.1:=by
 constructor
 ·unfold US z4
  simp[Lo,loh,Xr]
 ·unfold z4 yh
  simp
def R3 (x:zS):zS:=if Ld x then z4 else x
theorem LA {x:zS}(h:Ld x=false):R3 x=x:=by unfold R3;rw[h];rfl
theorem Of {x:zS}(h:Ld x=true):R3 x=z4:=by unfold R3;rw[h];rfl
theorem L7 (x:zS):XP (R3 x):=by
 cases hb:Ld x
 ·rw[LA hb];exact Kv hb
 ·rw[Of hb];exact GK
theorem Cb {nf nc nk:Nat}{lk:Int}{m:Nat}{l:List zS}(h:Vl nf nc nk lk m l):Vl nf nc nk lk m (l.map R3):=fun x hx=>by
 obtain⟨y,hy,rfl⟩:=List.mem_map.1 hx;unfold R3;split
 ·exact Cx _ _ _ _ _
 ·exact h y hy
def Vd (j:Nat)(l:List zS):List zS:=(l.take j).map R3++l.drop j
theorem OK (j:Nat)(l:List zS):(Vd j l).length=l.length:=by unfold Vd;simp;omega
theorem Lr (l:List zS):Vd 0 l=l:=by unfold Vd;simp
theorem Fu (l:List zS):Vd l.length l=l.map R3:=by unfold Vd;simp
theorem Kn {j:Nat}{l:List zS}(h:j<l.length):(Vd j l)[j]?=some l[j]:=by
 unfold Vd;rw[List.getElem?_append_right (by simp;omega),List.getElem?_drop]
 simp[Nat.min_eq_left (Nat.le_of_lt h)]
theorem RJ {j:Nat}{l:List zS}(h:j<l.length):Vd (j+1) l=(Vd j l).set j (R3 l[j]):=by
 apply List.ext_getElem?
 intro i;unfold Vd;rw[List.getElem?_set]
 by_cases e:j=i
 ·subst e
  rw[if_pos rfl,if_pos (by simp;omega),List.getElem?_append_left (by simp;omega)]
  simp[h]
 ·rw[if_neg e]
  rcases Nat.lt_or_ge i j with h1|h1
  ·rw[List.getElem?_append_left (by simp;omega),List.getElem?_append_left (by simp;omega)]
   simp[h1,Nat.lt_succ_of_lt h1]
  ·rw[List.getElem?_append_right (by simp;omega),List.getElem?_append_right (by simp;omega)]
   simp[Nat.min_eq_left (Nat.le_of_lt h),Nat.min_eq_left (Nat.succ_le_of_lt h)]
   congr 1
   omega
theorem LB:∀(l:List zS) (k:Nat) (h:k<l.length),((((inc l).set (k*4) (.int .i64 0)).set (k*4+1) (.int .i64 0)).set (k*4+2) (.int .i64 0)).set (k*4+3) (.int .i64 0)=inc (l.set k z4)
 | [],k,h=>by simp at h
 | x::l,0,h=>rfl
 | x::l,k+1,h=>by
  have ih:=LB l k (by simpa using h)
  rw[show(k+1)*4=k*4+4 by omega]
  show Value.int .i64 x.1::Value.int .i64 x.2.1::Value.int .i64 x.2.2.1::Value.int .i64 x.2.2.2::((((inc l).set (k*4) _).set (k*4+1) _).set (k*4+2) _).set (k*4+3) _=_
  rw[ih];rfl
theorem Re {α:Type _}{l:List α}{i:Nat}{a:α}(h:l[i]?=some a):l.set i a=l:=by
 obtain⟨h1,h2⟩:=List.getElem?_eq_some_iff.1 h
 rw[←h2];exact List.set_getElem_self h1
theorem E9 {j:Nat}{l:List zS}(h:j<l.length)(hb:Ld l[j]=false):Vd (j+1) l=Vd j l:=by
 rw[RJ h,LA hb];exact Re (Kn h)
theorem Gb {j:Nat}{l:List zS}(h:j<l.length)(hb:Ld l[j]=true):Vd (j+1) l=(Vd j l).set j z4:=by
 rw[RJ h,Of hb]
def Tl (r:Fr):Fr:=⟨r.a,r.c,r.l.map R3⟩
def SI (i:Nat)(rs:List Fr):List Fr:=(rs.take i).map Tl++rs.drop i
theorem CD (j:Nat)(l:List Fr):(SI j l).length=l.length:=by unfold SI;simp;omega
theorem L8 (l:List Fr):SI 0 l=l:=by unfold SI;simp
theorem OD (l:List Fr):SI l.length l=l.map Tl:=by unfold SI;simp
theorem EH {j:Nat}{l:List Fr}(h:j<l.length):(SI j l)[j]?=some l[j]:=by
 unfold SI;rw[List.getElem?_append_right (by simp;omega),List.getElem?_drop]
 simp[Nat.min_eq_left (Nat.le_of_lt h)]
theorem LR {j:Nat}{l:List Fr}(h:j<l.length):(SI j l).set j (Tl l[j])=SI (j+1) l:=by
 apply List.ext_getElem?
 intro i;unfold SI;rw[List.getElem?_set]
 by_cases e:j=i
 ·subst e
  rw[if_pos rfl,if_pos (by simp;omega)]
  symm
  rw[List.getElem?_append_left (by simp;omega)]
  simp[h]
 ·rw[if_neg e]
  rcases Nat.lt_or_ge i j with h1|h1
  ·rw[List.getElem?_append_left (by simp;omega),List.getElem?_append_left (by simp;omega)]
   simp[h1,Nat.lt_succ_of_lt h1]
  ·rw[List.getElem?_append_right (by simp;omega),List.getElem?_append_right (by simp;omega)]
   simp[Nat.min_eq_left (Nat.le_of_lt h),Nat.min_eq_left (Nat.succ_le_of_lt h)]
   congr 1
   omega
theorem Fq (i:Nat)(rs:List Fr):Xy (SI i rs)=Xy rs:=by
 unfold SI Xy;rw[List.map_append,List.map_map];have e:∀l:List Fr,l.map (JV∘Tl)=l.map JV:=fun l=>by
  apply List.map_congr_left
  intro r _;unfold JV Tl;simp
 rw[e,←List.map_append,List.take_append_drop]
theorem Ep {W:Wd}(h:IF W)(hw:WF 0 W)(hk:W.ks.length≤8){k1 k2 B1 B2:Nat}{Y Z:Sd}(I1:JU W k1 Y)(I2:JU W k2 Z)(h1:k1≤300)(h2:k2≤300)(w1:yM B1 Y)(w2:yM B2 Z)(e1:Vu Y.W.en)(e2:Vu Z.W.en) :
  (∃t,Y.W.out=Z.W.out++t∨Z.W.out=Y.W.out++t)∧(xC Y≠0→xC Z≠0→Y.W.out=Z.W.out∧xC Y=xC Z∧Y.W.en=Z.W.en∧Y.W.why=Z.W.why∧Y.gl=Z.gl∧Y.gl.length≤1):=by
 refine⟨?_,fun o1 o2=>?_⟩
 ·obtain⟨⟨j,c,hj,hY,-⟩,-⟩:=I1
  obtain⟨⟨i,d,hi,hZ,-⟩,-⟩:=I2;have q1:Y.W.out=(vM W j).out:=by rw[hY];rfl
  have q2:Z.W.out=(vM W i).out:=by rw[hZ];rfl
  rw[q1,q2];rcases Nat.le_total i j with hij|hij
  ·obtain⟨t,ht⟩:=QK h hw hk i (j-i) (by omega)
   rw[show i+(j-i)=j by omega] at ht
   exact⟨t,.inl ht⟩
  ·obtain⟨t,ht⟩:=QK h hw hk j (i-j) (by omega)
   rw[show j+(i-j)=i by omega] at ht
   exact⟨t,.inr ht⟩
 ·have g1:=U2 h hw hk I1 w1 (by omega) o1 e1
  have g2:=U2 h hw hk I2 w2 (by omega) o2 e2
  obtain⟨j,c,d,hY,hZ⟩:=Gs I1 I2 o1 o2;refine⟨by rw[hY,hZ];rfl,by unfold xC;rw[hY,hZ];rfl,by rw[hY,hZ];rfl,by rw[hY,hZ];rfl,?_,?_⟩
  ·rw[g1,g2,hY,hZ];rfl
  ·rw[g1];split<;>simp
theorem Fw {w0 w:World}{b sp B:Nat}{X:Sd}{R:List zy}(h:Own w0 w (yx b sp X::R))(wf:yM B X) :
  Calls Tryz.prog 21 #[.pointer (some ⟨b,0,none⟩)] w fun r w'=>∃a c,r=.returned (.slice a X.W.out.length c)∧zU 1 w' a c X.W.out.length (zr X.W.out)∧Own w0 w' (yx b sp X::R)∧Below w.heap.size w w':=by
 obtain⟨L,hs⟩:=h.sat;obtain⟨T,Q,hw,-⟩:=hs.world;refine(Cc hw wf.wf).mono (fun r w' hh=>?_)
 obtain⟨a,c,h1,h2,h3,h4⟩:=hh;exact⟨a,c,h1,h2,h.step h4,h4⟩
theorem OM {w0 w:World}{b sp:Nat}{X:Sd}{R:List zy}(h:Own w0 w (yx b sp X::R)) :
  Calls Tryz.prog 20 #[.pointer (some ⟨b,0,none⟩)] w fun r w'=>r=.returned (.pointer (some ⟨b,0,none⟩))∧w'=w:=by
 obtain⟨L,hs⟩:=h.sat;exact Q5 hs
theorem LC {w0 w:World}{b sp B:Nat}{X:Sd}{R:List zy}(h:Own w0 w (yx b sp X::R))(wf:yM B X)(hB:B≤80000) :
  Calls Tryz.prog 11 #[.pointer (some ⟨b,0,none⟩)] w fun r w'=>r=.returned (.int .i64 (xC X))∧Own w0 w' (yx b sp X::R)∧Below w.heap.size w w':=by
 obtain⟨L,hs⟩:=h.sat;exact(Um hs (by have:=wf.wf.g1;omega)).mono (fun r w' hh=>⟨hh.1,h.step hh.2,hh.2⟩)
theorem FB {w0 w:World}{b sp:Nat}{X:Sd}{R:List zy}(h:Own w0 w (yx b sp X::R)) :
  Calls Tryz.prog 25 #[.pointer (some ⟨b,0,none⟩)] w fun r w'=>r=.returned (.tuple #[.int .i64 X.W.en,.int .i64 X.W.why])∧Own w0 w' (yx b sp X::R)∧Below w.heap.size w w':=by
 obtain⟨L,hs⟩:=h.sat;obtain⟨T,Q,hw,-⟩:=hs.world;refine(Fz hw).mono (fun r w' hh=>?_)
 obtain⟨h1,k,rfl⟩:=hh;exact⟨h1,h.step (YX _ _),YX _ _⟩
theorem Ej {w0 w:World}{b sp b2 sp2:Nat}{X X2:Sd}(h:Own w0 w (yx b sp X::yx b2 sp2 X2::[]))(hg:X.gl=X2.gl)(hl:X.gl.length≤1) :
  Calls Tryz.prog 18 #[.pointer (some ⟨b,0,none⟩)] w fun r w'=>∃a c n,r=.returned (.slice a n c)∧Calls Tryz.prog 18 #[.pointer (some ⟨b2,0,none⟩)] w' fun r2 w2=>∃a2 c2,r2=.returned (.slice a2 n c2)∧Calls Tryz.prog 17 #[.slice a n c,.slice a2 n c2] w2 fun r3 w3=>r3=.returned (.int .i64 0)∧Below w0.heap.size w0 w3:=by
 obtain⟨L,hs⟩:=h.sat;refine(Vj hs (by omega)).mono (fun r w' hh=>?_)
 obtain⟨a,c,h1,h2⟩:=hh;refine⟨a,c,_,h1,?_⟩
 have o2:Own w0 w' (yx b2 sp2 X2::yx b sp X::zd 1 a c X.gl.length (zr X.gl)::[]):=h2.to.pick 2 rfl
 obtain⟨L2,hs2⟩:=o2.sat;rw[hg] at hl ⊢;refine(Vj hs2 (by omega)).mono (fun r2 w2 hh2=>?_)
 obtain⟨a2,c2,k1,k2⟩:=hh2;refine⟨a2,c2,k1,?_⟩
 have o3:=k2.to;have r1:=yR.Yf (o3.yZ 3 rfl).cells
 have r2:=yR.Yf (o3.yZ 1 rfl).cells
 rw[hg] at r1;refine(Kc w2 a a2 c c2 X2.gl r1 r2 (by unfold maxLen;omega)).mono (fun r3 w3 hh3=>?_)
 obtain⟨m1,k,rfl⟩:=hh3;exact⟨m1,(o3.step (YX w2 k)).bel⟩
theorem walk (fa:Option Addr)(nf fc:Nat)(ca:Option Addr)(nc cc:Nat)(lk:Int)(ka:Option Addr)(nk kc:Nat)(dd:PD)(p m r s:Int)(a3:Option Addr)(len3 cap3:Nat)(z3:List Int)(w:World)(w0:Pc w fa nf fc ca nc cc lk ka nk kc dd)(wp:(Lit.int .i64 p).wf=true)(wm:(Lit.int .i64 m).wf=true)(wr:(Lit.int .i64 r).wf=true)(ws:(Lit.int .i64 s).wf=true)(w3:IsRow .u64 w a3 len3 cap3 z3) :
  Calls Tryz.prog 5 #[.agg #[.slice fa nf fc,.slice ca nc cc,.int .i64 lk,.slice ka nk kc],.agg #[.int .i64 p,.int .i64 m,.int .i64 r,.int .i64 s],.slice a3 len3 cap3] w fun e w'=>e=.returned (.bool true)∧Below w.heap.size w w':=by
 obtain⟨a,ha⟩:=Sq p 5 (by omega) (by omega)
 obtain⟨b,hb⟩:=Sq m 5 (by omega) (by omega)
 obtain⟨c,hc⟩:=Sq r 5 (by omega) (by omega)
 obtain⟨d,hd⟩:=Sq s 12 (by omega) (by omega)
 obtain⟨np,hnp⟩:∃np:Nat,1+(a:Int)=(np:Int):=⟨1+a,by omega⟩
 obtain⟨nm,hnm⟩:∃nm:Nat,1+(b:Int)=(nm:Int):=⟨1+b,by omega⟩
 obtain⟨rg,hrg⟩:∃rg:Int,2+(c:Int)=rg:=⟨_,rfl⟩
 obtain⟨sl,hsl0⟩:∃sl:Int,1+(d:Int)=sl:=⟨_,rfl⟩
 have KS:Hid (∀wx,Calls Tryz.prog 8 #[.agg #[.int .i64 p,.int .i64 m,.int .i64 r,.int .i64 s]] wx fun e w'=>e=.returned (.agg #[.int .i64 (np:Int),.int .i64 (nm:Int),.int .i64 rg,.int .i64 sl])∧Below wx.heap.size wx w'):=Qq (fun wx=>by
  have h:=PA wx p m r s a b c d ha hb hc hd;rw[hnp,hnm,hrg,hsl0] at h;exact h)
 have ha5:=ha.2.2.2;have hb5:=hb.2.2.2;have hd5:=hd.2.2.2.1;have HCD:Hid ((1≤np∧np≤64)∧(1≤nm∧nm≤64)∧(1≤sl∧sl≤1024)):=Qq ⟨by omega,by omega,by omega⟩
 obtain⟨l,rfl,hlc,hcl,hlu,hn0⟩:=Hx w3;obtain⟨k,hk⟩:∃k:Nat,k=min l.length 300:=⟨_,rfl⟩
 have hkif:(if 300<(l.length:Int) then(300:Int) else(l.length:Int))=(k:Int):=by split<;>omega
 have hkl:k≤l.length:=by omega
 have hk1:k≤300:=by omega
 have hNl:(l.take k).length=k:=by rw[List.length_take];omega
 have hNc:zt w a3 (xZ (l.take k)):=fun j v hj=>by
  refine hcl j v ?_
  unfold xZ at hj ⊢
  rw[List.getElem?_map,List.getElem?_take] at hj
  rw[List.getElem?_map]
  split at hj
  ·exact hj
  ·simp at hj
 have hNu:∀y∈l.take k,y<18446744073709551616:=fun y hy=>hlu y (List.mem_of_mem_take hy)
 have hsl:=fun w=>xS (P:=Tryz.prog) (t:=29) w Tryz.underlying29 (fun w=>by first|rfl|kernel_rfl) a3 l.length cap3 k (by omega)
 have hm0:a3=none→k=0∧cap3=0:=fun h=>by obtain⟨h1,h2⟩:=hn0 h;omega
 generalize hNN:l.take k=nums at *
 have HNS:Hid (zt w a3 (xZ nums)∧nums.length=k∧(∀y∈nums,y<18446744073709551616)∧(a3=none→k=0∧cap3=0)∧k≤300):=Qq ⟨hNc,hNl,hNu,hm0,hk1⟩
 obtain⟨nl,hnl⟩:∃nl,nl=l.length:=⟨_,rfl⟩
 rw[←hnl] at hkif hsl hkl hlc ⊢;have HSL:=Qq (And.intro hsl hkif)
 have HD:=Qq w0;clear wp wm wr ws ha hb hc hd ha5 hb5 hd5 hNc hNl hNu hm0 hNN hcl hlu hn0 w3 hk hnl hsl hkif hnp hnm hkl hk1 hrg hsl0 hlc w0;go_enter Tryz.func5,Tryz.ntmps5
 go_upto_region 1 with fail
 have O0:=Qq (((Own.nil (Below.refl _ w)).alloc [.slice fa nf fc,.slice ca nc cc,.int .i64 lk,.slice ka nk kc] 26 (b:=w.heap.size) rfl).alloc [.int .i64 p,.int .i64 m,.int .i64 r,.int .i64 s] 28 (b:=w.heap.size+1) (by simp))
 generalize hwx:((w.alloc (.cells #[.slice fa nf fc,.slice ca nc cc,.int .i64 lk,.slice ka nk kc] 26)).alloc (.cells #[.int .i64 p,.int .i64 m,.int .i64 r,.int .i64 s] 28))=wX
 have o1:Own w wX (zf (w.heap.size+1) [.int .i64 p,.int .i64 m,.int .i64 r,.int .i64 s]::zf w.heap.size [.slice fa nf fc,.slice ca nc cc,.int .i64 lk,.slice ka nk kc]::[]):=by rw[←hwx];exact O0.out
 have hb1:Below w.heap.size w wX:=by
  rw[←hwx];exact(below_alloc1 w _).alloc (by simp) _
 clear O0 hwx;have HX:=Qq (HD.out.below hb1).Cn;clear HD hb1
 generalize w.heap.size+1=cq at *
 generalize hpq:w.heap.size=pq at *
 have HPQ:=Qq hpq;clear hpq
 obtain⟨x0,-⟩:=o1.zo 1 rfl 0 _ rfl;obtain⟨x1,-⟩:=o1.zo 1 rfl 1 _ rfl;obtain⟨x2,-⟩:=o1.zo 1 rfl 2 _ rfl;obtain⟨x3,-⟩:=o1.zo 1 rfl 3 _ rfl;have O1:=Qq o1;clear o1
 go_wp2_with fail;refine HX.out.mono ?_
 rintro r' wS ⟨pa,pc,rs,qa,qc,cs,ua,uc,ks,lk1,rfl,hrl,hpo,hcj,hfn,hS⟩;clear x0 x1 x2 x3 HX;obtain⟨lk',rfl⟩:∃n:Nat,lk1=(n:Int):=⟨lk1.toNat,by rw[Int.toNat_of_nonneg hpo.2.2.1]⟩
 have HPW:=Qq (And.intro hfn (And.intro hcj (And.intro hrl hpo)));clear hpo hcj hfn hrl
 have o2:Own w wS (CR pa pc qa qc ua uc rs cs ks++(zf cq [.int .i64 p,.int .i64 m,.int .i64 r,.int .i64 s]::zf pq [.slice fa nf fc,.slice ca nc cc,.int .i64 lk,.slice ka nk kc]::[])):=O1.out.Cm hS
 have o3:=o2.alloc (OG pa qa ua rs.length pc cs.length qc ks.length uc lk') 26 (b:=wS.heap.size) rfl
 have O4:Hid (Own w (wS.alloc (.cells (OG pa qa ua rs.length pc cs.length qc ks.length uc lk').toArray 26)) (zf wS.heap.size (OG pa qa ua rs.length pc cs.length qc ks.length uc lk')::(CR pa pc qa qc ua uc rs cs ks++(zf cq [.int .i64 p,.int .i64 m,.int .i64 r,.int .i64 s]::zf pq [.slice fa nf fc,.slice ca nc cc,.int .i64 lk,.slice ka nk kc]::[])))):=Qq o3
 clear o2 o3 hS O1;go_upto_region 2 with fail
 have e0:wS.alloc (.cells #[.slice pa rs.length pc,.slice qa cs.length qc,.int .i64 (lk':Int),.slice ua ks.length uc] 26)=wS.alloc (.cells (OG pa qa ua rs.length pc cs.length qc ks.length uc lk').toArray 26):=rfl
 rw[e0];clear e0;generalize wS.alloc (.cells (OG pa qa ua rs.length pc cs.length qc ks.length uc lk').toArray 26)=wP at *
 generalize wS.heap.size=pb at *;obtain⟨nF,hnF⟩:∃n,n=rs.length:=⟨_,rfl⟩
 obtain⟨x0,-⟩:=O4.out.zo 0 rfl 0 _ rfl;rw[←hnF] at x0;have hnF5:nF≤5:=by rw[hnF];exact HPW.out.2.2.1.2
 have HNF:=Qq hnF;clear hnF
 have O5:Hid (Own w wP (fns (SI 0 rs)++(zd 1 pa pc nF (Xy rs)::zd 1 qa qc cs.length (zr cs)::zd 3 ua uc ks.length (ZU ks)::zf pb (OG pa qa ua nF pc cs.length qc ks.length uc lk')::zf cq [.int .i64 p,.int .i64 m,.int .i64 r,.int .i64 s]::zf pq [.slice fa nf fc,.slice ca nc cc,.int .i64 lk,.slice ka nk kc]::[]))):=Qq (by
  rw[L8];have h4:=O4.out;unfold CR at h4;rw[←HNF.out] at h4;refine h4.perm ?_
  exact(List.perm_append_comm_assoc [zf pb (OG pa qa ua nF pc cs.length qc ks.length uc lk'),zd 1 pa pc nF (Xy rs),zd 1 qa qc cs.length (zr cs),zd 3 ua uc ks.length (ZU ks)] (fns rs) _).trans (((List.perm_append_comm (l₁:=[zf pb (OG pa qa ua nF pc cs.length qc ks.length uc lk')]) (l₂:=[zd 1 pa pc nF (Xy rs),zd 1 qa qc cs.length (zr cs),zd 3 ua uc ks.length (ZU ks)])).append_right _).append_left _))
 clear O4;obtain⟨nC,hnC⟩:∃n,n=cs.length:=⟨_,rfl⟩
 obtain⟨nK,hnK⟩:∃n,n=ks.length:=⟨_,rfl⟩
 rw[←hnC,←hnK] at O5;have HNC:=Qq (And.intro hnC hnK);clear hnC hnK
 have hF1:1≤rs.length:=HPW.out.2.2.1.1
 obtain⟨gb,go_,rfl,-⟩:=((Own.Ze O5.out).yZ 0 rfl).cells 0 _ (TL (rs:=rs) (i:=0) (List.getElem?_eq_getElem (by omega)))
 go_wp2_with fail;clear x0 hF1;go_loopw [9,27] (fun fv iv wr=>∃i:Nat,i≤nF∧iv=.int .i64 i∧Hid (Own w wr (fns (SI i rs)++(zd 1 (some ⟨gb,go_,none⟩) pc nF (Xy rs)::zd 1 qa qc nC (zr cs)::zd 3 ua uc nK (ZU ks)::zf pb (OG (some ⟨gb,go_,none⟩) qa ua nF pc nC qc nK uc lk')::zf cq [.int .i64 p,.int .i64 m,.int .i64 r,.int .i64 s]::zf pq [.slice fa nf fc,.slice ca nc cc,.int .i64 lk,.slice ka nk kc]::[])))) (fun _ iv _=>nF-(intOf iv).toNat)
 case atStart=>exact⟨0,by omega,rfl,O5⟩
 case round =>
  obtain⟨i,hi,rfl,ho⟩:=hrel;by_cases hlt:i<nF
  ·have hlt2:(i:Int)<(nF:Int):=by omega
   have hi0:(0:Int)≤(i:Int):=by omega
   have hir:i<rs.length:=by rw[←HNF.out];exact hlt
   have hfi:=HPW.out.1 rs[i] (List.getElem_mem hir)
   obtain⟨R',h7,hback⟩:=ho.out.Es (EH hir)
   obtain⟨gb2,go2,e2,gx⟩:=((Own.Ze ho.out).yZ 0 rfl).cells i _ (TL (rs:=rs) (List.getElem?_eq_getElem hir))
   obtain⟨rfl,rfl⟩:gb=gb2∧go_=go2:=by
    simp at e2
    exact e2
   clear e2;have HBK:Hid (∀w',Own w w' (zd 4 rs[i].a rs[i].c rs[i].l.length (inc (Vd rs[i].l.length rs[i].l))::R')→Own w w' (fns (SI (i+1) rs)++(zd 1 (some ⟨gb,go_,none⟩) pc nF (Xy rs)::zd 1 qa qc nC (zr cs)::zd 3 ua uc nK (ZU ks)::zf pb (OG (some ⟨gb,go_,none⟩) qa ua nF pc nC qc nK uc lk')::zf cq [.int .i64 p,.int .i64 m,.int .i64 r,.int .i64 s]::zf pq [.slice fa nf fc,.slice ca nc cc,.int .i64 lk,.slice ka nk kc]::[]))):=Qq (fun w' h=>by
    rw[Fu] at h;have h8:=hback w' (Tl rs[i]) (by unfold Oc Tl;simp only[List.length_map];exact h)
    rw[LR hir] at h8;exact h8)
   have H7:Hid (Own w wr (zd 4 rs[i].a rs[i].c rs[i].l.length (inc (Vd 0 rs[i].l))::R')):=Qq (by rw[Lr];exact h7)
   clear hback h7 ho;have hfl:rs[i].l.length≤20:=hfi.2.1
   have HFI:=Qq hfi;clear hfi
   generalize rs[i]=fr at *
   obtain⟨ra,rc,rl⟩:=fr;simp only at gx H7 HBK HFI hfl
   obtain⟨nL,hnL⟩:∃n,n=rl.length:=⟨_,rfl⟩
   rw[←hnL] at gx H7 HBK hfl;have HNL:=Qq hnL;clear hnL
   go_wp2_with fail;go_loopw [10,33] (fun fv iv wr2=>∃j:Nat,j≤nL∧iv=.int .i64 j∧Hid (Own w wr2 (zd 4 ra rc nL (inc (Vd j rl))::R'))) (fun _ iv _=>nL-(intOf iv).toNat)
   case atStart=>exact⟨0,by omega,rfl,H7⟩
   case round =>
    obtain⟨j,hj,rfl,ho⟩:=hrel;by_cases hlj:j<nL
    ·have hlj2:(j:Int)<(nL:Int):=by omega
     have hj0:(0:Int)≤(j:Int):=by omega
     have hjr:j<rl.length:=by rw[←HNL.out];exact hlj
     have hjt:j<(Vd j rl).length:=by rw[OK];exact hjr
     have hat:(Vd j rl)[j]=rl[j]:=by
      have h1:=Kn hjr;rw[List.getElem?_eq_getElem hjt] at h1
      exact Option.some.inj h1
     have hrg:=ho.out.yZ 0 rfl;obtain⟨e0,e1,e2,e3⟩:=Ps (Vd j rl) j hjt
     rw[hat] at e0 e1 e2 e3;obtain⟨rb,ro,rfl,y0⟩:=hrg.cells (j*4) _ e0
     have HY:=Qq (And.intro (E9 hjr) (Gb hjr))
     have cellAt:∀k v,(inc (Vd j rl))[j*4+k]?=some v→wr.cell? ⟨rb,ro+j*4+k,none⟩=some v:=fun k v hk=>by
      obtain⟨b',o',h1,h2⟩:=hrg.cells (j*4+k) v hk
      simp at h1
      rw[h1.1,h1.2,Nat.add_assoc];exact h2
     have y1:=cellAt 1 _ e1;have y2:=cellAt 2 _ e2;have y3:=cellAt 3 _ e3;clear cellAt e0 e1 e2 e3 hat hrg;obtain⟨⟨o,A,B,C⟩,hx⟩:∃x,x=rl[j]:=⟨_,rfl⟩
     rw[←hx] at y0 y1 y2 y3 HY;simp only at y0 y1 y2 y3
     clear hx;go_upto_region 8 with fail
     have o2:=ho.out.alloc [.int .i64 o,.int .i64 A,.int .i64 B,.int .i64 C] 80 (b:=wr.heap.size) rfl
     clear y0 y1 y2 y3 ho;have e0:wr.alloc (.cells #[.int .i64 o,.int .i64 A,.int .i64 B,.int .i64 C] 80)=wr.alloc (.cells [.int .i64 o,.int .i64 A,.int .i64 B,.int .i64 C].toArray 80):=rfl
     try rw[e0]
     clear e0;generalize wr.alloc (.cells [.int .i64 o,.int .i64 A,.int .i64 B,.int .i64 C].toArray 80)=wa at *
     generalize wr.heap.size=bx at *;obtain⟨z0,-⟩:=o2.zo 0 rfl 0 _ rfl;have o3:=o2.drop;have hrg:=o3.yZ 0 rfl;have hst:=fun k (hk:k<4)=>hrg.spot (j*4+k) (by have:=hrg.2.1;omega)
     obtain⟨v0,s0,t0⟩:=hst 0 (by omega)
     obtain⟨v1,s1,t1⟩:=hst 1 (by omega)
     obtain⟨v2,s2,t2⟩:=hst 2 (by omega)
     obtain⟨v3,s3,t3⟩:=hst 3 (by omega)
     have HS:Hid (Own w ((((wa.setCell ⟨rb,ro+j*4,none⟩ (.int .i64 0)).setCell ⟨rb,ro+j*4+1,none⟩ (.int .i64 0)).setCell ⟨rb,ro+j*4+2,none⟩ (.int .i64 0)).setCell ⟨rb,ro+j*4+3,none⟩ (.int .i64 0)) (zd 4 (some ⟨rb,ro,none⟩) rc nL (inc ((Vd j rl).set j z4))::R')):=Qq (by
      have hl:=J5 (Vd j rl)
      rw[OK] at hl;have q:=(((o3.ZG (j*4) (.int .i64 0) (by omega)).ZG (j*4+1) (.int .i64 0) (by rw[List.length_set];omega)).ZG (j*4+2) (.int .i64 0) (by rw[List.length_set,List.length_set];omega)).ZG (j*4+3) (.int .i64 0) (by rw[List.length_set,List.length_set,List.length_set];omega)
      rw[LB (Vd j rl) j hjt] at q
      exact q)
     have O3:=Qq o3;clear o2 o3 hrg hst;have s0:wa.cell? ⟨rb,ro+j*4,none⟩=some v0:=s0
     have s1:wa.cell? ⟨rb,ro+j*4+1,none⟩=some v1:=s1
     have s2:wa.cell? ⟨rb,ro+j*4+2,none⟩=some v2:=s2
     have s3:wa.cell? ⟨rb,ro+j*4+3,none⟩=some v3:=s3
     have t0:wa.frozen? ⟨rb,ro+j*4,none⟩=false:=t0
     have t1:wa.frozen? ⟨rb,ro+j*4+1,none⟩=false:=t1
     have t2:wa.frozen? ⟨rb,ro+j*4+2,none⟩=false:=t2
     have t3:wa.frozen? ⟨rb,ro+j*4+3,none⟩=false:=t3
     have hops:(Ld (o,A,B,C)=true∧((o==11)=true∨(o==11)=false∧(o==16)=true∨(o==11)=false∧(o==16)=false∧(o==17)=true∨(o==11)=false∧(o==16)=false∧(o==17)=false∧(o==21)=true))∨(Ld (o,A,B,C)=false∧(o==11)=false∧(o==16)=false∧(o==17)=false∧(o==21)=false):=by
      unfold Ld;simp only
      cases (o==11)<;>cases (o==16)<;>cases (o==17)<;>cases (o==21)<;>simp
     rcases hops with⟨hb,hops⟩|⟨hb,b1,b2,b3,b4⟩
     ·have HN:Hid (Own w ((((wa.setCell ⟨rb,ro+j*4,none⟩ (.int .i64 0)).setCell ⟨rb,ro+j*4+1,none⟩ (.int .i64 0)).setCell ⟨rb,ro+j*4+2,none⟩ (.int .i64 0)).setCell ⟨rb,ro+j*4+3,none⟩ (.int .i64 0)) (zd 4 (some ⟨rb,ro,none⟩) rc nL (inc (Vd (j+1) rl))::R')):=Qq (by rw[HY.out.2 hb];exact HS.out)
      clear hb HS O3 HY;rcases hops with b1|⟨b1,b2⟩|⟨b1,b2,b3⟩|⟨b1,b2,b3,b4⟩
      ·go_wp2
       exact⟨⟨j+1,by omega,by go_num,HN⟩,by simp[intOf];omega⟩
      ·go_wp2
       exact⟨⟨j+1,by omega,by go_num,HN⟩,by simp[intOf];omega⟩
      ·go_wp2
       exact⟨⟨j+1,by omega,by go_num,HN⟩,by simp[intOf];omega⟩
      ·go_wp2
       exact⟨⟨j+1,by omega,by go_num,HN⟩,by simp[intOf];omega⟩
     ·have HN:Hid (Own w wa (zd 4 (some ⟨rb,ro,none⟩) rc nL (inc (Vd (j+1) rl))::R')):=Qq (by rw[HY.out.1 hb];exact O3.out)
      clear hb HS O3 HY s0 s1 s2 s3 t0 t1 t2 t3;go_wp2;exact⟨⟨j+1,by omega,by go_num,HN⟩,by simp[intOf];omega⟩
    ·obtain rfl:nL=j:=by omega
     have hge:¬((nL:Int)<(nL:Int)):=by omega
     have HN:=Qq (HBK.out _ ho.out)
     clear ho HBK;go_wp2;exact⟨⟨i+1,by omega,by go_num,HN⟩,by simp[intOf];omega⟩
  ·obtain rfl:nF=i:=by omega
   have hge:¬((nF:Int)<(nF:Int)):=by omega
   have hall:SI nF rs=rs.map Tl:=by rw[HNF.out,OD]
   have h9:=ho.out;rw[hall,←Fq rs.length rs,OD] at h9;have hfl:(LX (rs.map Tl) cs lk' ks).fs.length=nF:=by
    show((rs.map Tl).map (·.l)).length=nF
    rw[List.length_map,List.length_map,HNF.out]
   have hFN:∀l∈(LX (rs.map Tl) cs lk' ks).fs,(1≤l.length∧l.length≤20)∧Vl rs.length cs.length ks.length (lk':Int) l.length l∧∀x∈l,XP x:=fun l hl=>by
    obtain⟨r1,hr1,rfl⟩:=List.mem_map.1 hl;obtain⟨r0,hr0,rfl⟩:=List.mem_map.1 hr1;obtain⟨q1,q2,q3⟩:=HPW.out.1 r0 hr0;refine⟨⟨by show 1≤(r0.l.map R3).length;rw[List.length_map];exact q1,by show(r0.l.map R3).length≤20;rw[List.length_map];exact q2⟩,?_,fun x hx=>?_⟩
    ·show Vl _ _ _ _ (r0.l.map R3).length (r0.l.map R3)
     rw[List.length_map];exact Cb q3
    ·obtain⟨y,-,rfl⟩:=List.mem_map.1 (show x∈r0.l.map R3 from hx)
     exact L7 y
   have hpw:PW (LX (rs.map Tl) cs lk' ks).fs ks cs.length lk':=DS (by rw[hfl,HNF.out];exact HPW.out.2.2.1) HPW.out.2.2.2 HPW.out.2.1 (fun l hl=>by
    obtain⟨q1,q2,-⟩:=hFN l hl;rw[hfl,HNF.out];exact⟨q1.1,q1.2,q2⟩)
   have hpat:FG wr (some ⟨gb,go_,none⟩) qa ua (LX (rs.map Tl) cs lk' ks):=⟨Own.Da (As:=[]) h9 ((Own.Ze h9).yZ 0 rfl),yR.Yf ((Own.Ze h9).yZ 1 rfl).cells,Z4.Yf ((Own.Ze h9).yZ 2 rfl).cells⟩
   obtain⟨x0,-⟩:=(Own.Ze h9).zo 3 rfl 0 _ rfl
   obtain⟨x1,-⟩:=(Own.Ze h9).zo 3 rfl 1 _ rfl
   obtain⟨x2,-⟩:=(Own.Ze h9).zo 3 rfl 2 _ rfl
   obtain⟨x3,-⟩:=(Own.Ze h9).zo 3 rfl 3 _ rfl
   have O7:=Qq (Own.Ze h9).drop.drop.drop.drop
   have HM:=Qq (And.intro hpw (And.intro hFN hfl))
   have hown:=Kp (some ⟨gb,go_,none⟩) pc qa qc ua uc (LX (rs.map Tl) cs lk' ks) wr hpat (by rw[hfl];omega) (fun f hf=>by have:=(hFN f hf).1;omega) (by show cs.length≤_;have:=HPW.out.2.2.2.1;omega) (by show ks.length≤_;have:=HPW.out.2.2.2.2.1;omega)
   rw[hfl] at hown;have ec:(LX (rs.map Tl) cs lk' ks).cs.length=nC:=HNC.out.1.symm
   have ek:(LX (rs.map Tl) cs lk' ks).ks.length=nK:=HNC.out.2.symm
   have el:(LX (rs.map Tl) cs lk' ks).lk=(lk':Int):=rfl
   rw[ec,ek,el] at hown;unfold pv at hown;have HOW:=Qq hown;have HSZ:Hid (cs.length≤4∧ks.length≤8∧lk'≤3):=Qq ⟨HPW.out.2.2.2.1,HPW.out.2.2.2.2.1,by have:=HPW.out.2.2.2.2.2.2.1;omega⟩
   clear hown hpat hpw hFN h9 ho hall hge hi ec ek el hfl HPW;have HDD:Hid ((LX (rs.map Tl) cs lk' ks).cs=cs∧(LX (rs.map Tl) cs lk' ks).ks=ks):=Qq ⟨rfl,rfl⟩
   generalize LX (rs.map Tl) cs lk' ks=D at *
   go_wp2_with fail;refine HOW.out.mono ?_
   rintro rr wo ⟨fo,fk,co,ck,ko,kk,rfl,hpat,hbo,hk0⟩;clear HOW x0 x1 x2 x3;have o8:=(O7.out.step hbo).alloc (OG fo co ko nF fk nC ck nK kk lk') 65 (b:=wo.heap.size) rfl
   have hpa2:=hpat.below (below_alloc1 wo (.cells (OG fo co ko nF fk nC ck nK kk lk').toArray 65))
   clear hpat O7 hbo;go_upto_region 13 with fail
   have e0:wo.alloc (.cells #[.slice fo nF fk,.slice co nC ck,.int .i64 (lk':Int),.slice ko nK kk] 65)=wo.alloc (.cells (OG fo co ko nF fk nC ck nK kk lk').toArray 65):=rfl
   rw[e0];clear e0;generalize wo.alloc (.cells (OG fo co ko nF fk nC ck nK kk lk').toArray 65)=wq at *
   generalize wo.heap.size=ob at *;have HBQ:=Qq (o8.bel)
   have HQ:Hid (∃fr,∀wx,Below wq.heap.size wq wx→(wx.cell? ⟨ob,0,none⟩=some (.slice fo nF fk)∧wx.cell? ⟨ob,1,none⟩=some (.slice co nC ck)∧wx.cell? ⟨ob,2,none⟩=some (.int .i64 (lk':Int))∧wx.cell? ⟨ob,3,none⟩=some (.slice ko nK kk)∧wx.cell? ⟨cq,0,none⟩=some (.int .i64 p)∧wx.cell? ⟨cq,1,none⟩=some (.int .i64 m)∧wx.cell? ⟨cq,2,none⟩=some (.int .i64 r)∧wx.cell? ⟨cq,3,none⟩=some (.int .i64 s))∧YU wx fo fr D.fs co cs ko kk ks∧zt wx a3 (xZ nums)):=Qq (by
    obtain⟨hd1,hd2⟩:=HDD.out;obtain⟨fr,hpr⟩:=Nk hpa2 hk0 (fun l hl=>by have:=(HM.out.2.1 l hl).1;omega) (by rw[HM.out.2.2];omega) (by rw[hd1];have:=HSZ.out;omega) (by rw[hd2];have:=HSZ.out;omega)
    rw[hd1,hd2] at hpr;refine⟨fr,fun wx hb=>⟨⟨zj (o8.zo 0 rfl 0 _ rfl).1 hb,zj (o8.zo 0 rfl 1 _ rfl).1 hb,zj (o8.zo 0 rfl 2 _ rfl).1 hb,zj (o8.zo 0 rfl 3 _ rfl).1 hb,zj (o8.zo 1 rfl 0 _ rfl).1 hb,zj (o8.zo 1 rfl 1 _ rfl).1 hb,zj (o8.zo 1 rfl 2 _ rfl).1 hb,zj (o8.zo 1 rfl 3 _ rfl).1 hb⟩,hpr.below hb,(HNS.out.1.below o8.bel).below hb⟩⟩)
   clear o8 hpa2 hk0;obtain⟨hsl,hkif⟩:=HSL.out;clear HSL;have hmin:min (nl:Int) 300=(k:Int):=by rw[←hkif];split<;>omega
   go_upto_region 14 with fail
   try rw[hkif]
   try rw[hmin]
   obtain⟨fr,hqa⟩:=HQ.out;have HB:=Qq hqa;clear hqa HQ
   have HRN:∀(nx mx:Nat) (ring sx:Int) (na:Option Addr) (ncap:Nat) (ns:List Nat) (wx:World),(1≤nx∧nx≤64)→(1≤mx∧mx≤64)→(1≤sx∧sx≤1024)→(na=none→ns.length=0∧ncap=0)→ns.length≤300→(∀n∈ns,n<18446744073709551616)→∀R:List zy,Own wq wx R→(∀(wy:World) (Q:List zy),Own wq wy (Q++R)→zt wy na (xZ ns)) →
     Calls Tryz.prog 23 #[.agg #[.slice fo nF fk,.slice co nC ck,.int .i64 (lk':Int),.slice ko nK kk],.agg #[.int .i64 (nx:Int),.int .i64 (mx:Int),.int .i64 ring,.int .i64 sx],.slice na ns.length ncap,.int .i64 300] wx
      fun r w'=>∃(bs sp kq B:Nat) (Y:Sd),r=.returned (.pointer (some ⟨bs,0,none⟩))∧(JU (xu D.fs ks cs lk') kq Y∧kq≤300∧yM B Y∧B≤3000∧Vu Y.W.en)∧Own wq w' (yx bs sp Y::R):=fun nx mx ring sx na ncap ns wx h1 h2 h3 h4 h5 h6 R ho hn=>by
    have hvo:IF (xu D.fs ks cs lk'):=⟨⟨rfl,fun l hl x hx=>(HM.out.2.1 l hl).2.2 x hx⟩,rfl⟩
    have hmr:∀{kq:Nat} {Y:Sd},OB (xX (xu D.fs ks cs lk') nx mx ring sx) kq Y→kq≤4000→JU (xu D.fs ks cs lk') kq Y∧yM (9*kq) Y∧Vu Y.W.en∧Y.W.ks=(xu D.fs ks cs lk').ks:=fun hr hk=>Jr hvo (TM HM.out.1) HSZ.out.2.1 rfl (KV HM.out.1 h1 h2 h3) rfl hr hk
    have hrun:=N7 ho na ncap 300 ns fo fk fr D.fs co ck cs lk' ko kk ks (fun wy Q hy=>⟨(HB.out wy hy.bel).2.1,hn wy Q hy⟩) (by have:=HSZ.out;omega) nx mx ring sx (by omega) (by omega) h4 (by omega) h6 (by omega) (fun kq Y hr hk=>by
     obtain⟨q1,q2,q3,q4⟩:=hmr hr (by omega)
     exact⟨⟨9*kq,by omega,q2⟩,q3⟩)
    rw[HM.out.2.2,←HNC.out.1,←HNC.out.2] at hrun;refine hrun.mono (fun r w' hh=>?_)
    obtain⟨bs,sp,kq,Y,rfl,hr,hk,ho2⟩:=hh;obtain⟨q1,q2,q3,q4⟩:=hmr hr (by omega)
    exact⟨bs,sp,kq,9*kq,Y,rfl,⟨q1,hk,q2,by omega,q3⟩,ho2⟩
   have HRUN:=Qq HRN;clear HRN
   clear hsl hkif hmin;have o0:=(Own.nil (Below.refl wq.heap.size wq)).step (zg wq)
   refine yd (fun wx=>wx.cell? ⟨ob,0,none⟩=some (.slice fo nF fk)∧wx.cell? ⟨ob,1,none⟩=some (.slice co nC ck)∧wx.cell? ⟨ob,2,none⟩=some (.int .i64 (lk':Int))∧wx.cell? ⟨ob,3,none⟩=some (.slice ko nK kk)∧wx.cell? ⟨cq,0,none⟩=some (.int .i64 p)∧wx.cell? ⟨cq,1,none⟩=some (.int .i64 m)∧wx.cell? ⟨cq,2,none⟩=some (.int .i64 r)∧wx.cell? ⟨cq,3,none⟩=some (.int .i64 s)) 6 (Array.replicate 6 false) (by kernel_rfl) (by kernel_rfl) ?_
   generalize wq.drew=w1 at *;refine zq 0 2 _ (Qj 6 3) 4 (by kernel_rfl) za ((HB.out _ o0.bel).1) (by kernel_rfl) ?_
   simp only[QX,QV,QJ];(repeat((first|refine Qx (h:=?_)|refine Qv (h:=?_));simp only[Act.put,QW,QY,QZ]));refine zb ?_;refine zq 3 1 _ (Qj 6 11) 3 (by kernel_rfl) za ((HB.out _ o0.bel).1) (by kernel_rfl) ?_
   simp only[QX,QV,QQ,QJ];(repeat((first|refine Qx (h:=?_)|refine Qv (h:=?_));simp only[Act.put,QW,QY,QZ]));refine zb ?_;refine zn 2 _ (Qj 6 15) 2 (by kernel_rfl) (fun K hK=>?_)
   have HKK:=Qq hK;clear hK;simp only[QQ,QJ];refine zc (by rfl) ?_;go_simp;refine(KS.out _).mono ?_
   rintro rr w2 ⟨rfl,hb2⟩;have o1:=o0.step hb2;clear o0 hb2;refine HKK.out _ _ ((HB.out _ o1.bel).1) ?_
   clear HKK K;have hr1:=HRUN.out np nm rg sl a3 cap3 nums w2 HCD.out.1 HCD.out.2.1 HCD.out.2.2 (by rw[HNS.out.2.1];exact HNS.out.2.2.2.1) (by rw[HNS.out.2.1];exact HNS.out.2.2.2.2) HNS.out.2.2.1 [] o1 (fun wy Q hy=>(HB.out wy hy.bel).2.2)
   rw[HNS.out.2.1] at hr1;have HR1:=Qq hr1;clear hr1
   refine zn 4 _ (Qj 6 31) 1 (by kernel_rfl) (fun K hK=>?_)
   have HKK:=Qq hK;clear hK;simp only[QQ,QJ];refine zc (by rfl) ?_;go_simp;refine HR1.out.mono ?_
   rintro rr w3 ⟨bs,sp,k1,B1,Y,rfl,hA,o2⟩;clear HR1 o1;refine HKK.out _ _ ((HB.out _ o2.bel).1) ?_
   clear HKK K;refine zq 5 1 _ (Qj 6 63) 0 (by kernel_rfl) za ((HB.out _ o2.bel).1) (by kernel_rfl) ?_
   simp only[QX,QV,QQ,QJ];(repeat((first|refine Qx (h:=?_)|refine Qv (h:=?_));simp only[Act.put,QW,QY,QZ]));refine zb ?_;refine wpAnyH_done (by kernel_rfl) (NoPanic.normal ?_) _
   have HA:=Qq hA;clear hA
   go_upto_region 15 with fail
   have o3:=o2.step (zg w3)
   clear o2;refine yd (fun wx=>wx.cell? ⟨ob,0,none⟩=some (.slice fo nF fk)∧wx.cell? ⟨ob,1,none⟩=some (.slice co nC ck)∧wx.cell? ⟨ob,2,none⟩=some (.int .i64 (lk':Int))∧wx.cell? ⟨ob,3,none⟩=some (.slice ko nK kk)∧wx.cell? ⟨cq,0,none⟩=some (.int .i64 p)∧wx.cell? ⟨cq,1,none⟩=some (.int .i64 m)∧wx.cell? ⟨cq,2,none⟩=some (.int .i64 r)∧wx.cell? ⟨cq,3,none⟩=some (.int .i64 s)) 5 (Array.replicate 5 false) (by kernel_rfl) (by kernel_rfl) ?_
   generalize w3.drew=w4 at *;refine zq 0 2 _ #[true,true,false,false,false] 3 (by kernel_rfl) za ((HB.out _ o3.bel).1) (by kernel_rfl) ?_
   simp only[QX,QV,QJ];(repeat((first|refine Qx (h:=?_)|refine Qv (h:=?_));simp only[Act.put,QW,QY,QZ]));refine zb ?_;obtain⟨w5,hmk,hmr,hmB⟩:=Gq w4 300 (by omega)
   have hz1:(List.replicate 300 0:List Nat).length=300:=List.length_replicate
   have hz2:∀n∈(List.replicate 300 0:List Nat),n<18446744073709551616:=fun n hn=>by
    rw[List.eq_of_mem_replicate hn];decide
   generalize (List.replicate 300 0:List Nat)=zs at *
   have o4:=o3.add hmB (A:=zd 1 (some ⟨w4.heap.size,0,none⟩) 300 300 (xZ zs)) (F:=[w4.heap.size]) ⟨rfl,hmr⟩ (by intro x hx;simp at hx;omega)
   rw[show((300:Nat):Int)=300 from rfl] at hmk
   have O4:=Qq o4;clear hmr hmB o4 o3;refine zn 2 _ #[true,true,true,false,false] 2 (by kernel_rfl) (fun K hK=>?_)
   have HKK:=Qq hK;clear hK;simp only[QQ,QJ];refine zc (by rfl) ?_;go_simp;refine HKK.out _ _ ((HB.out _ O4.out.bel).1) ?_
   clear HKK K;clear hmk;generalize w4.heap.size=qn at *;have hr2:=HRUN.out 1 1 2 1000 (some ⟨qn,0,none⟩) 300 zs w5 (by omega) (by omega) (by omega) (by simp) (by rw[hz1];omega) hz2 _ O4.out (fun wy Q hy=>((Own.Ze hy).yZ 0 rfl).cells)
   rw[hz1,show((1:Nat):Int)=1 from rfl] at hr2
   have HR2:=Qq hr2;clear hr2
   refine zn 3 _ #[true,true,true,true,false] 1 (by kernel_rfl) (fun K hK=>?_)
   have HKK:=Qq hK;clear hK;simp only[QQ,QJ];refine zc (by rfl) ?_;go_simp;refine HR2.out.mono ?_
   rintro rr w6 ⟨bs2,sp2,k2,B2,Y2,rfl,hA2,o6⟩;clear HR2 O4 hz1 hz2;refine HKK.out _ _ ((HB.out _ o6.bel).1) ?_
   clear HKK K;refine zq 4 1 _ #[true,true,true,true,true] 0 (by kernel_rfl) za ((HB.out _ o6.bel).1) (by kernel_rfl) ?_
   simp only[QX,QV,QQ,QJ];(repeat((first|refine Qx (h:=?_)|refine Qv (h:=?_));simp only[Act.put,QW,QY,QZ]));refine zb ?_;refine wpAnyH_done (by kernel_rfl) (NoPanic.normal ?_) _
   have HA2:=Qq hA2;clear hA2
   have H6:Hid (Own wq w6 (yx bs2 sp2 Y2::yx bs sp Y::[])):=Qq ((o6.perm (List.Perm.swap _ _ _)).drop)
   clear o6;have hvo:IF (xu D.fs ks cs lk'):=⟨⟨rfl,fun l hl x hx=>(HM.out.2.1 l hl).2.2 x hx⟩,rfl⟩
   obtain⟨a1,a2,a3',a4,a5⟩:=HA.out;obtain⟨c1,c2,c3,c4,c5⟩:=HA2.out;have hend:=Ep hvo (TM HM.out.1) HSZ.out.2.1 a1 c1 a2 c2 a3' c3 a5 c5
   obtain⟨x,hx⟩:∃x,x=Y.W.out:=⟨_,rfl⟩
   obtain⟨y,hy⟩:∃y,y=Y2.W.out:=⟨_,rfl⟩
   obtain⟨s1,hs1⟩:∃s,s=xC Y:=⟨_,rfl⟩
   obtain⟨s2,hs2⟩:∃s,s=xC Y2:=⟨_,rfl⟩
   obtain⟨e1,he1⟩:∃s,s=Y.W.en:=⟨_,rfl⟩
   obtain⟨e2,he2⟩:∃s,s=Y2.W.en:=⟨_,rfl⟩
   obtain⟨y1,hy1⟩:∃s,s=Y.W.why:=⟨_,rfl⟩
   obtain⟨y2,hy2⟩:∃s,s=Y2.W.why:=⟨_,rfl⟩
   rw[←hx,←hy,←hs1,←hs2,←he1,←he2,←hy1,←hy2] at hend;have sw:∀{wx:World},Own wq wx (yx bs sp Y::yx bs2 sp2 Y2::[])→Own wq wx (yx bs2 sp2 Y2::yx bs sp Y::[]):=fun h=>h.perm (List.Perm.swap _ _ _)
   have ws:∀{wx:World},Own wq wx (yx bs2 sp2 Y2::yx bs sp Y::[])→Own wq wx (yx bs sp Y::yx bs2 sp2 Y2::[]):=fun h=>h.perm (List.Perm.swap _ _ _)
   have HW1:Hid (∀wx,Own wq wx (yx bs sp Y::yx bs2 sp2 Y2::[])→Calls Tryz.prog 20 #[.pointer (some ⟨bs,0,none⟩)] wx fun r w'=>r=.returned (.pointer (some ⟨bs,0,none⟩))∧w'=wx):=Qq (fun wx h=>OM h)
   have HW2:Hid (∀wx,Own wq wx (yx bs sp Y::yx bs2 sp2 Y2::[])→Calls Tryz.prog 20 #[.pointer (some ⟨bs2,0,none⟩)] wx fun r w'=>r=.returned (.pointer (some ⟨bs2,0,none⟩))∧w'=wx):=Qq (fun wx h=>OM (sw h))
   have HO1:Hid (∀wx,Own wq wx (yx bs sp Y::yx bs2 sp2 Y2::[])→Calls Tryz.prog 21 #[.pointer (some ⟨bs,0,none⟩)] wx fun r w'=>∃a c,r=.returned (.slice a x.length c)∧zU 1 w' a c x.length (zr x)∧Own wq w' (yx bs sp Y::yx bs2 sp2 Y2::[])∧Below wx.heap.size wx w'):=Qq (fun wx h=>by rw[hx];exact Fw h a3')
   have HO2:Hid (∀wx,Own wq wx (yx bs sp Y::yx bs2 sp2 Y2::[])→Calls Tryz.prog 21 #[.pointer (some ⟨bs2,0,none⟩)] wx fun r w'=>∃a c,r=.returned (.slice a y.length c)∧zU 1 w' a c y.length (zr y)∧Own wq w' (yx bs sp Y::yx bs2 sp2 Y2::[])∧Below wx.heap.size wx w'):=Qq (fun wx h=>by
    rw[hy];refine(Fw (sw h) c3).mono (fun r w' hh=>?_)
    obtain⟨a,c,h1,h2,h3,h4⟩:=hh;exact⟨a,c,h1,h2,ws h3,h4⟩)
   have HS1:Hid (∀wx,Own wq wx (yx bs sp Y::yx bs2 sp2 Y2::[])→Calls Tryz.prog 11 #[.pointer (some ⟨bs,0,none⟩)] wx fun r w'=>r=.returned (.int .i64 s1)∧Own wq w' (yx bs sp Y::yx bs2 sp2 Y2::[])):=Qq (fun wx h=>by
    rw[hs1];exact(LC h a3' (by omega)).mono (fun r w' hh=>⟨hh.1,hh.2.1⟩))
   have HS2:Hid (∀wx,Own wq wx (yx bs sp Y::yx bs2 sp2 Y2::[])→Calls Tryz.prog 11 #[.pointer (some ⟨bs2,0,none⟩)] wx fun r w'=>r=.returned (.int .i64 s2)∧Own wq w' (yx bs sp Y::yx bs2 sp2 Y2::[])):=Qq (fun wx h=>by
    rw[hs2];exact(LC (sw h) c3 (by omega)).mono (fun r w' hh=>⟨hh.1,ws hh.2.1⟩))
   have HE1:Hid (∀wx,Own wq wx (yx bs sp Y::yx bs2 sp2 Y2::[])→Calls Tryz.prog 25 #[.pointer (some ⟨bs,0,none⟩)] wx fun r w'=>r=.returned (.tuple #[.int .i64 e1,.int .i64 y1])∧Own wq w' (yx bs sp Y::yx bs2 sp2 Y2::[])):=Qq (fun wx h=>by
    rw[he1,hy1];exact(FB h).mono (fun r w' hh=>⟨hh.1,hh.2.1⟩))
   have HE2:Hid (∀wx,Own wq wx (yx bs sp Y::yx bs2 sp2 Y2::[])→Calls Tryz.prog 25 #[.pointer (some ⟨bs2,0,none⟩)] wx fun r w'=>r=.returned (.tuple #[.int .i64 e2,.int .i64 y2])∧Own wq w' (yx bs sp Y::yx bs2 sp2 Y2::[])):=Qq (fun wx h=>by
    rw[he2,hy2];exact(FB (sw h)).mono (fun r w' hh=>⟨hh.1,ws hh.2.1⟩))
   have HG1:Hid (s1≠0→s2≠0→∀wx,Own wq wx (yx bs sp Y::yx bs2 sp2 Y2::[])→Calls Tryz.prog 18 #[.pointer (some ⟨bs,0,none⟩)] wx fun r w'=>∃a c n,r=.returned (.slice a n c)∧Calls Tryz.prog 18 #[.pointer (some ⟨bs2,0,none⟩)] w' fun r2 w2=>∃a2 c2,r2=.returned (.slice a2 n c2)∧Calls Tryz.prog 17 #[.slice a n c,.slice a2 n c2] w2 fun r3 w3=>r3=.returned (.int .i64 0)∧Below wq.heap.size wq w3):=Qq (fun n1 n2 wx h=>Ej h (hend.2 n1 n2).2.2.2.2.1 (hend.2 n1 n2).2.2.2.2.2)
   have HEN:Hid ((∃t,x=y++t∨y=x++t)∧(s1≠0→s2≠0→x=y∧s1=s2∧e1=e2∧y1=y2)):=Qq ⟨hend.1,fun n1 n2=>⟨(hend.2 n1 n2).1,(hend.2 n1 n2).2.1,(hend.2 n1 n2).2.2.1,(hend.2 n1 n2).2.2.2.1⟩⟩
   have HBF:Hid (∀wx,Below wq.heap.size wq wx→Below w.heap.size w wx):=Qq (fun wx h=>zA HBQ.out h)
   have O6:=Qq (ws H6.out)
   clear hx hy hs1 hs2 he1 he2 hy1 hy2 hend sw ws hvo a1 a2 a3' a4 a5 c1 c2 c3 c4 c5 H6 HA HA2 HB HRUN KS HCD HNS HNC HNF HM HSZ HDD HBQ;go_wp2_with fail;refine(HW1.out _ O6.out).mono ?_
   rintro rr w7 ⟨rfl,rfl⟩;go_wp2_with fail;refine(HO1.out _ O6.out).mono ?_
   rintro rr w8 ⟨ao,co1,rfl,hro,o8,-⟩
   have O8:=Qq o8;clear o8
   go_wp2_with fail;refine(HW2.out _ O8.out).mono ?_
   rintro rr w9 ⟨rfl,rfl⟩;go_wp2_with fail;refine(HO2.out _ O8.out).mono ?_
   rintro rr w10 ⟨ao2,co2,rfl,hro2,o10,hb10⟩;have O10:=Qq o10;clear o10
   have hxl:x.length≤maxLen:=Nat.le_trans hro.2.1 hro.2.2.1
   have hyl:y.length≤maxLen:=Nat.le_trans hro2.2.1 hro2.2.2.1
   unfold maxLen at hxl hyl;obtain⟨N,hN⟩:∃N:Nat,N=min x.length y.length:=⟨_,rfl⟩
   have hNif:(if(y.length:Int)<(x.length:Int) then(y.length:Int) else(x.length:Int))=(N:Int):=by split<;>omega
   have hNm:min (x.length:Int) (y.length:Int)=(N:Int):=by rw[←hNif];split<;>omega
   have HC:Hid (∀i,i<N→∃b1 f1 b2 f2 v,ao=some ⟨b1,f1,none⟩∧ao2=some ⟨b2,f2,none⟩∧w10.cell? ⟨b1,f1+i,none⟩=some (.int .i64 v)∧w10.cell? ⟨b2,f2+i,none⟩=some (.int .i64 v)):=Qq (fun i hi=>by
    obtain⟨v,hv⟩:∃v,x[i]?=some v:=⟨_,List.getElem?_eq_getElem (by omega)⟩
    have hv2:y[i]?=some v:=by
     obtain⟨t,ht|ht⟩:=HEN.out.1
     ·rw[ht,List.getElem?_append_left (by omega)] at hv;exact hv
     ·rw[ht,List.getElem?_append_left (by omega)];exact hv
    obtain⟨b1,f1,h1,h2⟩:=(hro.cells.below hb10) i (.int .i64 v) (by unfold zr;rw[List.getElem?_map,hv];rfl)
    obtain⟨b2,f2,h3,h4⟩:=hro2.cells i (.int .i64 v) (by unfold zr;rw[List.getElem?_map,hv2];rfl)
    exact⟨b1,f1,b2,f2,v,h1,h3,h2,h4⟩)
   have HL:Hid (s1≠0→s2≠0→x.length=y.length∧s1=s2∧e1=e2∧y1=y2):=Qq (fun n1 n2=>by
    obtain⟨q1,q2,q3,q4⟩:=HEN.out.2 n1 n2;exact⟨by rw[q1],q2,q3,q4⟩)
   have hN1:N≤x.length:=by omega
   have hN2:N≤y.length:=by omega
   clear HEN HO1 HO2 hro hro2 hb10 O8 O6;generalize x.length=n1 at *;generalize y.length=n2 at *;go_upto_region 17 with fail
   go_cut [88,89] (fun v u wx=>v=.int .i64 (N:Int)∧u=.int .i64 0∧wx=w10)
   case first =>
    go_wp2_with fail
    all_goals go_meet
    ·have:n2=N:=by omega
     exact⟨by rw[this],rfl,rfl⟩
    ·have:n1=N:=by omega
     exact⟨by rw[this],rfl,rfl⟩
   obtain⟨rfl,rfl,hw⟩:=hcut;rw[hw];clear hNif hNm hN hw;go_wp2_with fail;go_loopw [17,89] (fun xv iv wr=>∃i:Nat,i≤N∧iv=.int .i64 i∧Hid (Below w10.heap.size w10 wr)) (fun _ iv _=>N-(intOf iv).toNat)
   case atStart=>exact⟨0,by omega,rfl,Qq (Below.refl _ _)⟩
   case round =>
    obtain⟨i,hi,rfl,hb⟩:=hrel;by_cases hlt:i<N
    ·have hlt2:(i:Int)<(N:Int):=by omega
     have hi0:(0:Int)≤(i:Int):=by omega
     obtain⟨b1,f1,b2,f2,v,q1,q2,z1,z2⟩:=HC.out i hlt;subst q1 q2;have z3:=zj z1 (hb.out.drew)
     have z4:=zj z2 (hb.out.drew)
     have hvv:(v !=v)=false:=by simp
     have hin1:(i:Int)<(n1:Int):=by omega
     have hin2:(i:Int)<(n2:Int):=by omega
     have HZ:=Qq (And.intro z3 z4)
     have HB3:=Qq (hb.out.drew)
     clear z1 z2 z3 z4 hb;go_upto_region 20 with fail
     refine yd (fun wx=>wx.cell? ⟨b1,f1+i,none⟩=some (.int .i64 v)∧wx.cell? ⟨b2,f2+i,none⟩=some (.int .i64 v)) 9 (Array.replicate 9 false) (by kernel_rfl) (by kernel_rfl) ?_
     refine zq 0 9 _ (Qj 9 511) 0 (by kernel_rfl) za (HZ.out) (by kernel_rfl) ?_
     simp only[QX,QV,QJ];(repeat((first|refine Qx (h:=?_)|refine Qv (h:=?_));simp only[Act.put,QW,QY,QZ]));refine zb ?_;refine wpAnyH_done (by kernel_rfl) (NoPanic.normal ?_) _
     clear HZ;go_wp2;exact⟨⟨i+1,by omega,by go_num,HB3⟩,by simp[intOf];omega⟩
    ·obtain rfl:N=i:=by omega
     have hge:¬((N:Int)<(N:Int)):=by omega
     have O11:=Qq (O10.out.step hb.out)
     clear hb O10 HC hi hlt hN1 hN2;rcases(by by_cases h1:s1=0<;>by_cases h2:s2=0<;>simp[h1,h2]:(s1==0)=true∨((s1==0)=false∧(s2==0)=true)∨((s1==0)=false∧(s2==0)=false)) with b1|⟨b1,b2⟩|⟨b1,b2⟩
     ·clear HG1 HL HE1 HE2 HW1 HW2
      go_wp2_with fail;refine(HS1.out _ O11.out).mono ?_
      rintro rr w12 ⟨rfl,o12⟩;have O12:=Qq o12;clear o12
      go_wp2_with fail;refine(Ub _).mono ?_
      rintro rr w13 ⟨rfl,hb9⟩;have HF:=Qq (HBF.out _ (O12.out.step hb9).bel)
      clear hb9 O12;go_wp2;go_ret;exact⟨rfl,by first|exact HF.out|(rw[←HPQ.out];exact HF.out)⟩
     ·clear HG1 HL HE1 HE2 HW1 HW2
      go_wp2_with fail;refine(HS1.out _ O11.out).mono ?_
      rintro rr w12 ⟨rfl,o12⟩;have O12:=Qq o12;clear o12
      go_wp2_with fail;refine(HS2.out _ O12.out).mono ?_
      rintro rr w13 ⟨rfl,o13⟩;have O13:=Qq o13;clear o13
      go_wp2_with fail;refine(Ub _).mono ?_
      rintro rr w14 ⟨rfl,hb9⟩;have HF:=Qq (HBF.out _ (O13.out.step hb9).bel)
      clear hb9 O12 O13;go_wp2;go_ret;exact⟨rfl,by first|exact HF.out|(rw[←HPQ.out];exact HF.out)⟩
     ·have ne1:s1≠0:=by simpa using b1
      have ne2:s2≠0:=by simpa using b2
      obtain⟨rfl,rfl,rfl,rfl⟩:=HL.out ne1 ne2;have HG:=Qq (HG1.out ne1 ne2)
      clear HG1 HL ne1 ne2 b2;go_wp2_with fail;refine(HS1.out _ O11.out).mono ?_
      rintro rr w12 ⟨rfl,o12⟩;have O12:=Qq o12;clear o12
      go_wp2_with fail;refine(HS2.out _ O12.out).mono ?_
      rintro rr w13 ⟨rfl,o13⟩;have O13:=Qq o13;clear o13
      go_wp2_with fail;refine(HW1.out _ O13.out).mono ?_
      rintro rr w14 ⟨rfl,rfl⟩;go_wp2_with fail;refine(HE1.out _ O13.out).mono ?_
      rintro rr w15 ⟨rfl,o15⟩;have O15:=Qq o15;clear o15
      go_wp2_with fail;refine(HW2.out _ O15.out).mono ?_
      rintro rr Be ⟨rfl,rfl⟩;go_wp2_with fail;refine(HE2.out _ O15.out).mono ?_
      rintro rr w17 ⟨rfl,o17⟩;have O17:=Qq o17;clear o17
      go_wp2_with fail;refine(Ub _).mono ?_
      rintro rr w18 ⟨rfl,hb9⟩;have O18:=Qq (O17.out.step hb9);clear hb9 O11 O12 O13 O15
      go_wp2_with fail;refine(HS1.out _ O18.out).mono ?_
      rintro rr w19 ⟨rfl,o19⟩;have O19:=Qq o19;clear o19
      go_wp2_with fail;refine(HS2.out _ O19.out).mono ?_
      rintro rr w20 ⟨rfl,o20⟩;have O20:=Qq o20;clear o20
      go_wp2_with fail;refine(HG.out _ O20.out).mono ?_
      rintro rr w21 ⟨ga,gc,gn,rfl,hg2⟩;have HG2:=Qq hg2;clear hg2 HG
      go_wp2_with fail;refine HG2.out.mono ?_
      rintro rr w22 ⟨ga2,gc2,rfl,hg3⟩;have HG3:=Qq hg3;clear hg3 HG2
      go_wp2_with fail;refine HG3.out.mono ?_
      rintro rr w23 ⟨rfl,hb23⟩;have HF:=Qq (HBF.out _ hb23)
      clear hb23 HG3 O18 O19 O20;go_wp2;go_ret;exact⟨rfl,by first|exact HF.out|(rw[←HPQ.out];exact HF.out)⟩
end Go.Proofs.YtlkjheheofgdgaaGreat.shunterMachines
