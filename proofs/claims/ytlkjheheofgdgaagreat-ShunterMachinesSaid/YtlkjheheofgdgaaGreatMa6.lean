/-
  Texts put together: SdNear, RowG3, Nums, Get, Back, Ints, Bld, Recs, RecsIn, WSrc1, WSrc2, WSrc3, WSrc4, WSrc5, WSrc6, SdDrw, SdWF, SdNew, SdStep, SdRun, SdLook, WdBox, WdTick, WdStk, SdExec.
-/
import Derived.Test.YtlkjheheofgdgaaGreatMa5
import Derived.Test.YtlkjheheofgdgaaGreatMa1
import Derived.WalkKit
import Derived.IntWalk
import Derived.Lib.BitFns
import Derived.OpenShut
import Derived.ProofKit
import Derived.Lib.Builder
import Derived.Deep.SlicePairs
import Derived.Lib.SmallJoins
import Derived.Test.YtlkjheheofgdgaaGreatRows
import Derived.Deep.QuietTactic
import Derived.BigQuiet
import Derived.WalkSmall
import Derived.Test.YtlkjheheofgdgaaGreatMa3
set_option maxRecDepth 100000
set_option maxHeartbeats 16000000
set_option linter.unusedSimpArgs false
set_option linter.unusedVariables false
open Go Go.RowKit
namespace Go.Proofs.YtlkjheheofgdgaaGreat
theorem KX {X:Sd}{i:Nat}(h:(X.p i).tu%7=6)(hg:X.gl≠[]):nearM X i=({ X with gl:=X.gl.tail },X.gl.head?):=by unfold nearM;rw[if_pos ⟨h,hg⟩]
theorem Sy {X:Sd}{i:Nat}(h:¬((X.p i).tu%7=6∧X.gl≠[])):nearM X i=match (mGet (X.p i).q).2 with
  | some g=>(X.zH i { X.p i with q:=(mGet (X.p i).q).1 },some g)
  | none=>({ X.zH i { X.p i with q:=(mFetch (X.p i).N (X.p i).q X.gl 0).1 } with gl:=(mFetch (X.p i).N (X.p i).q X.gl 0).2.1 },(mFetch (X.p i).N (X.p i).q X.gl 0).2.2):=by unfold nearM;rw[if_neg h];rfl
theorem Mw {q:LQ}(h:(mGet q).2=none):(mGet q).1=q:=by
 unfold mGet at *;split
 ·rename_i e;rw[e] at h;cases h
 ·rename_i e
  rw[e] at h;simp only at h
  split
  ·rfl
  ·rename_i e2;rw[e2] at h;cases h
theorem OV {X:Sd}{i:Nat}(hi:i<X.ps.length){P:Pm}(e:P=X.p i):X.zH i P=X:=by
 unfold Sd.zH;rw[e,yt _ _ _ (X.ZS hi)]
def Vn (X:Sd)(i:Nat):Sd×Option Int:=match (mGet (X.p i).q).2 with
  | some g=>(X.zH i { X.p i with q:=(mGet (X.p i).q).1 },some g)
  | none=>({ X.zH i { X.p i with q:=(mFetch (X.p i).N (X.p i).q X.gl 0).1 } with gl:=(mFetch (X.p i).N (X.p i).q X.gl 0).2.1 },(mFetch (X.p i).N (X.p i).q X.gl 0).2.2)
theorem Kw {w0 w:World}{b sp:Nat}{L:Sl}{X:Sd}{R:List zy}(h:zV w0 w b sp L X R){i pb off:Nat}(hi:i<X.ps.length)(hpa:L.pa=some ⟨pb,off,none⟩)(hl:X.gl.length≤1000000)(htu:(X.p i).tu≤1000000) :
  Calls Tryz.prog 95 #[.pointer (some ⟨b,0,none⟩),.pointer (some ⟨pb,off+i*3,none⟩)] w fun r w'=>r=.returned (Zh (nearM X i).2)∧zV w0 w' b sp L (nearM X i).1 R:=by
 obtain⟨_,_,p,g,-,hld⟩:=h.pa hi;have HLD:=Qq hld;have HPA:=Qq hpa;have HI:=Qq hi;have HL:=Qq hl;obtain⟨tu,htu2⟩:∃tu,tu=(X.p i).tu:=⟨_,rfl⟩
 have x1:=(h.proc hi hpa hld).1.2.1
 rw[←htu2] at x1 htu;have HTU:=Qq htu2;have hmod:IntKind.i64.wrap (Int.tmod (tu:Int) 7)=((tu%7:Nat):Int):=by rw[Int.tmod_eq_emod_of_nonneg (by omega),IntKind.wrap_i64];omega
 have HB:Hid (∀(wx:World),zV w0 wx b sp L X R→Calls Tryz.prog 83 #[.pointer (some ⟨p,0,none⟩)] wx fun r w'=>r=.returned (Zh (mGet (X.p i).q).2) ∧
   ((∃v,(mGet (X.p i).q).2=some v∧zV w0 w' b sp L (Vn X i).1 R∧(Vn X i).2=some v)∨((mGet (X.p i).q).2=none∧zV w0 w' b sp L X R))):=Qq (fun wx hx=>by
  refine(Lh hx hi hld).mono (fun r w' hh=>⟨hh.1,?_⟩)
  have h2:=hh.2;cases hg:(mGet (X.p i).q).2 with
  | some v =>
   refine .inl ⟨v,rfl,?_,?_⟩
   ·unfold Vn;rw[hg];exact h2
   ·unfold Vn;rw[hg]
  | none =>
   refine .inr ⟨rfl,?_⟩
   rw[Mw hg,OV hi rfl] at h2;exact h2)
 have HFE:Hid (∀(wx:World),(mGet (X.p i).q).2=none→zV w0 wx b sp L X R→Calls Tryz.prog 107 #[.pointer (some ⟨p,0,none⟩),.pointer (some ⟨b,14,none⟩),.int .i64 0] wx fun r w'=>r=.returned (Zh (Vn X i).2)∧zV w0 w' b sp L (Vn X i).1 R):=Qq (fun wx hg hx=>by
  refine(K7 hx hi hld hl 0).mono (fun r w' hh=>?_)
  unfold Vn;rw[hg]
  exact hh)
 have HX:Hid (∀wx,zV w0 wx b sp L X R→wx.cell? ⟨pb,off+i*3,none⟩=some (.pointer (some ⟨p,0,none⟩))):=Qq (fun wx hx=>(hx.proc hi hpa hld).1.1)
 have H:=Qq h;generalize hnn:nearM X i=nn at *
 have HNN:=Qq hnn;generalize hnb:Vn X i=nb at *
 have HNB:=Qq hnb;have HGT:Hid (∀k,Calls Tryz.prog 106 #[.pointer (some ⟨b,14,none⟩),.int .i64 k] w fun r w'=>∃a' c',r=.returned (.slice a' (xk k X.gl.length) c')∧yR w' a' (X.gl.take (xk k X.gl.length))∧zV w0 w' b sp L { X with gl:=X.gl.drop (xk k X.gl.length) } R):=Qq (fun k=>Ka h k hl)
 clear h hld hpa hi hl htu2 hnn hnb;by_cases hs:tu%7=6
 ·have hs2:((tu:Int)%7==6)=true:=by rw[beq_iff_eq];omega
  clear hmod;cases hgl:X.gl with
  | nil =>
   have HG0:Hid (∀k,Calls Tryz.prog 106 #[.pointer (some ⟨b,14,none⟩),.int .i64 k] w fun r w'=>∃a' c',r=.returned (.slice a' 0 c')∧zV w0 w' b sp L X R):=Qq (fun k=>(HGT.out k).mono (fun r w' hh=>by
    obtain⟨a',c',h1,h2,h3⟩:=hh;have e0:xk k X.gl.length=0:=by rw[hgl];unfold xk;simp
    rw[e0] at h1 h3;refine⟨a',c',h1,?_⟩
    have e1:({ X with gl:=X.gl.drop 0 }:Sd)=X:=by simp
    rw[e1] at h3;exact h3))
   have HE:Hid (nn=nb):=Qq (by rw[←HNN.out,←HNB.out,Sy (fun hc=>hc.2 hgl)];rfl)
   clear hgl HGT hs;go_enter Tryz.func95,Tryz.ntmps95
   go_wp2_with fail;refine(HG0.out _).mono ?_
   rintro r w1 ⟨a',c',rfl,h1⟩;have H1:=Qq h1;have x0:=HX.out _ h1;clear h1 x1;go_wp2_with fail;refine(HB.out _ H1.out).mono ?_
   rintro r w2 ⟨rfl,hh⟩;rcases hh with⟨v,hv,h2,e2⟩|⟨hv,h2⟩
   ·rw[hv]
    have HQ:Hid (zV w0 w2 b sp L nn.1 R∧nn.2=some v):=Qq (by rw[HE.out];exact⟨h2,e2⟩)
    clear h2 hv e2;unfold Zh;simp only[Option.getD_some,Option.isSome_some];go_wp2;go_ret2
    exact⟨by rw[HQ.out.2];rfl,HQ.out.1⟩
   ·rw[hv]
    have HFX:=Qq (fun wx (hx:zV w0 wx b sp L X R)=>HFE.out wx hv hx)
    have H2:=Qq h2;have x2:=HX.out _ h2;clear hv h2;unfold Zh;simp only[Option.getD_none,Option.isSome_none];go_upto_region 8 with fail
    refine zi (fun wx=>∃nq,wx=World.drewN (w2) nq) 7 5 (Array.replicate 12 false) (Qj 12 127) (by kernel_rfl) (by kernel_rfl) ?_
    refine ze 0 7 _ (Qj 12 127) 0 (by kernel_rfl) za (zE w2) (by kernel_rfl) ?_
    simp only[QX,QV,QJ];(repeat((first|refine Qx (h:=?_)|refine Qw (h:=?_));simp only[Act.put,QW,QY,QZ]));refine zb ?_;refine zm ?_;refine yz (fun _=>True) 5 0 (Qj 12 4095) ?_
    refine zB 7 _ (Qj 12 255) 4 (by kernel_rfl) (fun K hK=>?_)
    have HKK:=Qq hK;clear hK;simp only[QQ,QJ];refine zc (by rfl) ?_;go_simp;refine(HFX.out _ (H2.out.step (zv w2 _))).mono ?_
    rintro r w3 ⟨rfl,h3⟩;rw[←HE.out] at h3 ⊢;have H3:=Qq h3;clear h3 x2 HFX H2;unfold Zh;refine HKK.out _ _ (trivial) ?_
    clear HKK K;refine ze 8 4 _ (Qj 12 4095) 0 (by kernel_rfl) za (trivial) (by kernel_rfl) ?_
    simp only[QX,QV,QQ,QJ];(repeat((first|refine Qx (h:=?_)|refine Qv (h:=?_));simp only[Act.put,QW,QY,QZ]));refine zb ?_;refine zm ?_;refine zD (by kernel_rfl) (NoPanic.normal ?_)
    go_wp2;go_ret2
    exact⟨rfl,H3.out⟩
  | cons y t =>
   have HG1:Hid (∀k,k=1→Calls Tryz.prog 106 #[.pointer (some ⟨b,14,none⟩),.int .i64 k] w fun r w'=>∃b' off' c',r=.returned (.slice (some ⟨b',off',none⟩) 1 c')∧w'.cell? ⟨b',off',none⟩=some (.int .i64 y)∧zV w0 w' b sp L nn.1 R∧nn.2=some y):=Qq (fun k hk=>(HGT.out k).mono (fun r w' hh=>by
    obtain⟨a',c',h1,h2,h3⟩:=hh;have e0:xk k X.gl.length=1:=by rw[hgl,hk];unfold xk;simp only[List.length_cons];omega
    rw[e0] at h1 h2 h3;rw[hgl] at h2;obtain⟨b',off',e1,e2⟩:=h2 0 (by simp)
    rw[e1] at h1;refine⟨b',off',c',h1,by simpa using e2,?_⟩
    rw[←HNN.out,KX (by rw[←HTU.out];exact hs) (by rw[hgl];simp)]
    rw[List.drop_one] at h3;exact⟨h3,by rw[hgl];rfl⟩))
   clear hgl HGT hs;go_enter Tryz.func95,Tryz.ntmps95
   go_wp2_with fail;refine(HG1.out _ rfl).mono ?_
   rintro r w1 ⟨b',off',c',rfl,e2,h1,e3⟩;have H1:=Qq h1;have H3:=Qq e3;clear h1 x1 e3 HG1;go_wp2;go_ret2
   exact⟨by rw[H3.out];rfl,H1.out⟩
 ·have hs2:((tu:Int)%7==6)=false:=by rw[beq_eq_false_iff_ne];omega
  have HE:Hid (nn=nb):=Qq (by rw[←HNN.out,←HNB.out,Sy (fun hc=>hs (by rw[HTU.out];exact hc.1))];rfl)
  have H1:=H;have x0:=HX.out _ H.out;clear hmod HGT hs
  ·go_enter Tryz.func95,Tryz.ntmps95
   go_wp2_with fail;refine(HB.out _ H1.out).mono ?_
   rintro r w2 ⟨rfl,hh⟩;rcases hh with⟨v,hv,h2,e2⟩|⟨hv,h2⟩
   ·rw[hv]
    have HQ:Hid (zV w0 w2 b sp L nn.1 R∧nn.2=some v):=Qq (by rw[HE.out];exact⟨h2,e2⟩)
    clear h2 hv e2;unfold Zh;simp only[Option.getD_some,Option.isSome_some];go_wp2;go_ret2
    exact⟨by rw[HQ.out.2];rfl,HQ.out.1⟩
   ·rw[hv]
    have HFX:=Qq (fun wx (hx:zV w0 wx b sp L X R)=>HFE.out wx hv hx)
    have H2:=Qq h2;have x2:=HX.out _ h2;clear hv h2;unfold Zh;simp only[Option.getD_none,Option.isSome_none];go_upto_region 8 with fail
    refine zi (fun wx=>∃nq,wx=World.drewN (w2) nq) 7 5 (Array.replicate 12 false) (Qj 12 127) (by kernel_rfl) (by kernel_rfl) ?_
    refine ze 0 7 _ (Qj 12 127) 0 (by kernel_rfl) za (zE w2) (by kernel_rfl) ?_
    simp only[QX,QV,QJ];(repeat((first|refine Qx (h:=?_)|refine Qw (h:=?_));simp only[Act.put,QW,QY,QZ]));refine zb ?_;refine zm ?_;refine yz (fun _=>True) 5 0 (Qj 12 4095) ?_
    refine zB 7 _ (Qj 12 255) 4 (by kernel_rfl) (fun K hK=>?_)
    have HKK:=Qq hK;clear hK;simp only[QQ,QJ];refine zc (by rfl) ?_;go_simp;refine(HFX.out _ (H2.out.step (zv w2 _))).mono ?_
    rintro r w3 ⟨rfl,h3⟩;rw[←HE.out] at h3 ⊢;have H3:=Qq h3;clear h3 x2 HFX H2;unfold Zh;refine HKK.out _ _ (trivial) ?_
    clear HKK K;refine ze 8 4 _ (Qj 12 4095) 0 (by kernel_rfl) za (trivial) (by kernel_rfl) ?_
    simp only[QX,QV,QQ,QJ];(repeat((first|refine Qx (h:=?_)|refine Qv (h:=?_));simp only[Act.put,QW,QY,QZ]));refine zb ?_;refine zm ?_;refine zD (by kernel_rfl) (NoPanic.normal ?_)
    go_wp2;go_ret2
    exact⟨rfl,H3.out⟩
theorem S5 {P:Program}{w:World}{s by_:Nat}(t ty e:TypeId)(i:TypeInfo)(z:Value)(ht:P.underlying t=some (.slice e))(hi:P.info? e=some i)(hz:i.zero=some z)(hsize:i.size=s)(hby:i.bytes=by_)(hzs:z.cells.size=s)(hs0:0<s)
  {g:Nat} (hg:g<w.heap.size) {b:Option Addr} {c m:Nat} {ds:List Value} (hb:zt w b ds) (hd:ds.length=m*s) (hone:∀u∈ds,u.oneCell'=true) (hm:m≤maxLen) (h47:m*by_≤140737488355328) (ha:(w.cell? ⟨g,0,none⟩)=none) :
  ∃a' cap' w',(Builtin.append_ #[t,t] ty #[.slice (some ⟨g,0,none⟩) 0 0,.slice b m c]).run P w=.ok (.slice a' m cap') w'∧zU s w' a' cap' m ds∧zI [g] w w'∧∀x∈yf a',x=g∨w.heap.size≤x:=by
 by_cases hm0:m=0
 ·subst hm0
  have hdn:ds=[]:=List.length_eq_zero_iff.1 (by rw[hd];simp)
  subst hdn;refine⟨some ⟨g,0,none⟩,0,w,?_,zU.zero hg,zI.refl _ _,fun x hx=>.inl (by simpa [yf] using hx)⟩
  cases b with
  | none=>simp[Builtin.append_,run_underlying ht,sizeOf,typeInfo,hi,Builtin.lenOf,Builtin.firstCells,storeCells]
  | some ad=>simp[Builtin.append_,run_underlying ht,sizeOf,typeInfo,hi,Builtin.lenOf,Builtin.firstCells,storeCells,loadCells,loadCellsFrom]
 ·cases b with
  | none =>
   exfalso
   have:0<ds.length:=by rw[hd];exact Nat.mul_pos (by omega) hs0
   obtain⟨_,_,h1,_⟩:=hb 0 _ (List.getElem?_eq_getElem this)
   cases h1
  | some ad =>
   have hnews:∀j u,ds[j]?=some u→w.cell? (ad.add j)=some u:=fun j u hj=>by
    obtain⟨b,off,h1,h2⟩:=hb j u hj;cases h1
    rw[Addr.add_lit,h2]
   obtain⟨v',w',hr,r1,r2⟩:=run_append_arg_grows (P:=P) w t ty e i z s by_ ht hi hz hsize hby hzs hs0 ⟨g,0,none⟩ 0 0 [] (by simp) (fun j u hj=>by simp at hj) ad m c ds hd hnews (by omega) (by unfold maxLen at hm;unfold maxLen;omega) (by simpa using h47)
   simp only[List.nil_append,Nat.zero_add] at r1;obtain⟨a',cap',rfl,hrow,hbase⟩:=zU.xO r1;exact⟨a',cap',w',hr,by simpa using hrow,(yF r2).mono (by simp),fun x hx=>.inr (hbase x hx)⟩
theorem X6 {P:Program}{w:World}{ops:Array Oper}{rest:List Oper}{o:Oper}{ac:Act}{Q:Exit→Act→World→Prop}{s by_:Nat}(hgd:o.guard=none)(sl x:Operand)(t:TypeId)
  (ho:o.op=.call { callee:=.builtin .append,args:=#[sl,x],argTypes:=#[t,t] }) (e:TypeId) (i:TypeInfo) (z:Value) (ht:P.underlying t=some (.slice e)) (hi:P.info? e=some i) (hz:i.zero=some z) (hsize:i.size=s) (hby:i.bytes=by_) (hzs:z.cells.size=s) (hs0:0<s)
  {g:Nat} {b:Option Addr} {c m:Nat} {ds:List Value} (hs:ac.eval sl=.slice (some ⟨g,0,none⟩) 0 0) (hx:ac.eval x=.slice b m c) (hg:g<w.heap.size) (hb:zt w b ds) (hd:ds.length=m*s) (hone:∀u∈ds,u.oneCell'=true) (hm:m≤maxLen) (h47:m*by_≤140737488355328) (ha:(w.cell? ⟨g,0,none⟩)=none)
  (h:∀a' cap' w',zU s w' a' cap' m ds→zI [g] w w'→(∀x∈yf a',x=g∨w.heap.size≤x)→wpList P ops Q rest (ac.put o.dst (.slice a' m cap')) w'):wpList P ops Q (o::rest) ac w:=by
 refine wpList_plain hgd fun K hK=>?_
 obtain⟨a',cap',w',hr,h2,h3,h4⟩:=S5 (P:=P) (w:=w) t o.type e i z ht hi hz hsize hby hzs hs0 hg hb (c:=c) hd hone hm h47 ha
 unfold Oper.wp execOp;simp only[ho,resolve,invoke,builtin,Sem.run_bind,Sem.run_pure,Result.andThen_ok,List.map_toArray,List.map_cons,List.map_nil,hs,hx,hr];exact hK _ _ (h a' cap' w' h2 h3 h4)









def putF:Nat→Nat→List UInt8
 | 0,n=>[UInt8.ofNat n]
 | k+1,n=>if n<128 then[UInt8.ofNat n] else UInt8.ofNat (n%128+128)::putF k (n / 128)
def Y4 (n:Nat):List UInt8:=putF 10 n
def lim:Nat→Nat
 | 0=>1
 | k+1=>128*lim k

theorem Mf (k n:Nat)(h:n<lim (k+1)):putF (k+1) n=putF k n:=by
 induction k generalizing n with
 | zero=>simp[lim] at h;simp[putF,h]
 | succ k ih =>
  rw[putF];conv=>rhs;rw[putF]
  split
  ·rfl
  ·have:n / 128<lim (k+1):=by rw[lim] at h;omega
   rw[ih _ this]
theorem Me (n:Nat)(h0:128≤n)(h:n<lim 10):Y4 n=UInt8.ofNat (n%128+128)::Y4 (n / 128):=by
 show putF 10 n=_::putF 10 (n / 128)
 have:n / 128<lim 10:=by omega
 rw[Mf 9 (n / 128) this]
 show(if n<128 then _ else _)=_
 rw[if_neg (by omega)]
theorem Nz (n:Nat)(h0:n<128):Y4 n=[UInt8.ofNat n]:=by
 show putF 10 n=_
 simp[putF,h0]
theorem Kb (k n:Nat)(h:n<lim k)(h0:128≤n):∃j,k=j+2∧n / 128<lim (j+1):=by
 match k,h with
 | 0,h=>simp[lim] at h;omega
 | 1,h=>simp[lim] at h;omega
 | j+2,h=>exact⟨j,rfl,by rw[lim] at h;omega⟩
theorem FQ (n:Nat)(h:n<18446744073709551616):n<lim 10:=by simp[lim];omega

theorem Md (n:Nat):bits BinOp.or IntKind.u8 ((n:Int)%256) 128=((UInt8.ofNat (n%128+128)).toNat:Int):=by
 have h:=u8_or_nat (n%256) 128 (by omega) (by omega)
 have e:((n%256:Nat):Int)=(n:Int)%256:=by omega
 have e2:((128:Nat):Int)=128:=rfl
 rw[e,e2] at h;rw[h];have e3:n%256 ||| 128=n%128+128:=by
  have hd:∀m,m<256→m ||| 128=m%128+128:=by decide +kernel
  rw[hd _ (by omega)];omega
 rw[e3];have:(UInt8.ofNat (n%128+128)).toNat=n%128+128:=by simp;omega
 rw[this]

theorem Rx:∀(k m:Nat),(putF k m).length≤k+1
 | 0,m=>by simp[putF]
 | k+1,m=>by rw[putF];split<;>simp;exact Rx k _
theorem Wy (n:Nat):(Y4 n).length≤11:=Rx 10 n
end Go.Proofs.YtlkjheheofgdgaaGreat

open Go Go.RowKit
namespace Go.Proofs.YtlkjheheofgdgaaGreat
def room:Nat→Nat
 | 0=>0
 | f+1=>if f=0 then 2 else 128*room f



def IsRow (k:IntKind)(w:World)(a:Option Addr)(len cap:Nat)(zs:List Int):Prop :=
 (a=none∧len=0∧cap=0∧zs=[]) ∨
 ∃x,a=some x∧len≤cap∧cap≤maxLen∧zs.length=cap∧(∀i,i<zs.length→w.cell? (x.add i)=some (.int k (zs.getD i 0)))∧∀n∈zs,(Lit.int k n).wf=true
def Cells (k:IntKind)(w:World)(a:Option Addr)(zs:List Int):Prop :=
 ∀i (h:i<zs.length),∃b off,a=some ⟨b,off,none⟩∧w.cell? ⟨b,off+i,none⟩=some (.int k zs[i])∧(Lit.int k zs[i]).wf=true
theorem IsRow.cells {k:IntKind}{w:World}{a:Option Addr}{len cap:Nat}{zs:List Int}(h:IsRow k w a len cap zs) :
  len≤cap∧cap≤maxLen∧(zs.take len).length=len∧Cells k w a (zs.take len):=by
 rcases h with⟨rfl,rfl,rfl,rfl⟩|⟨x,rfl,hlc,hcm,hzl,hcell,hwf⟩
 ·exact⟨Nat.le_refl _,Nat.zero_le _,rfl,fun i h=>by simp at h⟩
 ·refine⟨hlc,hcm,by simp;omega,fun i h=>?_⟩
  simp at h
  obtain⟨b,off,rfl,hc⟩:=ints_at hcell (by omega)
  refine⟨b,off,rfl,?_,?_⟩
  ·rw[hc i (by omega),List.getElem_take,List.getD_eq_getElem?_getD,List.getElem?_eq_getElem (by omega)];rfl
  ·rw[List.getElem_take];exact hwf _ (List.getElem_mem _)
end Go.Proofs.YtlkjheheofgdgaaGreat

open Go Go.RowKit
namespace Go.Proofs.YtlkjheheofgdgaaGreat
abbrev Rec:=Int×Nat
def Rec.ok (r:Rec):Prop:=1≤r.1∧r.1≤4∧r.2<4611686018427387904
instance (r:Rec):Decidable (Rec.ok r):=by unfold Rec.ok;infer_instance
def Rec.num (r:Rec):Nat:=4*r.2+(r.1-1).toNat
theorem Rec.EP {r:Rec}(h:Rec.ok r):r.num<18446744073709551616:=by unfold Rec.num;obtain⟨h1,h2,h3⟩:=h;omega


def zJ (l:List Rec):List Value:=l.flatMap fun r=>[Value.int .i64 r.1,Value.int .u64 (r.2:Int)]



end Go.Proofs.YtlkjheheofgdgaaGreat

open Go Go.RowKit
namespace Go.Proofs.YtlkjheheofgdgaaGreat
def xZ (l:List Nat):List Value:=l.map fun(n:Nat)=>Value.int .u64 (n:Int)
theorem KG (l:List Nat):(xZ l).length=l.length:=by simp[xZ]
theorem Ju (l:List Nat):∀u∈xZ l,u.oneCell'=true:=by
 intro u hu;unfold xZ at hu;rw[List.mem_map] at hu;obtain⟨n,_,rfl⟩:=hu;rfl
theorem SS (l:List Rec):∀u∈zJ l,u.oneCell'=true:=by
 intro u hu;unfold zJ at hu;rw[List.mem_flatMap] at hu;obtain⟨r,_,h⟩:=hu;simp at h;rcases h with rfl|rfl<;>rfl
theorem Oz:(Tryz.prog.info? 33).map (fun i=>(i.zero,i.size,i.bytes))=some (some (.int .u64 0),1,8):=by kernel_rfl
theorem Rg:(Tryz.prog.info? 93).map (fun i=>(i.zero,i.size,i.bytes))=some (some (.agg #[.int .i64 0,.int .u64 0]),2,16):=by kernel_rfl
theorem QN (w:World)(a:Option Addr)(n c:Nat)(cs:List Value)(h:zt w a cs)(hn:cs.length=n)(hone:∀u∈cs,u.oneCell'=true)(h0:a=none→n=0∧c=0)(hl:n*8≤140737488355328) :
  Calls Tryz.prog 49 #[.slice a n c] w fun r w'=>∃a' c',r=.returned (.slice a' n c')∧zU 1 w' a' c' n cs∧(∀x∈yf a',w.heap.size≤x)∧Below w.heap.size w w':=by
 cases a with
 | none =>
  obtain⟨rfl,rfl⟩:=h0 rfl;obtain rfl:=List.length_eq_zero_iff.1 hn
  clear h hone;have he:∀w:World,(binOp .eql 29 (.slice none 0 0) (.slice none 0 0)).run Tryz.prog w=.ok (.bool true) w:=fun _=>rfl
  go_enter Tryz.func49,Tryz.ntmps49
  go_wp2;go_ret;exact⟨none,0,rfl,zU.nil _ _,fun x hx=>by simp[yf] at hx,Below.refl _ _⟩
 | some ad =>
  obtain⟨i0,hi0,hz0,hz1,hz2⟩:=info_parts Oz;have Hi:=Qq hi0;clear hi0
  have Hz0:=Qq hz0;clear hz0
  have Hz1:=Qq hz1;clear hz1
  have Hz2:=Qq hz2;clear hz2
  have H:=Qq h;have HO:=Qq hone;have HN:=Qq hn;clear h hone h0 hn;have he:∀w:World,(binOp .eql 29 (.slice (some ad) n c) (.slice none 0 0)).run Tryz.prog w=.ok (.bool false) w:=fun _=>rfl
  go_enter Tryz.func49,Tryz.ntmps49
  go_wp2_with (at_builtin;refine X6 (m:=n) (ds:=cs) rfl _ _ 29 rfl 33 i0 _ Tryz.underlying29 Hi.out Hz0.out Hz1.out Hz2.out rfl (by omega) rfl rfl (by simp) (H.out.below (below_alloc1 _ _)) (by rw[HN.out];simp) HO.out (by unfold maxLen;omega) (by omega) (by rw[World.cell?_alloc_mark];rfl) ?_)
  intro a1 c1 w1 k1 ch1 f1;have hf:zU 1 w1 a1 c1 n cs∧(∀x∈yf a1,w.heap.size≤x)∧Below w.heap.size w w1:=by
   refine⟨by simpa using k1,fun x hx=>?_,zI.below (below_alloc1 _ _) ch1 (fun x hx=>by simp at hx;omega)⟩
   rcases f1 x hx with h|h
   ·omega
   ·first|omega|(simp at h;omega)
  have HF:=Qq hf;clear hf k1 ch1 f1;go_wp2;go_ret;exact⟨a1,c1,by simp,HF.out⟩
def Dy (i:Nat)(kind:Int)(n:Nat)(r:Rec):Value:=.agg #[.int .i64 (i:Int),.int .i64 kind,.int .i64 (n:Int),.int .i64 r.1,.int .u64 (r.2:Int)]
def Yk (i:Nat)(kind:Int)(n:Nat)(r:Rec):Ending:=.panicked [{ v:=.iface 95 (Dy i kind n r),recovered:=false }]
theorem ET {w:World}{a:Option Addr}{l:List Nat}(h:zt w a (xZ l))(i:Nat)(hi:i<l.length):∃b off,a=some ⟨b,off,none⟩∧w.cell? ⟨b,off+i,none⟩=some (.int .u64 (l[i]:Int)) :=
 h i _ (by simp[xZ,hi])
theorem Ec {w:World}{a:Option Addr}{l:List Rec}(h:zt w a (zJ l))(i:Nat)(hi:i<l.length):∃b off,a=some ⟨b,off,none⟩∧w.cell? ⟨b,off+i*2,none⟩=some (.int .i64 l[i].1)∧w.cell? ⟨b,off+i*2+1,none⟩=some (.int .u64 (l[i].2:Int)):=by
 obtain⟨b,off,rfl,h1⟩:=zt.rec (f:=fun r:Rec=>[Value.int .i64 r.1,Value.int .u64 (r.2:Int)]) (s:=2) (fun _=>rfl) (l:=l) h i hi (by omega)
 exact⟨b,off,rfl,h1 0 _ rfl,h1 1 _ rfl⟩
theorem Pq (w:World)(a:Option Addr)(c:Nat)(l:List Nat)(h:zt w a (xZ l))(hl:∀n∈l,n<18446744073709551616)(i:Nat)(hi:i<l.length)(kind:Int)(n:Nat)(hn:1≤n)(hn2:n<9223372036854775808) :
  Calls Tryz.prog 50 #[.slice a l.length c,.int .i64 (i:Int),.int .i64 kind,.int .i64 (n:Int)] w fun r w'=>r=.returned (.int .u64 ((l[i]%n:Nat):Int))∧w'=w:=by
 obtain⟨b,off,rfl,g⟩:=ET h i hi;have hx:=hl _ (List.getElem_mem hi)
 generalize l[i]=x at *
 generalize l.length=m at *;have hne:¬(n:Int)=0:=by omega
 have hw:IntKind.u64.wrap (n:Int)=(n:Int):=by rw[IntKind.wrap_u64];omega
 have hr:(x:Int).tmod (n:Int)=((x%n:Nat):Int):=by rw[Int.tmod_eq_emod_of_nonneg (by omega)];simp
 have hw2:IntKind.u64.wrap ((x%n:Nat):Int)=((x%n:Nat):Int):=by
  have:x%n<n:=Nat.mod_lt _ (by omega)
  rw[IntKind.wrap_u64];omega
 clear h hl hn2 hx;go_enter Tryz.func50,Tryz.ntmps50
 go_wp2;go_ret;exact⟨Wx (by simp),rfl⟩
def Rt (w:World)(i:Nat)(kind:Int)(n:Nat)(x:Rec)(r:Ending)(w':World):Prop :=
 Below w.heap.size w w'∧((x.1=kind∧x.2<n∧r=.returned (.int .u64 (x.2:Int)))∨(¬(x.1=kind∧x.2<n)∧r=Yk i kind n x))
theorem M3 (w:World)(a:Option Addr)(c:Nat)(l:List Rec)(h:zt w a (zJ l))(hl:∀r∈l,r.2<18446744073709551616)(i:Nat)(hi:i<l.length)(kind:Int)(n:Nat)(hn:1≤n)(hn2:n<9223372036854775808) :
  Calls Tryz.prog 41 #[.slice a l.length c,.int .i64 (i:Int),.int .i64 kind,.int .i64 (n:Int)] w (Rt w i kind n l[i]):=by
 obtain⟨b,off,rfl,g0,g1⟩:=Ec h i hi;have hx:=hl _ (List.getElem_mem hi)
 have hlt:=World.block_lt_of_cell? w _ g0
 generalize l[i]=x at *
 obtain⟨k,m⟩:=x;generalize l.length=N at *;simp only at g0 g1 hx
 have hw:IntKind.u64.wrap (n:Int)=(n:Int):=by rw[IntKind.wrap_u64];omega
 clear h hl hx;have hp1:(k=kind∧m<n)→Rt w i kind n (k,m) (.returned (.int .u64 (m:Int))) (w.alloc (.cells #[.int .i64 k,.int .u64 (m:Int)] 93)):=fun h=>⟨below_alloc1 _ _,.inl ⟨h.1,h.2,rfl⟩⟩
 have hp2:¬(k=kind∧m<n)→Rt w i kind n (k,m) (Yk i kind n (k,m)) (w.alloc (.cells #[.int .i64 k,.int .u64 (m:Int)] 93)):=fun h=>⟨below_alloc1 _ _,.inr ⟨h,rfl⟩⟩
 by_cases h1:k=kind
 ·by_cases h2:m<n
  ·have H:=Qq (hp1 ⟨h1,h2⟩)
   subst h1;clear hp1 hp2;go_enter Tryz.func41,Tryz.ntmps41
   go_wp2;go_ret;exact H.out
  ·have H:=Qq (hp2 (fun h=>h2 h.2))
   subst h1;clear hp1 hp2;go_enter Tryz.func41,Tryz.ntmps41
   go_wp2;exact⟨rfl,H.out⟩
 ·have H:=Qq (hp2 (fun h=>h1 h.1))
  clear hp1 hp2;go_enter Tryz.func41,Tryz.ntmps41
  go_wp2;exact⟨rfl,H.out⟩
structure Src where
 tape:List Rec
 nums:List Nat
 taken:List Rec
def Src.many (S:Src):Nat:=S.tape.length+S.nums.length
def Src.ok (S:Src):Prop:=(∀r∈S.tape,r.2<18446744073709551616)∧∀n∈S.nums,n<18446744073709551616
def Zn (S:Src)(i:Nat)(kind:Int)(n:Nat):Option Nat :=
 if i<S.tape.length then(if(S.tape.getD i (0,0)).1=kind∧(S.tape.getD i (0,0)).2<n then some (S.tape.getD i (0,0)).2 else none) else some (S.nums.getD (i-S.tape.length) 0%n)
def Vm (w:World)(S:Src)(i:Nat)(kind:Int)(n:Nat)(r:Ending)(w':World):Prop :=
 Below w.heap.size w w'∧match Zn S i kind n with
  | some v=>r=.returned (.int .u64 (v:Int))
  | none=>r=Yk i kind n (S.tape.getD i (0,0))
theorem Rt.drawn {w w':World}{S:Src}{i:Nat}{kind:Int}{n:Nat}{r:Ending}(hi:i<S.tape.length)(h:Rt w i kind n S.tape[i] r w'):Vm w S i kind n r w':=by
 obtain⟨hb,h⟩:=h;refine⟨hb,?_⟩
 have e:S.tape.getD i (0,0)=S.tape[i]:=by rw[List.getD_eq_getElem?_getD,List.getElem?_eq_getElem hi];rfl
 unfold Zn;rw[if_pos hi,e];rcases h with⟨h1,h2,rfl⟩|⟨h1,rfl⟩
 ·rw[if_pos ⟨h1,h2⟩]
 ·rw[if_neg h1]
theorem Vm.num {w w':World}{S:Src}{i:Nat}{kind:Int}{n:Nat}{r:Ending}(hi:¬i<S.tape.length)(h2:i-S.tape.length<S.nums.length)(hb:Below w.heap.size w w')(h:r=.returned (.int .u64 ((S.nums[i-S.tape.length]%n:Nat):Int))):Vm w S i kind n r w':=by
 refine⟨hb,?_⟩
 unfold Zn;rw[if_neg hi,List.getD_eq_getElem?_getD,List.getElem?_eq_getElem h2]
 exact h
theorem Vm.cases {w w':World}{S:Src}{i:Nat}{kind:Int}{n:Nat}{r:Ending}(h:Vm w S i kind n r w'):(∃v:Nat,r=.returned (.int .u64 (v:Int))∧Zn S i kind n=some v)∨(r=Yk i kind n (S.tape.getD i (0,0))∧Zn S i kind n=none):=by
 obtain⟨hb,h⟩:=h;cases hd:Zn S i kind n with
 | none=>rw[hd] at h;exact .inr ⟨h,rfl⟩
 | some v=>rw[hd] at h;exact .inl ⟨v,h,rfl⟩
def Z7 (k:Nat):Nat:=if k=0 then 50 else 41
def recv (k:Nat)(t n:Value):Value:=if k=0 then n else if k=1 then t else .agg #[t,n]
def Src.fits (S:Src)(k:Nat):Prop:=(k=0→S.tape=[])∧(k=1→S.nums=[])∧k≤1
theorem Sm (k:Nat)(args:Array Value)(w:World):(callFunc (Z7 k) args).run Tryz.prog w=.ok (.enter (Z7 k) args) w:=by
 unfold Z7;split
 ·kernel_rfl
 ·first
   | kernel_rfl
   | (split<;>kernel_rfl)
def ZN (k:Nat)(S:Src)(ta:Option Addr)(tc:Nat)(na:Option Addr)(nc:Nat)(ka:Option Addr)(kc:Nat)(see:Value):List Value :=
 [.func (.func (Z7 k)) #[recv k (.slice ta S.tape.length tc) (.slice na S.nums.length nc)] #[],.int .i64 (S.many:Int),.slice ka S.taken.length kc,see]
def Qb (p k:Nat)(S:Src)(see:Value)(ta:Option Addr)(tc:Nat)(na:Option Addr)(nc:Nat)(ka:Option Addr)(kc:Nat):List zy :=
 [zf p (ZN k S ta tc na nc ka kc see),zd 2 ka kc S.taken.length (zJ S.taken),zd 2 ta tc S.tape.length (zJ S.tape),zd 1 na nc S.nums.length (xZ S.nums)]
def YH (p k:Nat)(S:Src)(see:Value):zy where
 at_ w F:=∃ta tc na nc ka kc,Sep w (Qb p k S see ta tc na nc ka kc) F
 lt:=by rintro w F ⟨_,_,_,_,_,_,h⟩;exact h.lt
 yC:=by
  rintro w w' F G ⟨ta,tc,na,nc,ka,kc,h⟩ c hd
  exact⟨ta,tc,na,nc,ka,kc,h.yC c hd⟩
theorem Own.src {w0 w:World}{p k:Nat}{S:Src}{see:Value}{R:List zy}(h:Own w0 w (YH p k S see::R)):∃ta tc na nc ka kc,Own w0 w (zf p (ZN k S ta tc na nc ka kc see)::zd 2 ka kc S.taken.length (zJ S.taken)::zd 2 ta tc S.tape.length (zJ S.tape)::zd 1 na nc S.nums.length (xZ S.nums)::R):=by
 obtain⟨As,⟨ta,tc,na,nc,ka,kc,rfl⟩,h1⟩:=Own.unfold h (P:=fun As=>∃ta tc na nc ka kc,As=Qb p k S see ta tc na nc ka kc) (fun F ⟨ta,tc,na,nc,ka,kc,h⟩=>⟨_,⟨ta,tc,na,nc,ka,kc,rfl⟩,h⟩)
 exact⟨ta,tc,na,nc,ka,kc,h1⟩
theorem Own.Og {w0 w:World}{p k:Nat}{S:Src}{see:Value}{R:List zy}{ta na ka:Option Addr}{tc nc kc:Nat}(h:Own w0 w (zf p (ZN k S ta tc na nc ka kc see)::zd 2 ka kc S.taken.length (zJ S.taken)::zd 2 ta tc S.tape.length (zJ S.tape)::zd 1 na nc S.nums.length (xZ S.nums)::R)):Own w0 w (YH p k S see::R) :=
 Own.fold (As:=Qb p k S see ta tc na nc ka kc) h (fun F hF=>⟨ta,tc,na,nc,ka,kc,hF⟩)
theorem ME {w0 w:World}{R:List zy}{p k:Nat}{S:Src}{see:Value}(h:Own w0 w (YH p k S see::R))(hm:S.many<9223372036854775808)(ht:S.taken.length≤S.many) :
  Calls Tryz.prog 75 #[.pointer (some ⟨p,0,none⟩)] w fun r w'=>r=.returned (.int .i64 ((S.many-S.taken.length:Nat):Int))∧∃m,w'=w.drewN m:=by
 obtain⟨ta,tc,na,nc,ka,kc,h⟩:=h.src;obtain⟨g1,-⟩:=h.zo 0 rfl 1 _ rfl;obtain⟨g2,-⟩:=h.zo 0 rfl 2 _ rfl;generalize S.taken.length=n at *;generalize S.many=m at *;have hs:(m:Int)-(n:Int)=((m-n:Nat):Int):=by omega
 have hw:IntKind.i64.wrap ((m-n:Nat):Int)=((m-n:Nat):Int):=by rw[IntKind.wrap_i64];omega
 generalize m-n=d at *
 clear h hm ht;go_enter Tryz.func75,Tryz.ntmps75
 go_wp2_with fail;go_quiet (fail)
 go_wp2;go_ret;exact⟨Wx (by simp),_,rfl⟩
theorem Ku {w:World}{k:Nat}{S:Src}(hS:S.ok)(hf:S.fits k)(ta na:Option Addr)(tc nc:Nat)(ht:zt w ta (zJ S.tape))(hn:zt w na (xZ S.nums))(i:Nat)(hi:i<S.many)(kind:Int)(n:Nat)(hn1:1≤n)(hn2:n<9223372036854775808)(hm:S.many<9223372036854775808) :
  Calls Tryz.prog (Z7 k) #[recv k (.slice ta S.tape.length tc) (.slice na S.nums.length nc),.int .i64 (i:Int),.int .i64 kind,.int .i64 (n:Int)] w (Vm w S i kind n):=by
 unfold Z7 recv;by_cases h0:k=0
 ·rw[if_pos h0,if_pos h0]
  have e:=hf.1 h0;unfold Src.many at hi;rw[e] at hi;simp only[List.length_nil,Nat.zero_add] at hi;refine(Pq w na nc S.nums hn hS.2 i hi kind n hn1 hn2).mono (fun r w2 h2=>?_)
  obtain⟨h2,rfl⟩:=h2;exact Vm.num (by rw[e];simp) (by rw[e];simpa using hi) (Below.refl _ _) (by rw[h2];simp[e])
 ·rw[if_neg h0,if_neg h0]
  by_cases h1:k=1
  ·rw[if_pos h1]
   have e:=hf.2.1 h1;unfold Src.many at hi;rw[e] at hi;simp only[List.length_nil,Nat.add_zero] at hi;exact(M3 w ta tc S.tape ht hS.1 i hi kind n hn1 hn2).mono (fun r w2 h2=>h2.drawn hi)
  ·have:=hf.2.2;omega
def Fy:Ending:=.panicked [{ v:=.iface 153 (.agg #[]),recovered:=false }]
def UL (n:Int):Nat:=(max n 1).toNat
theorem Si (n:Int):1≤UL n:=by unfold UL;omega
theorem Ks (n:Int):max n 1=(UL n:Int):=by unfold UL;omega
theorem Lw (n:Int)(h:n<9223372036854775808):UL n<9223372036854775808:=by unfold UL;omega
def Src.take (S:Src)(kind:Int)(v:Nat):Src:={ S with taken:=S.taken++[(kind,v)] }
def Oy (S:Src)(kind n:Int)(r:Ending)(S':Src):Prop :=
 (S.taken.length=S.many∧r=Fy∧S'=S) ∨
 (S.taken.length<S.many∧Zn S S.taken.length kind (UL n)=none∧r=Yk S.taken.length kind (UL n) (S.tape.getD S.taken.length (0,0))∧S'=S) ∨
 (S.taken.length<S.many∧∃v,Zn S S.taken.length kind (UL n)=some v∧r=.returned (.int .i64 (v:Int))∧S'=S.take kind v)
theorem Tu {S:Src}{i:Nat}{kind:Int}{n v:Nat}(hn:1≤n)(h:Zn S i kind n=some v):v<n:=by
 unfold Zn at h;split at h
 ·split at h
  ·rename_i h2;cases h;exact h2.2
  ·cases h
 ·cases h;exact Nat.mod_lt _ (by omega)
theorem Mr {w0 w:World}{R:List zy}{p k:Nat}{S:Src}(h:Own w0 w (YH p k S .nilFunc::R))(hS:S.ok)(hf:S.fits k)(hm:S.many<9223372036854775808)(ht:S.taken.length≤S.many)(hk:S.taken.length≤1000000)(kind n:Int)(hn:n<9223372036854775808) :
  Calls Tryz.prog 52 #[.pointer (some ⟨p,0,none⟩),.int .i64 kind,.int .i64 n] w fun r w'=>∃S',Oy S kind n r S'∧Own w0 w' (YH p k S' .nilFunc::R):=by
 have hl:=ME h hm ht;have H:=Qq h;have HL:=Qq hl;clear h hl;by_cases hd:S.taken.length=S.many
 ·have e:((S.many-S.taken.length:Nat):Int)=0:=by omega
  rw[e] at HL;have HS:Hid (Oy S kind n Fy S):=Qq (.inl ⟨hd,rfl,rfl⟩)
  clear hS hf hm ht hk hd e;go_enter Tryz.func52,Tryz.ntmps52
  go_wp2_with fail;refine HL.out.mono ?_
  rintro r w1 ⟨rfl,m,rfl⟩;have H1:=Qq (H.out.step (below_drewN (Below.refl _ _) m))
  clear H HL;go_wp2;exact⟨rfl,_,HS.out,H1.out⟩
 ·have hlt:S.taken.length<S.many:=by omega
  have e:¬((S.many-S.taken.length:Nat):Int)=0:=by omega
  have hdraw:∀w1,Below w.heap.size w w1→∀ta tc na nc,zt w ta (zJ S.tape)→zt w na (xZ S.nums)→Calls Tryz.prog (Z7 k) #[recv k (.slice ta S.tape.length tc) (.slice na S.nums.length nc),.int .i64 (S.taken.length:Int),.int .i64 kind,.int .i64 (UL n:Int)] w1 (Vm w1 S S.taken.length kind (UL n)) :=
   fun w1 hb ta tc na nc h1 h2=>Ku hS hf ta na tc nc (h1.below hb) (h2.below hb) _ hlt kind _ (Si n) (Lw n hn) hm
  obtain⟨ta,tc,na,nc,ka,kc,h⟩:=H.out.src;have hdr:=fun w1 hb=>hdraw w1 hb ta tc na nc ((h.yZ 2 rfl).cells) ((h.yZ 3 rfl).cells)
  have en:∀(args:Array Value) (w:World),(callFunc (Z7 k) args).run Tryz.prog w=.ok (.enter (Z7 k) args) w:=Sm k
  have HDR:=Qq hdr;obtain⟨g0,-⟩:=h.zo 0 rfl 0 _ rfl;obtain⟨g2,-⟩:=h.zo 0 rfl 2 _ rfl;clear hdraw hdr;generalize recv k (.slice ta S.tape.length tc) (.slice na S.nums.length nc)=rv at *
  generalize Z7 k=F at *;have HS:=Qq hS;have HF:=Qq hf;have HM:=Qq hm;have HLT:=Qq hlt;have HK:=Qq hk;generalize hdd:S.many-S.taken.length=d at *
  have HDD:=Qq hdd;obtain⟨nk,hnk⟩:∃nk,nk=S.taken.length:=⟨_,rfl⟩
  rw[←hnk] at g2 HDR;have HNK:=Qq hnk;have H0:=Qq h;have G0:=Qq g0;have G2:=Qq g2;have hmx:=Ks n;have hmp:=Si n;have hml:=Lw n hn;have hpan:∀w',Below w.heap.size w w'→Zn S nk kind (UL n)=none→∃S',Oy S kind n (Yk nk kind (UL n) (S.tape.getD nk (0,0))) S'∧Own w0 w' (YH p k S' .nilFunc::R):=fun w' hb hv =>
   ⟨S,.inr (.inl ⟨hlt,by rw[←hnk];exact hv,by rw[hnk],rfl⟩),H.out.step hb⟩
  have HP:=Qq hpan;clear hpan;have hend:∀v w',Zn S nk kind (UL n)=some v→Own w0 w' (YH p k (S.take kind v) .nilFunc::R)→∃S',Oy S kind n (.returned (.int .i64 (v:Int))) S'∧Own w0 w' (YH p k S' .nilFunc::R):=fun v w' hv ho =>
   ⟨_,.inr (.inr ⟨hlt,v,by rw[←hnk];exact hv,rfl,rfl⟩),ho⟩
  have HEND:=Qq hend;clear hend;have hvl:∀v,Zn S nk kind (UL n)=some v→v<UL n:=fun v hv=>Tu hmp hv
  have HVL:=Qq hvl;clear hvl;generalize UL n=c at *;clear hS hf hm ht hk hd h hlt hdd hnk g0 g2;go_enter Tryz.func52,Tryz.ntmps52
  go_wp2_with fail;refine HL.out.mono ?_
  rintro r w1 ⟨rfl,m,rfl⟩;have hB1:Below w.heap.size w (w.drewN m):=below_drewN (Below.refl _ _) m
  generalize w.drewN m=W at *;have g0:=zj G0.out hB1;have g2:=zj G2.out hB1;have HB1:=Qq hB1;clear hB1 HL;go_wp2_with fail;have hmv:(if n<1 then(1:Int) else n)=(c:Int):=by rw[←hmx];omega
  have HMV:=Qq hmv;clear hmx hmv;refine xT (fun w'=>w'.cell? ⟨p,0,none⟩=some (.func (.func F) #[rv] #[])∧w'.cell? ⟨p,2,none⟩=some (.slice ka nk kc)∧Below W.heap.size W w') 17 (Array.replicate 17 false) (by kernel_rfl) (by kernel_rfl) ?_
  have hBd:=zg W;generalize W.drew=Wd at *;refine zq 0 13 _ (Qj 17 8191) 4 (by kernel_rfl) Xp (⟨zj g0 hBd,zj g2 hBd,hBd⟩) (by kernel_rfl) ?_
  simp only[QX,QV,QJ];(repeat((first|refine Qx (h:=?_)|refine Qv (h:=?_));simp only[Act.put,QW,QY,QZ]));refine zb ?_;rw[HMV.out];refine yJ 13 15 _ (Qj 17 16383) (Qj 17 40959) 3 (by kernel_rfl) (fun K hK=>?_) (fun K hK=>?_)
  ·skip
   have HKK:=Qq hK;clear hK;simp only[QQ,QJ];refine zc (by rfl) ?_;go_simp;refine(HDR.out _ (zA HB1.out hBd)).mono ?_
   intro r w2 h2;rcases h2.cases with⟨v,rfl,hv⟩|⟨rfl,hv⟩
   ·have hb2:Below W.heap.size W w2:=zA hBd h2.1
    refine HKK.out _ _ (⟨zj g0 hb2,zj g2 hb2,hb2⟩) ?_
    clear HKK K;refine zq 14 1 _ (Qj 17 32767) 2 (by kernel_rfl) Xp (⟨zj g0 hb2,zj g2 hb2,hb2⟩) (by kernel_rfl) ?_
    simp only[QX,QV,QQ,QJ];(repeat((first|refine Qx (h:=?_)|refine Qv (h:=?_));simp only[Act.put,QW,QY,QZ]));refine zb ?_;have h3:=(H0.out.step (zA HB1.out hb2)).alloc [.int .i64 0,.int .u64 0] 93 (b:=w2.heap.size) rfl
    have hb3:Below W.heap.size W (w2.alloc (.cells #[.int .i64 0,.int .u64 0] 93)):=zA hb2 (below_alloc1 _ _)
    have hgw:W.heap.size≤w2.heap.size:=hb2.size
    refine zn 15 _ (Qj 17 65535) 1 (by kernel_rfl) (fun K hK=>?_)
    have HKK:=Qq hK;clear hK;simp only[QQ,QJ];refine zc (by rfl) ?_;go_simp;refine HKK.out _ _ (⟨zj g0 hb3,zj g2 hb3,hb3⟩) ?_
    clear HKK K;generalize w2.alloc (.cells #[.int .i64 0,.int .u64 0] 93)=w3 at *
    generalize w2.heap.size=g at *;obtain⟨x0,y0⟩:=h3.zo 0 rfl 0 _ rfl;obtain⟨x1,y1⟩:=h3.zo 0 rfl 1 _ rfl;have hb4:Below W.heap.size W ((w3.setCell ⟨g,0,none⟩ (.int .i64 kind)).setCell ⟨g,1,none⟩ (.int .u64 (v:Int))):=(hb3.setCell hgw _).setCell hgw _
    refine zn 16 _ (Qj 17 131071) 0 (by kernel_rfl) (fun K hK=>?_)
    have HKK:=Qq hK;clear hK;simp only[QQ,QJ];refine zc (by rfl) ?_;go_simp;refine HKK.out _ _ (⟨zj g0 hb4,zj g2 hb4,hb4⟩) ?_
    clear HKK K;refine wpAnyH_done (by kernel_rfl) (?_) _
    have h4:=(h3.set 0 (.int .i64 kind)).set 1 (.int .u64 (v:Int))
    have HG:=Qq h4;clear h4 h3 hb3 hb2 h2;go_wp2_with fail;have HK4:=Qq HG.out;obtain⟨q0,-⟩:=HK4.out.zo 0 rfl 0 _ rfl;obtain⟨q1,-⟩:=HK4.out.zo 0 rfl 1 _ rfl;obtain⟨q2,-⟩:=HK4.out.zo 1 rfl 2 _ rfl;rw[show(Value.slice ka S.taken.length kc)=Value.slice ka nk kc by rw[HNK.out]] at q2
    generalize (w3.setCell ⟨g,0,none⟩ (.int .i64 kind)).setCell ⟨g,1,none⟩ (.int .u64 (v:Int))=W5 at *
    have SCB:∀{wx:World} {As:List zy},Own w0 wx (zf g [.int .i64 kind,.int .u64 (v:Int)]::zf p (ZN k S ta tc na nc ka kc .nilFunc)::As)→wx.cell? ⟨p,2,none⟩=some (.slice ka nk kc)∧wx.cell? ⟨g,0,none⟩=some (.int .i64 kind)∧wx.cell? ⟨g,1,none⟩=some (.int .u64 (v:Int)):=fun h=>⟨by rw[HNK.out];exact(h.zo 1 rfl 2 _ rfl).1,(h.zo 0 rfl 0 _ rfl).1,(h.zo 0 rfl 1 _ rfl).1⟩
    refine xg (fun wx=>wx.cell? ⟨p,2,none⟩=some (.slice ka nk kc)∧wx.cell? ⟨g,0,none⟩=some (.int .i64 kind)∧wx.cell? ⟨g,1,none⟩=some (.int .u64 (v:Int))) 10 11 (Array.replicate 11 false) (by kernel_rfl) (by kernel_rfl) ?_
    have h6:Own w0 W5.drew (zf g [.int .i64 kind,.int .u64 (v:Int)]::zf p (ZN k S ta tc na nc ka kc .nilFunc)::zd 2 ka kc S.taken.length (zJ S.taken)::zd 2 ta tc S.tape.length (zJ S.tape)::zd 1 na nc S.nums.length (xZ S.nums)::R):=HK4.out.step (zg W5)
    clear HK4 q0 q1 q2;generalize W5.drew=W6 at *;refine yw 0 6 _ (Qj 11 63) 5 (by kernel_rfl) za (SCB h6) (by kernel_rfl) ?_
    simp only[QX,QV,QJ];(repeat((first|refine Qx (h:=?_)|refine Qv (h:=?_));simp only[Act.put,QW,QY,QZ]));refine zb ?_;have hrow:=h6.yZ 2 rfl;obtain⟨i0,hi0,hz0,hz1,hz2⟩:=info_parts Rg;rw[←HNK.out] at hrow;have o2:=h6.step (below_alloc1 W6 (.cells #[.int .i64 kind,.int .u64 (v:Int)] 93))
    refine yk 6 _ (Qj 11 127) 4 (by kernel_rfl) (fun K hK=>?_)
    have HKK:=Qq hK;clear hK;simp only[QQ,QJ];refine zc (by rfl) ?_;go_simp;refine HKK.out _ _ (SCB o2) ?_
    clear HKK K;refine yk 7 _ (Qj 11 255) 3 (by kernel_rfl) (fun K hK=>?_)
    have HKK:=Qq hK;clear hK;simp only[QQ,QJ];refine zc (by rfl) ?_;refine yP (n:=nk) (m:=1) (cs:=zJ S.taken) (ds:=zJ [(kind,v)]) _ _ 70 (by rfl) 93 i0 _ Tryz.underlying70 hi0 hz0 hz1 hz2 rfl (by omega) (by omega) (by rfl) (by rfl) (hrow.below (below_alloc1 _ _)) (zt.new W6 (zJ [(kind,v)]) _ rfl) rfl (SS _) (by have:=HK.out;rw[HNK.out];omega) ?_
    intro a9 c9 w9 k9 ch9 f9;have o3:Own w0 w9 (zf g [.int .i64 kind,.int .u64 (v:Int)]::zf p (ZN k S ta tc na nc ka kc .nilFunc)::zd 2 a9 c9 (nk+1) (zJ S.taken++zJ [(kind,v)])::zd 2 ta tc S.tape.length (zJ S.tape)::zd 1 na nc S.nums.length (xZ S.nums)::R) :=
     ((Own.xj (o2.pick 2 rfl) k9 ch9 f9).pick 2 rfl).pick 2 rfl
    refine HKK.out _ _ (SCB o3) ?_
    clear HKK K;refine xF 8 2 _ (Qj 11 1023) 1 (by kernel_rfl) za (by kernel_rfl) ?_
    simp only[QX,QV,QQ,QJ];(repeat((first|refine Qx (h:=?_)|refine Qv (h:=?_));simp only[Act.put,QW,QY,QZ]));refine zb ?_;obtain⟨q2,y2⟩:=o3.zo 1 rfl 2 _ rfl;have o4:=o3.setAt 1 rfl 2 (.slice a9 (nk+1) c9)
    have hfin:Own w0 (w9.setCell ⟨p,2,none⟩ (.slice a9 (nk+1) c9)) (zf g [.int .i64 kind,.int .u64 (v:Int)]::YH p k (S.take kind v) .nilFunc::R):=by
     have e:nk+1=(S.take kind v).taken.length:=by rw[HNK.out];simp[Src.take]
     have e2:zJ S.taken++zJ [(kind,v)]=zJ (S.take kind v).taken:=by unfold Src.take zJ;simp
     have o5:Own w0 (w9.setCell ⟨p,2,none⟩ (.slice a9 (nk+1) c9)) (zf p ((ZN k S ta tc na nc ka kc .nilFunc).set 2 (.slice a9 (nk+1) c9))::zd 2 a9 c9 (nk+1) (zJ S.taken++zJ [(kind,v)])::zd 2 ta tc S.tape.length (zJ S.tape)::zd 1 na nc S.nums.length (xZ S.nums)::zf g [.int .i64 kind,.int .u64 (v:Int)]::R):=((((o4.pick 4 rfl).pick 4 rfl).pick 4 rfl).pick 4 rfl)
     rw[e2,e] at o5;rw[e];exact(Own.Og (S:=S.take kind v) o5).pick 1 rfl
    have HFIN:=Qq hfin;clear hfin o4 o3 o2 k9 ch9 f9 hrow hi0 hz0 hz1 hz2 i0 h6 SCB HG;refine xH 10 _ (Qj 11 2047) 0 (by kernel_rfl) (fun K hK=>?_)
    have HKK:=Qq hK;clear hK;simp only[QQ,QJ];refine zc (by rfl) ?_;go_simp;refine HKK.out _ _ ?_
    clear HKK K;refine xG (by kernel_rfl) (NoPanic.normal ?_) _
    generalize w9.setCell ⟨p,2,none⟩ (.slice a9 (nk+1) c9)=w10 at *
    obtain⟨_,_,_,_,_,_,hs⟩:=(HFIN.out.pick 1 rfl).src
    obtain⟨z3,-⟩:=hs.zo 0 rfl 3 _ rfl;obtain⟨z1,-⟩:=HFIN.out.zo 0 rfl 1 _ rfl;have hvv:=HVL.out v hv;have hvw:IntKind.i64.wrap (v:Int)=(v:Int):=by rw[IntKind.wrap_i64];omega
    have hne:∀w:World,(binOp .neq 133 .nilFunc .nilFunc).run Tryz.prog w=.ok (.bool false) w:=fun _=>rfl
    have HRES:=Qq (HEND.out v _ hv HFIN.out.drop)
    clear hs HFIN HEND hvv hv HVL;go_wp2;go_ret;exact HRES.out
   ·exact⟨rfl,HP.out _ (zA HB1.out (zA hBd h2.1)) hv⟩
  ·skip
   have hgw:W.heap.size≤Wd.heap.size:=hBd.size
   have h3:=(H0.out.step (zA HB1.out hBd)).alloc [.int .i64 0,.int .u64 0] 93 (b:=Wd.heap.size) rfl
   have hb3:Below W.heap.size W (Wd.alloc (.cells #[.int .i64 0,.int .u64 0] 93)):=zA hBd (below_alloc1 _ _)
   have HKK:=Qq hK;clear hK;simp only[QQ,QJ];refine zc (by rfl) ?_;go_simp;refine HKK.out _ _ (⟨zj g0 hb3,zj g2 hb3,hb3⟩) ?_
   clear HKK K;generalize Wd.alloc (.cells #[.int .i64 0,.int .u64 0] 93)=wa at *
   generalize Wd.heap.size=g at *;refine zn 13 _ (Qj 17 49151) 2 (by kernel_rfl) (fun K hK=>?_)
   have HKK:=Qq hK;clear hK;simp only[QQ,QJ];refine zc (by rfl) ?_;go_simp;refine(HDR.out _ (zA HB1.out hb3)).mono ?_
   intro r w3 h2;rcases h2.cases with⟨v,rfl,hv⟩|⟨rfl,hv⟩
   ·have hb2:Below W.heap.size W w3:=zA hb3 h2.1
    replace h3:=h3.step h2.1
    refine HKK.out _ _ (⟨zj g0 hb2,zj g2 hb2,hb2⟩) ?_
    clear HKK K;refine zq 14 1 _ (Qj 17 65535) 1 (by kernel_rfl) Xp (⟨zj g0 hb2,zj g2 hb2,hb2⟩) (by kernel_rfl) ?_
    simp only[QX,QV,QQ,QJ];(repeat((first|refine Qx (h:=?_)|refine Qv (h:=?_));simp only[Act.put,QW,QY,QZ]));refine zb ?_;obtain⟨x0,y0⟩:=h3.zo 0 rfl 0 _ rfl;obtain⟨x1,y1⟩:=h3.zo 0 rfl 1 _ rfl;have hb4:Below W.heap.size W ((w3.setCell ⟨g,0,none⟩ (.int .i64 kind)).setCell ⟨g,1,none⟩ (.int .u64 (v:Int))):=(hb2.setCell hgw _).setCell hgw _
    refine zn 16 _ (Qj 17 131071) 0 (by kernel_rfl) (fun K hK=>?_)
    have HKK:=Qq hK;clear hK;simp only[QQ,QJ];refine zc (by rfl) ?_;go_simp;refine HKK.out _ _ (⟨zj g0 hb4,zj g2 hb4,hb4⟩) ?_
    clear HKK K;refine wpAnyH_done (by kernel_rfl) (?_) _
    have h4:=(h3.set 0 (.int .i64 kind)).set 1 (.int .u64 (v:Int))
    have HG:=Qq h4;clear h4 h3 hb3 hb2 h2;go_wp2_with fail;have HK4:=Qq HG.out;obtain⟨q0,-⟩:=HK4.out.zo 0 rfl 0 _ rfl;obtain⟨q1,-⟩:=HK4.out.zo 0 rfl 1 _ rfl;obtain⟨q2,-⟩:=HK4.out.zo 1 rfl 2 _ rfl;rw[show(Value.slice ka S.taken.length kc)=Value.slice ka nk kc by rw[HNK.out]] at q2
    generalize (w3.setCell ⟨g,0,none⟩ (.int .i64 kind)).setCell ⟨g,1,none⟩ (.int .u64 (v:Int))=W5 at *
    have SCB:∀{wx:World} {As:List zy},Own w0 wx (zf g [.int .i64 kind,.int .u64 (v:Int)]::zf p (ZN k S ta tc na nc ka kc .nilFunc)::As)→wx.cell? ⟨p,2,none⟩=some (.slice ka nk kc)∧wx.cell? ⟨g,0,none⟩=some (.int .i64 kind)∧wx.cell? ⟨g,1,none⟩=some (.int .u64 (v:Int)):=fun h=>⟨by rw[HNK.out];exact(h.zo 1 rfl 2 _ rfl).1,(h.zo 0 rfl 0 _ rfl).1,(h.zo 0 rfl 1 _ rfl).1⟩
    refine xg (fun wx=>wx.cell? ⟨p,2,none⟩=some (.slice ka nk kc)∧wx.cell? ⟨g,0,none⟩=some (.int .i64 kind)∧wx.cell? ⟨g,1,none⟩=some (.int .u64 (v:Int))) 10 11 (Array.replicate 11 false) (by kernel_rfl) (by kernel_rfl) ?_
    have h6:Own w0 W5.drew (zf g [.int .i64 kind,.int .u64 (v:Int)]::zf p (ZN k S ta tc na nc ka kc .nilFunc)::zd 2 ka kc S.taken.length (zJ S.taken)::zd 2 ta tc S.tape.length (zJ S.tape)::zd 1 na nc S.nums.length (xZ S.nums)::R):=HK4.out.step (zg W5)
    clear HK4 q0 q1 q2;generalize W5.drew=W6 at *;refine yw 0 6 _ (Qj 11 63) 5 (by kernel_rfl) za (SCB h6) (by kernel_rfl) ?_
    simp only[QX,QV,QJ];(repeat((first|refine Qx (h:=?_)|refine Qv (h:=?_));simp only[Act.put,QW,QY,QZ]));refine zb ?_;have hrow:=h6.yZ 2 rfl;obtain⟨i0,hi0,hz0,hz1,hz2⟩:=info_parts Rg;rw[←HNK.out] at hrow;have o2:=h6.step (below_alloc1 W6 (.cells #[.int .i64 kind,.int .u64 (v:Int)] 93))
    refine yk 6 _ (Qj 11 127) 4 (by kernel_rfl) (fun K hK=>?_)
    have HKK:=Qq hK;clear hK;simp only[QQ,QJ];refine zc (by rfl) ?_;go_simp;refine HKK.out _ _ (SCB o2) ?_
    clear HKK K;refine yk 7 _ (Qj 11 255) 3 (by kernel_rfl) (fun K hK=>?_)
    have HKK:=Qq hK;clear hK;simp only[QQ,QJ];refine zc (by rfl) ?_;refine yP (n:=nk) (m:=1) (cs:=zJ S.taken) (ds:=zJ [(kind,v)]) _ _ 70 (by rfl) 93 i0 _ Tryz.underlying70 hi0 hz0 hz1 hz2 rfl (by omega) (by omega) (by rfl) (by rfl) (hrow.below (below_alloc1 _ _)) (zt.new W6 (zJ [(kind,v)]) _ rfl) rfl (SS _) (by have:=HK.out;rw[HNK.out];omega) ?_
    intro a9 c9 w9 k9 ch9 f9;have o3:Own w0 w9 (zf g [.int .i64 kind,.int .u64 (v:Int)]::zf p (ZN k S ta tc na nc ka kc .nilFunc)::zd 2 a9 c9 (nk+1) (zJ S.taken++zJ [(kind,v)])::zd 2 ta tc S.tape.length (zJ S.tape)::zd 1 na nc S.nums.length (xZ S.nums)::R) :=
     ((Own.xj (o2.pick 2 rfl) k9 ch9 f9).pick 2 rfl).pick 2 rfl
    refine HKK.out _ _ (SCB o3) ?_
    clear HKK K;refine xF 8 2 _ (Qj 11 1023) 1 (by kernel_rfl) za (by kernel_rfl) ?_
    simp only[QX,QV,QQ,QJ];(repeat((first|refine Qx (h:=?_)|refine Qv (h:=?_));simp only[Act.put,QW,QY,QZ]));refine zb ?_;obtain⟨q2,y2⟩:=o3.zo 1 rfl 2 _ rfl;have o4:=o3.setAt 1 rfl 2 (.slice a9 (nk+1) c9)
    have hfin:Own w0 (w9.setCell ⟨p,2,none⟩ (.slice a9 (nk+1) c9)) (zf g [.int .i64 kind,.int .u64 (v:Int)]::YH p k (S.take kind v) .nilFunc::R):=by
     have e:nk+1=(S.take kind v).taken.length:=by rw[HNK.out];simp[Src.take]
     have e2:zJ S.taken++zJ [(kind,v)]=zJ (S.take kind v).taken:=by unfold Src.take zJ;simp
     have o5:Own w0 (w9.setCell ⟨p,2,none⟩ (.slice a9 (nk+1) c9)) (zf p ((ZN k S ta tc na nc ka kc .nilFunc).set 2 (.slice a9 (nk+1) c9))::zd 2 a9 c9 (nk+1) (zJ S.taken++zJ [(kind,v)])::zd 2 ta tc S.tape.length (zJ S.tape)::zd 1 na nc S.nums.length (xZ S.nums)::zf g [.int .i64 kind,.int .u64 (v:Int)]::R):=((((o4.pick 4 rfl).pick 4 rfl).pick 4 rfl).pick 4 rfl)
     rw[e2,e] at o5;rw[e];exact(Own.Og (S:=S.take kind v) o5).pick 1 rfl
    have HFIN:=Qq hfin;clear hfin o4 o3 o2 k9 ch9 f9 hrow hi0 hz0 hz1 hz2 i0 h6 SCB HG;refine xH 10 _ (Qj 11 2047) 0 (by kernel_rfl) (fun K hK=>?_)
    have HKK:=Qq hK;clear hK;simp only[QQ,QJ];refine zc (by rfl) ?_;go_simp;refine HKK.out _ _ ?_
    clear HKK K;refine xG (by kernel_rfl) (NoPanic.normal ?_) _
    generalize w9.setCell ⟨p,2,none⟩ (.slice a9 (nk+1) c9)=w10 at *
    obtain⟨_,_,_,_,_,_,hs⟩:=(HFIN.out.pick 1 rfl).src
    obtain⟨z3,-⟩:=hs.zo 0 rfl 3 _ rfl;obtain⟨z1,-⟩:=HFIN.out.zo 0 rfl 1 _ rfl;have hvv:=HVL.out v hv;have hvw:IntKind.i64.wrap (v:Int)=(v:Int):=by rw[IntKind.wrap_i64];omega
    have hne:∀w:World,(binOp .neq 133 .nilFunc .nilFunc).run Tryz.prog w=.ok (.bool false) w:=fun _=>rfl
    have HRES:=Qq (HEND.out v _ hv HFIN.out.drop)
    clear hs HFIN HEND hvv hv HVL;go_wp2;go_ret;exact HRES.out
   ·exact⟨rfl,HP.out _ (zA HB1.out (zA hb3 h2.1)) hv⟩
theorem Own.Er {w0 w w':World}{As:List zy}{p k:Nat}{S:Src}{see:Value}{ta na:Option Addr}{tc nc:Nat}(h:Own w0 w As)(hb:Below w.heap.size w w')(ht:zU 2 w' ta tc S.tape.length (zJ S.tape))(hn:zU 1 w' na nc S.nums.length (xZ S.nums))(hk:S.taken=[])
  (hB:zF w' p (ZN k S ta tc na nc none 0 see)) (hp:w.heap.size≤p) (hpl:p<w'.heap.size) (h1:∀x∈yf ta,w.heap.size≤x) (h2:∀x∈yf na,w.heap.size≤x) (h3:∀x∈yf ta,x≠p) (h4:∀x∈yf na,x≠p) (h5:∀x∈yf ta,x∉yf na) :
  Own w0 w' (YH p k S see::As):=by
 refine h.add hb (A:=YH p k S see) (F:=[p]++([]++(yf ta++(yf na++[])))) ⟨ta,tc,na,nc,none,0,?_⟩ ?_
 ·refine⟨[p],_,rfl,⟨rfl,hpl,hB⟩,?_,[],_,rfl,⟨rfl,?_⟩,by simp,yf ta,_,rfl,⟨rfl,ht⟩,by simpa using h5,yf na,[],rfl,⟨rfl,hn⟩,by simp,rfl⟩
  ·intro x hx hc
   simp at hx hc
   subst hx;rcases hc with hc|hc
   ·exact h3 _ hc rfl
   ·exact h4 _ hc rfl
  ·rw[hk];exact zU.nil 2 w'
 ·intro x hx
  simp at hx
  rcases hx with rfl|hx|hx
  ·exact hp
  ·exact h1 x hx
  ·exact h2 x hx
theorem Rq {w0 w:World}{As:List zy}(h:Own w0 w As)(a:Option Addr)(c:Nat)(l:List Nat)(hc:zt w a (xZ l))(h0:a=none→l.length=0∧c=0)(hl:l.length*8≤140737488355328) :
  Calls Tryz.prog 26 #[.slice a l.length c] w fun r w'=>∃p,r=.returned (.pointer (some ⟨p,0,none⟩))∧Own w0 w' (YH p 0 ⟨[],l,[]⟩ .nilFunc::As)∧Below w.heap.size w w':=by
 have hmf:∀(fn:Fn) (first cap:Array Value) (w:World),(Instr.makeFunc fn first cap).run Tryz.prog w=.ok (.func fn first cap) w:=fun _ _ _ _=>rfl
 have hcl:=QN w a l.length c (xZ l) hc (KG l) (Ju l) h0 hl
 have H:=Qq h;have HCL:=Qq hcl;obtain⟨N,hN⟩:∃N,N=l.length:=⟨_,rfl⟩
 have HN:=Qq hN;rw[←hN] at HCL ⊢;clear h hc h0 hl hcl hN;go_enter Tryz.func26,Tryz.ntmps26
 go_wp2_with fail;refine HCL.out.mono ?_
 rintro r w1 ⟨a',c',rfl,k1,k2,k3⟩;have hB:=zF.mk w1 [.func (.func 50) #[.slice a' N c'] #[],.int .i64 (N:Int),.slice none 0 0,.nilFunc] 135 _ rfl
 have hf:Own w0 (w1.alloc (.cells #[.func (.func 50) #[.slice a' N c'] #[],.int .i64 (N:Int),.slice none 0 0,.nilFunc] 135)) (YH w1.heap.size 0 ⟨[],l,[]⟩ .nilFunc::As)∧Below w.heap.size w (w1.alloc (.cells #[.func (.func 50) #[.slice a' N c'] #[],.int .i64 (N:Int),.slice none 0 0,.nilFunc] 135)):=by
  have hb:=zA k3 (below_alloc1 w1 (.cells #[.func (.func 50) #[.slice a' N c'] #[],.int .i64 (N:Int),.slice none 0 0,.nilFunc] 135))
  refine⟨Own.Er (S:=⟨[],l,[]⟩) (ta:=none) (tc:=0) (na:=a') (nc:=c') H.out hb (zU.nil 2 _) (by rw[HN.out] at k1;exact k1.below (below_alloc1 _ _)) rfl ?_ k3.size (by simp) (by simp[yf]) k2 (by simp[yf]) (fun x hx=>by have:=k1.lt x hx;omega) (by simp[yf]),hb⟩
  unfold ZN Src.many Z7 recv;simp only[List.length_nil,Nat.zero_add,if_true];rw[←HN.out];exact hB
 have HF:=Qq hf;clear hf hB k1 k2 k3 HCL H;go_wp2;go_ret;exact⟨_,rfl,HF.out⟩
end Go.Proofs.YtlkjheheofgdgaaGreat

open Go Go.RowKit
namespace Go.Proofs.YtlkjheheofgdgaaGreat
structure UR (sp:Nat) where
 T:Type
 A:T→List zy
 ok:Nat→T→Prop
 less:∀j s,ok (j+1) s→ok j s
 Dv:T→Int→Int→Int→T→Prop
 Dp:T→Int→Int→Ending→T→Prop
 hd:∀{w0 w:World} (s:T) (kind n:Int) (Z:List zy) (j:Nat),ok (j+1) s→1≤n∧n<9223372036854775808→Own w0 w (A s++Z)→Calls Tryz.prog 52 #[.pointer (some ⟨sp,0,none⟩),.int .i64 kind,.int .i64 n] w fun r w' =>
  (∃v s',r=.returned (.int .i64 v)∧(0≤v∧v<n)∧Dv s kind n v s'∧ok j s'∧Own w0 w' (A s'++Z))∨(∃ch s',r=.panicked ch∧Dp s kind n r s'∧ok j s'∧Own w0 w' (A s'++Z))
def KR (sp k:Nat):UR sp where
 T:=Src
 A S:=[YH sp k S .nilFunc]
 ok j S:=S.ok∧S.fits k∧S.many<9223372036854775808∧S.taken.length≤S.many∧S.taken.length+j≤1000001
 less:=fun j S h=>⟨h.1,h.2.1,h.2.2.1,h.2.2.2.1,by have:=h.2.2.2.2;omega⟩
 Dv S kind n v S':=S.taken.length<S.many∧∃u:Nat,v=(u:Int)∧Zn S S.taken.length kind (UL n)=some u∧S'=S.take kind u
 Dp S kind n r S':=S'=S∧((S.taken.length=S.many∧r=Fy)∨(S.taken.length<S.many∧Zn S S.taken.length kind (UL n)=none∧r=Yk S.taken.length kind (UL n) (S.tape.getD S.taken.length (0,0))))
 hd:=by
  intro w0 w S kind n Z j hok hn h;obtain⟨h1,h2,h3,h4,h5⟩:=hok;refine(Mr (R:=Z) h h1 h2 h3 h4 (by omega) kind n hn.2).mono (fun r w' hh=>?_)
  obtain⟨S',hs,ho⟩:=hh;rcases hs with⟨a,rfl,rfl⟩|⟨a,b,rfl,rfl⟩|⟨a,v,b,rfl,rfl⟩
  ·exact .inr ⟨_,S',rfl,⟨rfl,.inl ⟨a,rfl⟩⟩,⟨h1,h2,h3,h4,by omega⟩,ho⟩
  ·exact .inr ⟨_,S',rfl,⟨rfl,.inr ⟨a,b,rfl⟩⟩,⟨h1,h2,h3,h4,by omega⟩,ho⟩
  ·have hl:=Tu (Si n) b
   have hc:(UL n:Int)=n:=by have:=Ks n;omega
   exact .inl ⟨(v:Int),S.take kind v,rfl,⟨by omega,by omega⟩,⟨a,v,rfl,b,rfl⟩,⟨h1,h2,h3,by show(S.taken++[(kind,v)]).length≤S.many;rw[List.length_append,List.length_singleton];omega,by show(S.taken++[(kind,v)]).length+j≤_;rw[List.length_append,List.length_singleton];omega⟩,ho⟩
structure Ev where
 kind:Int
 M:Int
 G:Int
 rd:List Int
def Sd.ins (X:Sd)(m:Nat):zS:=(X.W.ins (X.m m).G.toNat).getD (0,0,0,0)
def Zd (X:Sd)(m:Nat):Option (Int×Int) :=
 if m=X.ms.length then none
 else if(X.m m).P = -1 then none
 else if(X.m m).G = -1 then
  if 0<(X.m m).L∧(X.p (X.m m).P.toNat).q.nx.isSome then none
  else if XM X (X.m m).P.toNat then some (2,(X.ps.length:Int)) else none
 else if X.W.lets (X.m m).G∧1≤xI X.W (X.ins m) then some (WO (X.ins m),(xI X.W (X.ins m):Int)) else none
def zZ (X:Sd)(m:Nat)(d:Int):Sd×Ev :=
 if m=X.ms.length then((Xn X).1,⟨1,-1,-1,(Xn X).2⟩)
 else if(X.m m).P = -1 then((holdM X m).1,⟨(holdM X m).2,(m:Int),-1,[]⟩)
 else if(X.m m).G = -1 then((yG X m d.toNat).1,⟨(yG X m d.toNat).2.1,(m:Int),(yG X m d.toNat).2.2,[]⟩)
 else((runM X m d).1,⟨7,(m:Int),(X.m m).G,(runM X m d).2⟩)
def ZC (X:Sd)(m:Nat)(d:Int):Sd×Ev:=({ (zZ X m d).1 with st:=X.st+1 },(zZ X m d).2)
structure Qs (X Y:Sd):Prop where
 W:Y.W=X.W
 ms:Y.ms=X.ms
 sl:Y.sl=X.sl
 st:Y.st=X.st
 len:Y.ps.length=X.ps.length
 p:∀j,(Y.p j).by_=(X.p j).by_∧(Y.p j).N=(X.p j).N∧(Y.p j).tu=(X.p j).tu
 ll:(∀j,(X.p j).q.l.length≤(X.p j).N)→∀j,(Y.p j).q.l.length≤(Y.p j).N
theorem Qs.refl (X:Sd):Qs X X:=⟨rfl,rfl,rfl,rfl,rfl,fun _=>⟨rfl,rfl,rfl⟩,fun h=>h⟩
theorem Qs.trans {X Y Z:Sd}(h:Qs X Y)(k:Qs Y Z):Qs X Z :=
 ⟨k.W.trans h.W,k.ms.trans h.ms,k.sl.trans h.sl,k.st.trans h.st,k.len.trans h.len,fun j=>⟨(k.p j).1.trans (h.p j).1,(k.p j).2.1.trans (h.p j).2.1,(k.p j).2.2.trans (h.p j).2.2⟩,fun hh=>k.ll (h.ll hh)⟩
theorem Qs.QT {X Y:Sd}{i:Nat}(hi:i<X.ps.length)(q:LQ)(hq:(X.p i).q.l.length≤(X.p i).N→q.l.length≤(X.p i).N)(hps:Y.ps=X.ps.set i { X.p i with q:=q })(hW:Y.W=X.W)(hms:Y.ms=X.ms)(hsl:Y.sl=X.sl)(hst:Y.st=X.st):Qs X Y:=by
 have e:∀j,Y.p j=if i=j then{ X.p i with q:=q } else X.p j:=fun j=>by
  have:=Wc hi { X.p i with q:=q } j
  unfold Sd.p at this ⊢
  rw[hps];exact this
 refine⟨hW,hms,hsl,hst,by rw[hps];simp,fun j=>?_,fun h j=>?_⟩
 ·rw[e];split
  ·rename_i e2;subst e2;exact⟨rfl,rfl,rfl⟩
  ·exact⟨rfl,rfl,rfl⟩
 ·rw[e];split
  ·rename_i e2;subst e2;exact hq (h i)
  ·exact h j
theorem Rd (N:Nat)(q:LQ)(gl:List Int)(h:q.l.length≤N):(mTurn N q gl).1.l.length≤N:=by
 unfold mTurn;split
 ·exact h
 ·exact Gx N ⟨none,q.l⟩ _ gl h
theorem G9 (N:Nat)(q:LQ)(h:q.l.length≤N):(mGet q).1.l.length≤N:=by
 unfold mGet;split
 ·exact h
 ·split
  ·exact h
  ·rename_i e;rw[e] at h;simp at h;simp;omega
theorem Nu (N:Nat)(q:LQ)(gl:List Int)(k:Int)(h:q.l.length≤N):(mFetch N q gl k).1.l.length≤N:=by
 unfold mFetch;split
 ·exact h
 ·rename_i x t
  simp only[List.length_append,List.length_tail,List.length_take];have:YN N q (x::t) k≤N-q.l.length+1:=by unfold YN;omega
  omega
theorem N6 (N:Nat)(q f:LQ)(h:q.l.length≤N):(mSteal N q f).1.l.length≤N:=by
 unfold mSteal;split
 ·exact h
 ·simp only[List.length_append,List.length_tail,List.length_take];omega
theorem Pb (N:Nat)(q f:LQ):(mSteal N q f).2.1.l.length≤f.l.length:=by
 unfold mSteal;split
 ·simp
 ·simp only[List.length_drop];omega
theorem OF {X:Sd}{i:Nat}(hi:i<X.ps.length):Qs X (yN X i):=Qs.QT hi _ (Rd _ _ _) rfl rfl rfl rfl rfl
theorem IS {X:Sd}{i:Nat}(hi:i<X.ps.length):Qs X (nearM X i).1:=by
 unfold nearM;split
 ·exact⟨rfl,rfl,rfl,rfl,rfl,fun _=>⟨rfl,rfl,rfl⟩,fun h=>h⟩
 ·split
  ·exact Qs.QT hi _ (G9 _ _) rfl rfl rfl rfl rfl
  ·exact Qs.QT hi _ (Nu _ _ _ _) rfl rfl rfl rfl rfl
theorem MM {X:Sd}{i:Nat}(hi:i<X.ps.length)(g:Int):Qs X { X.zH i { X.p i with q:=(xt (X.p i).N (X.p i).q g X.gl).1 } with gl:=(xt (X.p i).N (X.p i).q g X.gl).2.1 } :=
 Qs.QT hi (xt (X.p i).N (X.p i).q g X.gl).1 (fun h=>Rd _ _ X.gl h) rfl rfl rfl rfl rfl
theorem WC:∀(l:List Int) (X:Sd) (i:Nat),i<X.ps.length→Qs X (ym X i l)∧(ym X i l).all.Perm (l++X.all)
 | [],X,i,hi=>⟨Qs.refl X,List.Perm.refl _⟩
 | g::t,X,i,hi=>by
  have h1:=MM hi g;obtain⟨h2,h3⟩:=WC t _ i (by rw[h1.len];exact hi)
  refine⟨h1.trans h2,h3.trans ?_⟩
  obtain⟨R,k1,k2⟩:=Ti hi;have hp:=k2 { X.zH i { X.p i with q:=(xt (X.p i).N (X.p i).q g X.gl).1 } with gl:=(xt (X.p i).N (X.p i).q g X.gl).2.1 } _ rfl rfl
  obtain⟨m1,m2⟩:=YQ (X.p i).N (X.p i).q X.gl
  rw[m2] at m1;have m3:((mTurn (X.p i).N (X.p i).q X.gl).2.1++(mTurn (X.p i).N (X.p i).q X.gl).1.l).Perm (X.gl++(X.p i).l):=by simpa [Pm.l] using m1
  have m4:(g::((mTurn (X.p i).N (X.p i).q X.gl).2.1++((mTurn (X.p i).N (X.p i).q X.gl).1.l++R))).Perm (g::X.all):=by
   refine List.Perm.cons g ?_
   refine List.Perm.trans ?_ k1.symm
   rw[←List.append_assoc,←List.append_assoc];exact m3.append_right R
  have m5:({ X.zH i { X.p i with q:=(xt (X.p i).N (X.p i).q g X.gl).1 } with gl:=(xt (X.p i).N (X.p i).q g X.gl).2.1 }:Sd).all.Perm (g::X.all):=by
   refine hp.trans (List.Perm.trans ?_ m4)
   show((mTurn (X.p i).N (X.p i).q X.gl).2.1++(((some g).toList++(mTurn (X.p i).N (X.p i).q X.gl).1.l)++R)).Perm _
   simp only[Option.toList_some,List.cons_append,List.nil_append];exact List.perm_middle
  have m6:=m5.append_left t;refine m6.trans ?_
  exact List.perm_middle
theorem PI {X:Sd}{i v:Nat}(hi:i<X.ps.length)(hv:v<X.ps.length):Qs X (zz X i v).1 ∧
  (((zz X i v).2.1=6∧(zz X i v).2.2 = -1∧(zz X i v).1.all.Perm X.all)∨((zz X i v).2.1≠6∧X.all.Perm ((zz X i v).2.2::(zz X i v).1.all))):=by
 have hq1:=OF hi;have hi1:i<(yN X i).ps.length:=by rw[hq1.len];exact hi
 have hq2:=IS hi1;have hp1:=Mq hi;have hp2:=Mj hi1;have hq12:=hq1.trans hq2;unfold zz;simp only
 cases hn:(nearM (yN X i) i).2 with
 | some g =>
  simp only
  rw[hn] at hp2;refine⟨hq12,.inr ⟨by decide,?_⟩⟩
  exact hp1.symm.trans hp2
 | none =>
  simp only
  obtain⟨e1,e2,e3⟩:=YA hi hn;rw[e3];split
  ·rename_i hc
   have hvi:i≠v:=fun e=>hc.2 e.symm
   have qa:=Qs.QT (Y:=X.zH i { X.p i with q:=(mSteal (X.p i).N (X.p i).q (X.p v).q).1 }) hi _ (N6 _ _ _) rfl rfl rfl rfl rfl
   have hpv:(X.zH i { X.p i with q:=(mSteal (X.p i).N (X.p i).q (X.p v).q).1 }).p v=X.p v:=by rw[Wc hi,if_neg hvi]
   have qb:=Qs.QT (X:=X.zH i { X.p i with q:=(mSteal (X.p i).N (X.p i).q (X.p v).q).1 }) (Y:=(X.zH i { X.p i with q:=(mSteal (X.p i).N (X.p i).q (X.p v).q).1 }).zH v { X.p v with q:=(mSteal (X.p i).N (X.p i).q (X.p v).q).2.1 }) (i:=v) (by rw[qa.len];exact hv) ((mSteal (X.p i).N (X.p i).q (X.p v).q).2.1) (fun h=>by
    have:=Pb (X.p i).N (X.p i).q (X.p v).q
    rw[hpv] at h ⊢;omega) (by rw[hpv];rfl) rfl rfl rfl rfl
   have hall:X.all.Perm ((mSteal (X.p i).N (X.p i).q (X.p v).q).2.2.toList++((X.zH i { X.p i with q:=(mSteal (X.p i).N (X.p i).q (X.p v).q).1 }).zH v { X.p v with q:=(mSteal (X.p i).N (X.p i).q (X.p v).q).2.1 }).all):=by
    have hs:=RZ (X.p i).N (X.p i).q (X.p v).q
    obtain⟨R,r1,r2⟩:=VL X.ps i v _ _ (X.ZS hi) (X.ZS hv) hvi
    have a1:=(r1.flatMap_right Pm.l)
    have a2:=((r2 { X.p i with q:=(mSteal (X.p i).N (X.p i).q (X.p v).q).1 } { X.p v with q:=(mSteal (X.p i).N (X.p i).q (X.p v).q).2.1 }).flatMap_right Pm.l)
    simp only[List.flatMap_cons] at a1 a2;unfold Sd.all;show(X.gl++(X.ps.flatMap Pm.l++X.ms.flatMap Mm.l)).Perm (_++(X.gl++(((X.ps.set i _).set v _).flatMap Pm.l++X.ms.flatMap Mm.l)))
    rw[e2];simp only[List.nil_append];rw[←List.append_assoc];refine List.Perm.append_right _ ?_
    refine a1.trans ?_
    refine List.Perm.trans ?_ (a2.append_left _)
    have hs2:=hs.append_right (R.flatMap Pm.l)
    simpa [Pm.l,List.append_assoc] using hs2
   cases hs:(mSteal (X.p i).N (X.p i).q (X.p v).q).2.2 with
   | some g =>
    rw[hs] at hall;simp only
    exact⟨qa.trans qb,.inr ⟨by decide,hall⟩⟩
   | none =>
    rw[hs] at hall;exact⟨qa.trans qb,.inl ⟨rfl,rfl,hall.symm⟩⟩
  ·exact⟨Qs.refl X,.inl ⟨rfl,rfl,List.Perm.refl _⟩⟩
structure yM (B:Nat) (X:Sd):Prop where
 wf:WF B X.W
 np:1≤X.ps.length∧X.ps.length≤64
 nm:1≤X.ms.length∧X.ms.length≤64
 sl:1≤X.sl∧X.sl≤1024
 st:X.st≤B
 N:∀j,j<X.ps.length→1≤(X.p j).N∧(X.p j).N≤1024
 ll:∀j,(X.p j).q.l.length≤(X.p j).N
 tu:∀j,(X.p j).tu≤B
 by_:∀j,-1≤(X.p j).by_∧(X.p j).by_<(X.ms.length:Int)
 m0:∀i,(X.m i).P = -1→(X.m i).G = -1∧(X.m i).L=0
 m1:∀i,i<X.ms.length→(X.m i).P ≠ -1→(0≤(X.m i).P∧(X.m i).P<(X.ps.length:Int))∧(X.p (X.m i).P.toNat).by_=(i:Int)
 mL:∀i,0≤(X.m i).L∧(X.m i).L≤1024∧((X.m i).G ≠ -1→1≤(X.m i).L)
 nd:X.all.Nodup
 mem:∀h,h∈X.all↔∃k:Nat,h=(k:Int)∧(X.W.g k).st=1
theorem Yy:∀(n:Nat) (l:List Int),l.Nodup→(∀x∈l,0≤x∧x<(n:Int))→l.length≤n
 | 0,l,_,h=>by
  cases l with
  | nil=>simp
  | cons x t=>have:=h x (by simp);omega
 | n+1,l,hn,h=>by
  have h1:=Yy n (l.erase (n:Int)) (hn.erase _) (fun x hx=>by
   have hx2:=(List.Nodup.mem_erase_iff hn).1 hx
   have:=h x hx2.2
   omega)
  have h2:l.length≤(l.erase (n:Int)).length+1:=by rw[List.length_erase];split<;>omega
  omega
theorem yM.bound {B:Nat}{X:Sd}(h:yM B X):X.all.length≤100:=by
 refine Nat.le_trans (Yy X.W.gs.length _ h.nd (fun x hx=>?_)) h.wf.g1.2
 obtain⟨k,rfl,hk⟩:=(h.mem x).1 hx
 refine⟨by omega,?_⟩
 rcases Nat.lt_or_ge k X.W.gs.length with h1|h1
 ·omega
 ·rw[Wk (by omega)] at hk;exact absurd hk (by decide)
theorem yM.gl {B:Nat}{X:Sd}(h:yM B X):X.gl.length≤100:=by
 have:=h.bound
 unfold Sd.all at this;rw[List.length_append] at this;omega
theorem yM.lets {B:Nat}{X:Sd}(h:yM B X){m:Nat}(hm:m<X.ms.length)(hG:(X.m m).G ≠ -1):∃k:Nat,(X.m m).G=(k:Int)∧(X.W.g k).st=1∧k<X.W.gs.length:=by
 obtain⟨R,h1,-⟩:=JM hm;have:(X.m m).G∈X.all:=h1.mem_iff.2 (by unfold Mm.l;rw[if_neg hG];simp)
 obtain⟨k,e,hk⟩:=(h.mem _).1 this
 refine⟨k,e,hk,?_⟩
 rcases Nat.lt_or_ge k X.W.gs.length with h1|h1
 ·exact h1
 ·rw[Wk (by omega)] at hk;exact absurd hk (by decide)
theorem yM.qs {B:Nat}{X Y:Sd}(h:yM B X)(q:Qs X Y)(hp:Y.all.Perm X.all):yM B Y:=by
 refine⟨by rw[q.W];exact h.wf,by rw[q.len];exact h.np,by rw[q.ms];exact h.nm,by rw[q.sl];exact h.sl,by rw[q.st];exact h.st,fun j hj=>by rw[(q.p j).2.1];exact h.N j (by rw[←q.len];exact hj),q.ll h.ll,fun j=>by rw[(q.p j).2.2];exact h.tu j,fun j=>by rw[(q.p j).1,q.ms];exact h.by_ j,
  fun i hi=>?_,fun i hi hP=>?_,fun i=>?_,hp.nodup_iff.2 h.nd,fun x=>by rw[hp.mem_iff,q.W];exact h.mem x⟩
 ·unfold Sd.m at *;rw[q.ms] at hi ⊢;exact h.m0 i hi
 ·have e:Y.m i=X.m i:=by unfold Sd.m;rw[q.ms]
  rw[e] at hP ⊢;rw[q.ms] at hi;obtain⟨a,b⟩:=h.m1 i hi hP;exact⟨by rw[q.len];exact a,by rw[(q.p _).1];exact b⟩
 ·have e:Y.m i=X.m i:=by unfold Sd.m;rw[q.ms]
  rw[e];exact h.mL i
theorem yM.mono {B C:Nat}{X:Sd}(h:yM B X)(hb:B≤C):yM C X :=
 ⟨h.wf.mono hb,h.np,h.nm,h.sl,Nat.le_trans h.st hb,h.N,h.ll,fun j=>Nat.le_trans (h.tu j) hb,h.by_,h.m0,h.m1,h.mL,h.nd,h.mem⟩
theorem yM.Ba {B:Nat}{X:Sd}(h:yM B X){s:Nat}(hs:s≤B):yM B { X with st:=s }:=⟨h.wf,h.np,h.nm,h.sl,hs,h.N,h.ll,h.tu,h.by_,h.m0,h.m1,h.mL,h.nd,h.mem⟩
def x5 (x:Sd×Int×Int):Ending:=.returned (.tuple #[.int .i64 x.2.1,.int .i64 x.2.2])
def Fit {sp:Nat}(D:UR sp)(s:D.T)(asks:Option (Int×Int))(v:Int)(s':D.T):Prop :=
 (asks=none∧v=0∧s'=s)∨∃k n,asks=some (k,n)∧(0≤v∧v<n)∧D.Dv s k n v s'
def WV (w0:World)(b sp:Nat)(L:Sl)(D:UR sp)(s:D.T)(X:Sd)(R:List zy)(j:Nat)(asks:Option (Int×Int))(res:Int→Sd×Ending)(r:Ending)(w':World):Prop :=
 (∃v s',Fit D s asks v s'∧D.ok j s'∧r=(res v).2∧zV w0 w' b sp L (res v).1 (D.A s'++R)) ∨
 (∃ch s' k n,r=.panicked ch∧asks=some (k,n)∧D.Dp s k n r s'∧D.ok j s'∧zV w0 w' b sp L X (D.A s'++R))
theorem JA {X:Sd}{i:Nat}{g:Int}(h:(nearM (yN X i) i).2=some g)(v:Nat):zz X i v=((nearM (yN X i) i).1,4,g):=by
 unfold zz;simp only;rw[h]
theorem Hf {X:Sd}{i:Nat}(hi:i<X.ps.length)(h:(nearM (yN X i) i).2=none)(h1:¬1<X.ps.length)(v:Nat):zz X i v=(X,6,-1):=by
 unfold zz;simp only;rw[h];simp only
 rw[if_neg (fun hc=>h1 hc.1),(YA hi h).2.2]
theorem RM {X:Sd}{i:Nat}(hi:i<X.ps.length)(h:(nearM (yN X i) i).2=none):zz X i i=(X,6,-1):=by
 unfold zz;simp only;rw[h];simp only
 rw[if_neg (fun hc=>hc.2 rfl),(YA hi h).2.2]
theorem U1 {X:Sd}{i v:Nat}(hi:i<X.ps.length)(h:(nearM (yN X i) i).2=none)(h1:1<X.ps.length)(hv:v≠i):zz X i v =
  ((X.zH i { X.p i with q:=(mSteal (X.p i).N (X.p i).q (X.p v).q).1 }).zH v { X.p v with q:=(mSteal (X.p i).N (X.p i).q (X.p v).q).2.1 },if(mSteal (X.p i).N (X.p i).q (X.p v).q).2.2.isSome then 5 else 6,((mSteal (X.p i).N (X.p i).q (X.p v).q).2.2).getD (-1)):=by
 unfold zz;simp only;rw[h];simp only
 rw[if_pos ⟨h1,hv⟩,(YA hi h).2.2]
 cases (mSteal (X.p i).N (X.p i).q (X.p v).q).2.2 with
 | some g=>rfl
 | none=>rfl
theorem O9 {w0 w:World}{b sp:Nat}{L:Sl}{X:Sd}{R:List zy}(h:zV w0 w b sp L X R){i v p g p' g':Nat}(hi:i<X.ps.length)(hv:v<X.ps.length)(hld:L.ld[i]?=some (p,g))(hld':L.ld[v]?=some (p',g'))(hn:(nearM (yN X i) i).2=none)(h1:1<X.ps.length) :
  Calls Tryz.prog 96 #[.pointer (some ⟨p,0,none⟩),.pointer (some ⟨p',0,none⟩)] w fun r w'=>∃x,r=.returned (Zh x)∧zV w0 w' b sp L (zz X i v).1 R∧(zz X i v).2=(if x.isSome then 5 else 6,x.getD (-1)):=by
 by_cases hne:i=v
 ·subst hne
  rw[hld] at hld'
  cases hld'
  refine(Rh w p).mono (fun r w' hh=>⟨none,hh.1,?_,?_⟩)
  ·rw[RM hi hn,hh.2];exact h
  ·rw[RM hi hn];rfl
 ·refine(KI h hi hv hne hld hld').mono (fun r w' hh=>⟨_,hh.1,?_,?_⟩)
  ·rw[U1 hi hn h1 (fun e=>hne e.symm)];exact hh.2
  ·rw[U1 hi hn h1 (fun e=>hne e.symm)]
theorem Rf {w0 w:World}{b sp:Nat}{L:Sl}{X:Sd}{R:List zy}{D:UR sp}{s:D.T}{j:Nat}(h:zV w0 w b sp L X (D.A s++R))(hok:D.ok (j+1) s){i pb off:Nat}(hi:i<X.ps.length)(hpa:L.pa=some ⟨pb,off,none⟩)(hl:X.gl.length≤100000)(hll:(X.p i).q.l.length≤2000)(htu:(X.p i).tu≤1000000)(hn:X.ps.length≤1000) :
  Calls Tryz.prog 84 #[.pointer (some ⟨b,0,none⟩),.pointer (some ⟨pb,off+i*3,none⟩)] w (WV w0 b sp L D s X R j (if XM X i then some (2,(X.ps.length:Int)) else none) (fun v=>((zz X i v.toNat).1,x5 (zz X i v.toNat)))):=by
 obtain⟨_,_,p,g,-,hld⟩:=h.pa hi;have hT:=PZ h hi hld (by omega)
 have hx0:=(h.proc hi hpa hld).1.1
 have hgl:(yN X i).gl.length≤1000000:=by
  show(mTurn (X.p i).N (X.p i).q X.gl).2.1.length≤_
  unfold mTurn;split
  ·simp only;omega
  ·rename_i v _
   have:=Kx (X.p i).N ⟨none,(X.p i).q.l⟩ v X.gl
   simp only at this;omega
 have hiT:i<(yN X i).ps.length:=by unfold yN Sd.zH;simpa using hi
 have htT:((yN X i).p i).tu≤1000000:=by
  have:=(OF hi).p i
  rw[this.2.2];exact htu
 have HN:=Qq (fun(wx:World) (hx:zV w0 wx b sp L (yN X i) (D.A s++R))=>Kw hx hiT hpa hgl htT)
 have HT:=Qq (fun(wx:World) (hx:zV w0 wx b sp L X (D.A s++R))=>PZ hx hi hld (by omega))
 have HPR:=Qq (fun(wx:World) (hx:zV w0 wx b sp L X (D.A s++R))=>(hx.proc hi hpa hld).1.1)
 have HST:=Qq (fun(wx:World) (R':List zy) (hx:zV w0 wx b sp L X R') (v:Nat) (hv:v<X.ps.length) (hnn:(nearM (yN X i) i).2=none) (h1:1<X.ps.length)=>(by
  obtain⟨pb',off',p',g',e1,e2⟩:=hx.pa hv;rw[hpa] at e1;cases e1
  exact⟨p',(hx.proc hv hpa e2).1.1,(hx.proc hi hpa hld).1.1,fun wy hy=>O9 hy hi hv hld e2 hnn h1⟩:∃p',wx.cell? ⟨pb,off+v*3,none⟩=some (.pointer (some ⟨p',0,none⟩))∧wx.cell? ⟨pb,off+i*3,none⟩=some (.pointer (some ⟨p,0,none⟩))∧∀wy,zV w0 wy b sp L X R' →
   Calls Tryz.prog 96 #[.pointer (some ⟨p,0,none⟩),.pointer (some ⟨p',0,none⟩)] wy fun r w'=>∃x,r=.returned (Zh x)∧zV w0 w' b sp L (zz X i v).1 R'∧(zz X i v).2=(if x.isSome then 5 else 6,x.getD (-1))))
 have HNO:=Qq (fun(hnn:(nearM (yN X i) i).2=none)=>(YA hi hnn).2.2)
 have HONE:=Qq (fun(hnn:(nearM (yN X i) i).2=none) (h1:¬1<X.ps.length)=>Hf hi hnn h1 0)
 have HDR:=Qq (fun(wx:World) (n:Int) (hn:1≤n∧n<9223372036854775808) (hx:zV w0 wx b sp L X (D.A s++R))=>(by
  obtain⟨S,h1,h2⟩:=hx.tail;rw[List.append_assoc] at h1;refine(D.hd s 2 n (R++S) j hok hn h1).mono (fun r w' hh=>?_)
  rcases hh with⟨v,s',a1,a2,a3,a4,a5⟩|⟨ch,s',a1,a2,a3,a4⟩
  ·exact .inl ⟨v,s',a1,a2,a3,a4,h2 _ _ (by rw[List.append_assoc];exact a5)⟩
  ·exact .inr ⟨ch,s',a1,a2,a3,h2 _ _ (by rw[List.append_assoc];exact a4)⟩:Calls Tryz.prog 52 #[.pointer (some ⟨sp,0,none⟩),.int .i64 2,.int .i64 n] wx fun r w' =>
   (∃v s',r=.returned (.int .i64 v)∧(0≤v∧v<n)∧D.Dv s 2 n v s'∧D.ok j s'∧zV w0 w' b sp L X (D.A s'++R))∨(∃ch s',r=.panicked ch∧D.Dp s 2 n r s'∧D.ok j s'∧zV w0 w' b sp L X (D.A s'++R))))
 have H:=Qq h;have HOK:=Qq hok;obtain⟨NN,hNN⟩:∃NN,NN=nearM (yN X i) i:=⟨_,rfl⟩
 have HV:Hid (XM X i=(NN.2.isNone&&decide (1<X.ps.length))):=Qq (by rw[hNN];rfl)
 have HS:Hid (∀v g,NN.2=some g→zz X i v=(NN.1,4,g)):=Qq (fun v g e=>by rw[hNN] at e ⊢;exact JA e v)
 simp only[←hNN] at HN HST HNO HONE
 obtain⟨NP,hNP⟩:∃NP,NP=X.ps.length:=⟨_,rfl⟩
 obtain⟨C12,ZB⟩:=h.ZB;have HC12:Hid (∀wx,zV w0 wx b sp L X (D.A s++R)→∃c,wx.cell? ⟨b,12,none⟩=some (.slice (some ⟨pb,off,none⟩) NP c)):=Qq (fun wx hx=>by
  obtain⟨c,hc⟩:=hx.ZB;rw[hpa,←hNP] at hc;exact⟨c,hc⟩)
 have HC11:Hid (∀wx R',zV w0 wx b sp L X R'→wx.cell? ⟨b,11,none⟩=some (.pointer (some ⟨sp,0,none⟩))∧∃c,wx.cell? ⟨b,12,none⟩=some (.slice (some ⟨pb,off,none⟩) NP c)):=Qq (fun wx R' hx=>by
  obtain⟨c,hc⟩:=hx.ZB;rw[hpa,←hNP] at hc;exact⟨hx.ZW,c,hc⟩)
 simp only[←hNP] at HST HONE HV hn ⊢
 generalize hak:(if XM X i then some ((2:Int),(NP:Int)) else none)=ak
 have HAK:=Qq hak;clear h hok hT hx0 hgl hiT htT hld hpa hl hll htu hi hNN hNP ZB hak;go_enter Tryz.func84,Tryz.ntmps84
 go_upto_region 1 with fail
 have x0:=HPR.out _ H.out;refine zi (fun wx=>∃nq,wx=World.drewN (w) nq) 7 1 (Array.replicate 8 false) (Qj 8 127) (by kernel_rfl) (by kernel_rfl) ?_
 refine ze 0 7 _ (Qj 8 127) 0 (by kernel_rfl) za (zE w) (by kernel_rfl) ?_
 simp only[QX,QV,QJ];(repeat((first|refine Qx (h:=?_)|refine Qw (h:=?_));simp only[Act.put,QW,QY,QZ]));refine zb ?_;refine zm ?_;refine zP 7 (by kernel_rfl) ?_
 simp only[QQ,QJ];go_wp2_with fail;refine(HT.out _ (H.out.step (zv w _))).mono ?_
 rintro r w1 ⟨rfl,h1⟩;have H1:=Qq h1;clear h1 HT H x0;go_wp2_with fail;refine NoPanic.normal ?_
 go_wp2_with fail;refine(HN.out _ H1.out).mono ?_
 rintro r w2 ⟨rfl,h2⟩;have H2:=Qq h2;clear h2 HN H1;obtain⟨Y,x⟩:=NN;cases x with
 | some gg =>
  have HR:Hid (WV w0 b sp L D s X R j ak (fun v=>((zz X i v.toNat).1,x5 (zz X i v.toNat))) (x5 (Y,4,gg)) w2):=Qq (by
   rw[←HAK.out,HV.out];simp only[Option.isNone_some,Bool.false_and,Bool.false_eq_true,if_false];refine .inl ⟨0,s,.inl ⟨rfl,rfl,rfl⟩,D.less _ _ HOK.out,?_,?_⟩
   ·simp only;rw[HS.out _ _ rfl]
   ·simp only;rw[HS.out _ _ rfl];exact H2.out)
  unfold Zh;simp only[Option.getD_some,Option.isSome_some];clear HPR HST HNO HONE HDR HV HS HC12 HC11 H2;go_wp2;go_ret2
  exact HR.out
 | none =>
  have hY:=HNO.out rfl;simp only at hY
  subst hY;have HV2:Hid (XM Y i=decide (1<NP)):=Qq (by rw[HV.out];simp)
  unfold Zh;simp only[Option.getD_none,Option.isSome_none];obtain⟨e11,ZB,e12⟩:=HC11.out _ _ H2.out;simp only at H2 HST HONE
  by_cases h1:1<NP
  ·have hNP:(1:Int)<(NP:Int):=by omega
   have H1:=Qq h1;clear h1 HS HNO HV HONE;go_upto_region 6 with fail
   refine Xw (fun wx=>∃nq,wx=World.drewN (w2) nq) 9 2 (Array.replicate 11 false) (Qj 11 511) (by kernel_rfl) (by kernel_rfl) ?_
   refine YL 0 9 _ (Qj 11 511) 0 (by kernel_rfl)  (zE w2) (by kernel_rfl) ?_
   simp only[QX,QV,QJ];(repeat((first|refine Qx (h:=?_)|refine Qw (h:=?_));simp only[Act.put,QW,QY,QZ]));refine zb ?_;refine Vq ?_;refine VS 9 (by kernel_rfl) ?_
   simp only[QQ,QJ];go_wp2_with fail;refine(HDR.out _ (NP:Int) (by omega) (H2.out.step (zv w2 _))).mono ?_
   rintro r w3 hp
   rcases hp with⟨v,s',rfl,hv,hdv,hok,h3⟩|⟨ch,s',rfl,hdp,hok,h3⟩
   ·obtain⟨vn,rfl⟩:∃vn:Nat,v=(vn:Int):=⟨v.toNat,by omega⟩
    have hvl:(vn:Int)<(NP:Int):=hv.2
    have hv0:(0:Int)≤(vn:Int):=hv.1
    have HVD:=Qq (And.intro hv (And.intro hdv hok))
    obtain⟨p',y1,y0,hst⟩:=HST.out _ _ h3 vn (by omega) trivial H1.out
    obtain⟨-,x6,e13⟩:=HC11.out _ _ h3;have HS1:=Qq (fun wx (hx:zV w0 wx b sp L Y (D.A s'++R))=>hst wx hx)
    have H3:=Qq h3;clear hv hdv hok hst h3 HDR HST HPR H2 e11 e12 HC12 HC11;go_upto_region 7 with fail
    refine zi (fun wx=>∃nq,wx=World.drewN (w3) nq) 12 6 (Array.replicate 18 false) (Qj 18 4095) (by kernel_rfl) (by kernel_rfl) ?_
    refine ze 0 12 _ (Qj 18 4095) 0 (by kernel_rfl) za (zE w3) (by kernel_rfl) ?_
    simp only[QX,QV,QJ];(repeat((first|refine Qx (h:=?_)|refine Qw (h:=?_));simp only[Act.put,QW,QY,QZ]));refine zb ?_;refine zm ?_;refine yz (fun _=>True) 6 0 (Qj 18 262143) ?_
    refine zB 12 _ (Qj 18 8191) 5 (by kernel_rfl) (fun K hK=>?_)
    have HKK:=Qq hK;clear hK;simp only[QQ,QJ];refine zc (by rfl) ?_;go_simp;refine(HS1.out _ (H3.out.step (zv w3 _))).mono ?_
    rintro r w4 ⟨x,rfl,h4,e4⟩;have HR:Hid (WV w0 b sp L D s Y R j ak (fun v=>((zz Y i v.toNat).1,x5 (zz Y i v.toNat))) (.returned (.tuple #[.int .i64 (if x.isSome then 5 else 6),.int .i64 (x.getD (-1))])) w4):=Qq (by
     rw[←HAK.out,HV2.out,decide_eq_true H1.out];refine .inl ⟨(vn:Int),s',.inr ⟨2,(NP:Int),rfl,HVD.out.1,HVD.out.2.1⟩,HVD.out.2.2,?_,h4⟩
     show _=x5 (zz Y i vn)
     unfold x5;rw[e4])
    clear h4 e4 HS1 H3;cases x with
    | none =>
     unfold Zh;simp only[Option.getD_none,Option.isSome_none];refine HKK.out _ _ (trivial) ?_
     clear HKK K;refine ze 13 5 _ (Qj 18 262143) 0 (by kernel_rfl) za (trivial) (by kernel_rfl) ?_
     simp only[QX,QV,QQ,QJ];(repeat((first|refine Qx (h:=?_)|refine Qv (h:=?_));simp only[Act.put,QW,QY,QZ]));refine zb ?_;refine zm ?_;refine zD (by kernel_rfl) (NoPanic.normal ?_)
     go_wp2;go_ret2
     exact HR.out
    | some gg =>
     unfold Zh;simp only[Option.getD_some,Option.isSome_some];refine HKK.out _ _ (trivial) ?_
     clear HKK K;refine ze 13 5 _ (Qj 18 262143) 0 (by kernel_rfl) za (trivial) (by kernel_rfl) ?_
     simp only[QX,QV,QQ,QJ];(repeat((first|refine Qx (h:=?_)|refine Qv (h:=?_));simp only[Act.put,QW,QY,QZ]));refine zb ?_;refine zm ?_;refine zD (by kernel_rfl) (NoPanic.normal ?_)
     go_wp2;go_ret2
     exact HR.out
   ·have HR:Hid (WV w0 b sp L D s Y R j ak (fun v=>((zz Y i v.toNat).1,x5 (zz Y i v.toNat))) (.panicked ch) w3):=Qq (by
     rw[←HAK.out,HV2.out,decide_eq_true H1.out];exact .inr ⟨ch,s',2,(NP:Int),rfl,rfl,hdp,hok,h3⟩)
    exact⟨rfl,HR.out⟩
  ·have hNP:¬(1:Int)<(NP:Int):=by omega
   have HR:Hid (WV w0 b sp L D s Y R j ak (fun v=>((zz Y i v.toNat).1,x5 (zz Y i v.toNat))) (x5 (Y,6,-1)) w2):=Qq (by
    rw[←HAK.out,HV2.out,decide_eq_false h1];simp only[Bool.false_eq_true,if_false];refine .inl ⟨0,s,.inl ⟨rfl,rfl,rfl⟩,D.less _ _ HOK.out,?_,?_⟩
    ·show x5 _=x5 (zz Y i 0);rw[HONE.out trivial h1]
    ·show zV w0 w2 b sp L (zz Y i 0).1 _;rw[HONE.out trivial h1];exact H2.out)
   clear h1 HPR HST HNO HONE HDR HV HS HC12 HC11 H2 HV2;go_wp2;go_ret2
   exact HR.out
theorem Xm {X:Sd}{m:Nat}(hm:m<X.ms.length)(M:Mm):∃R,X.all.Perm ((X.m m).l++R)∧(X.zL m M).all.Perm (M.l++R):=by
 obtain⟨R,h1,h2⟩:=JM hm;exact⟨R,h1,h2 _ _ rfl rfl rfl⟩
theorem Vf {X:Sd}{m:Nat}(hm:m<X.ms.length)(M:Mm)(e:M.l=(X.m m).l):(X.zL m M).all.Perm X.all:=by
 obtain⟨R,h1,h2⟩:=Xm hm M;rw[e] at h2;exact h2.trans h1.symm
theorem WX {X:Sd}{i:Nat}(hi:i<X.ps.length)(P:Pm)(e:P.l=(X.p i).l):(X.zH i P).all.Perm X.all:=by
 obtain⟨R,h1,h2⟩:=Ti hi;have:=h2 (X.zH i P) P rfl rfl
 rw[e] at this;exact this.trans h1.symm
theorem yM.hold {B:Nat}{X:Sd}(h:yM B X){m:Nat}(hm:m<X.ms.length)(hP:(X.m m).P = -1):yM B (holdM X m).1:=by
 unfold holdM;split
 ·rename_i i hi
  rw[List.findIdx?_eq_some_iff_getElem] at hi
  obtain⟨hil,hb,-⟩:=hi;have hbi:(X.p i).by_ = -1:=by
   have e:=X.ZS hil;rw[List.getElem?_eq_getElem hil] at e
   simp only[Option.some.injEq] at e;rw[←e];simpa using hb
  have hml:m<(X.zH i { X.p i with by_:=(m:Int) }).ms.length:=hm
  have hpp:∀j,((X.zH i { X.p i with by_:=(m:Int) }).zL m { X.m m with P:=(i:Int) }).p j=if i=j then{ X.p i with by_:=(m:Int) } else X.p j:=fun j=>Wc hil _ j
  have hmm:∀j,((X.zH i { X.p i with by_:=(m:Int) }).zL m { X.m m with P:=(i:Int) }).m j=if m=j then{ X.m m with P:=(i:Int) } else X.m j:=fun j=>xh hml _ j
  have hall:=(Vf hml { X.m m with P:=(i:Int) } rfl).trans (WX hil { X.p i with by_:=(m:Int) } rfl)
  have hlp:((X.zH i { X.p i with by_:=(m:Int) }).zL m { X.m m with P:=(i:Int) }).ps.length=X.ps.length:=by unfold Sd.zL Sd.zH;simp
  have hlm:((X.zH i { X.p i with by_:=(m:Int) }).zL m { X.m m with P:=(i:Int) }).ms.length=X.ms.length:=by unfold Sd.zL Sd.zH;simp
  refine⟨h.wf,by rw[hlp];exact h.np,by rw[hlm];exact h.nm,h.sl,h.st,fun j hj=>?_,fun j=>?_,fun j=>?_,fun j=>?_,fun j hj=>?_,fun j hj hne=>?_,fun j=>?_,hall.nodup_iff.2 h.nd,fun x=>hall.mem_iff.trans (h.mem x)⟩
  ·rw[hlp] at hj;rw[hpp];split
   ·exact h.N i hil
   ·exact h.N j hj
  ·rw[hpp];split
   ·exact h.ll i
   ·exact h.ll j
  ·rw[hpp];split
   ·exact h.tu i
   ·exact h.tu j
  ·rw[hpp,hlm];split
   ·simp only;omega
   ·exact h.by_ j
  ·rw[hmm] at hj ⊢
   split at hj
   ·simp only at hj;omega
   ·rename_i e;rw[if_neg e];exact h.m0 j hj
  ·rw[hmm] at hne ⊢
   rw[hlm] at hj;rw[hpp,hlp];split
   ·rename_i e;subst e
    simp only[Int.toNat_natCast];exact⟨by omega,by rw[if_pos trivial]⟩
   ·rename_i e
    rw[if_neg e] at hne;obtain⟨a,b⟩:=h.m1 j hj hne;refine⟨a,?_⟩
    rw[if_neg (fun e2=>by rw[←e2,hbi] at b;omega)]
    exact b
  ·rw[hmm];split
   ·exact h.mL m
   ·exact h.mL j
 ·exact h
theorem yM.at {B:Nat}{X:Sd}(h:yM B X){m:Nat}(hm:m<X.ms.length)(hP:(X.m m).P ≠ -1):∃i:Nat,(X.m m).P=(i:Int)∧i<X.ps.length∧(X.p i).by_=(m:Int):=by
 obtain⟨a,b⟩:=h.m1 m hm hP;exact⟨(X.m m).P.toNat,by omega,by omega,b⟩
theorem yM.CK {B:Nat}{X:Sd}(h:yM B X){m i:Nat}(hm:m<X.ms.length)(hi:i<X.ps.length)(hP:(X.m m).P=(i:Int))(hG:(X.m m).G = -1):yM B ((X.zH i { X.p i with by_:=-1 }).zL m ⟨-1,-1,0⟩):=by
 have hml:m<(X.zH i { X.p i with by_:=-1 }).ms.length:=hm
 have hpp:∀j,((X.zH i { X.p i with by_:=-1 }).zL m ⟨-1,-1,0⟩).p j=if i=j then{ X.p i with by_:=-1 } else X.p j:=fun j=>Wc hi _ j
 have hmm:∀j,((X.zH i { X.p i with by_:=-1 }).zL m ⟨-1,-1,0⟩).m j=if m=j then⟨-1,-1,0⟩ else X.m j:=fun j=>xh hml _ j
 have hall:=(Vf hml ⟨-1,-1,0⟩ (by
  show Mm.l _=Mm.l (X.m m)
  unfold Mm.l;rw[hG])).trans (WX hi { X.p i with by_:=-1 } rfl)
 have hlp:((X.zH i { X.p i with by_:=-1 }).zL m ⟨-1,-1,0⟩).ps.length=X.ps.length:=by unfold Sd.zL Sd.zH;simp
 have hlm:((X.zH i { X.p i with by_:=-1 }).zL m ⟨-1,-1,0⟩).ms.length=X.ms.length:=by unfold Sd.zL Sd.zH;simp
 have hby:(X.p i).by_=(m:Int):=by
  obtain⟨-,b⟩:=h.m1 m hm (by rw[hP];omega)
  rw[hP,Int.toNat_natCast] at b;exact b
 refine⟨h.wf,by rw[hlp];exact h.np,by rw[hlm];exact h.nm,h.sl,h.st,fun j hj=>?_,fun j=>?_,fun j=>?_,fun j=>?_,fun j hj=>?_,fun j hj hne=>?_,fun j=>?_,hall.nodup_iff.2 h.nd,fun x=>hall.mem_iff.trans (h.mem x)⟩
 ·rw[hlp] at hj;rw[hpp];split
  ·exact h.N i hi
  ·exact h.N j hj
 ·rw[hpp];split
  ·exact h.ll i
  ·exact h.ll j
 ·rw[hpp];split
  ·exact h.tu i
  ·exact h.tu j
 ·rw[hpp,hlm];split
  ·have:=h.nm;simp only;omega
  ·exact h.by_ j
 ·rw[hmm] at hj ⊢
  split
  ·exact⟨rfl,rfl⟩
  ·rename_i e;rw[if_neg e] at hj;exact h.m0 j hj
 ·rw[hmm] at hne ⊢
  rw[hlm] at hj;rw[hpp,hlp];split
  ·rename_i e;rw[if_pos e] at hne;exact absurd rfl hne
  ·rename_i e
   rw[if_neg e] at hne;obtain⟨a,b⟩:=h.m1 j hj hne;refine⟨a,?_⟩
   rw[if_neg (fun e2=>by rw[←e2,hby] at b;omega)]
   exact b
 ·rw[hmm];split
  ·exact⟨by decide,by decide,fun hc=>absurd rfl hc⟩
  ·exact h.mL j
theorem yM.look {B:Nat}{X:Sd}(h:yM B X){m v:Nat}(hm:m<X.ms.length)(hP:(X.m m).P ≠ -1)(hG:(X.m m).G = -1)(hv:v<X.ps.length):yM (B+1) (yG X m v).1:=by
 obtain⟨i,hi,hil,hby⟩:=h.at hm hP;unfold yG;simp only
 have hi2:(X.m m).P.toNat=i:=by rw[hi,Int.toNat_natCast]
 rw[hi2];have hMl:(X.m m).l=[]:=by unfold Mm.l;rw[if_pos hG]
 split
 ·rename_i hc
  obtain⟨g,hg⟩:∃g,(X.p i).q.nx=some g:=by
   cases e:(X.p i).q.nx with
   | none=>have:=hc.2;rw[e] at this;cases this
   | some g=>exact⟨g,rfl⟩
  have hget:mGet (X.p i).q=(⟨none,(X.p i).q.l⟩,some g):=by unfold mGet;rw[hg]
  rw[hget];simp only[Option.getD_some];have hq:=Qs.QT (Y:=X.zH i { X.p i with q:=⟨none,(X.p i).q.l⟩ }) hil ⟨none,(X.p i).q.l⟩ (fun h=>h) rfl rfl rfl rfl rfl
  obtain⟨R,r1,r2⟩:=Ti hil;have r3:=r2 (X.zH i { X.p i with q:=⟨none,(X.p i).q.l⟩ }) _ rfl rfl
  have r4:X.all.Perm (g::(X.zH i { X.p i with q:=⟨none,(X.p i).q.l⟩ }).all):=by
   refine r1.trans ?_
   have e1:(X.p i).l=g::(X.p i).q.l:=by unfold Pm.l;rw[hg];rfl
   rw[e1];refine List.perm_middle.trans (List.Perm.cons g ?_)
   exact r3.symm
  have hml:m<(X.zH i { X.p i with q:=⟨none,(X.p i).q.l⟩ }).ms.length:=hm
  obtain⟨S,s1,s2⟩:=Xm hml { X.m m with G:=g }
  have hgr:g ≠ -1:=by
   obtain⟨k,e,-⟩:=(h.mem g).1 (r4.mem_iff.2 (by simp));omega
  have e3:((X.zH i { X.p i with q:=⟨none,(X.p i).q.l⟩ }).m m).l=[]:=hMl
  rw[e3,List.nil_append] at s1;have hall:((X.zH i { X.p i with q:=⟨none,(X.p i).q.l⟩ }).zL m { X.m m with G:=g }).all.Perm X.all:=by
   refine s2.trans ?_
   have:Mm.l { X.m m with G:=g }=[g]:=by unfold Mm.l;rw[if_neg hgr]
   rw[this];exact(List.Perm.cons g s1.symm).trans r4.symm
  have hXm:=Xm hm { X.m m with G:=g }
  have hpp:∀j,((X.zH i { X.p i with q:=⟨none,(X.p i).q.l⟩ }).zL m { X.m m with G:=g }).p j=if i=j then{ X.p i with q:=⟨none,(X.p i).q.l⟩ } else X.p j:=fun j=>Wc hil _ j
  have hmm:∀j,((X.zH i { X.p i with q:=⟨none,(X.p i).q.l⟩ }).zL m { X.m m with G:=g }).m j=if m=j then{ X.m m with G:=g } else X.m j:=fun j=>xh hml _ j
  have hlp:((X.zH i { X.p i with q:=⟨none,(X.p i).q.l⟩ }).zL m { X.m m with G:=g }).ps.length=X.ps.length:=hq.len
  have hlm:((X.zH i { X.p i with q:=⟨none,(X.p i).q.l⟩ }).zL m { X.m m with G:=g }).ms.length=X.ms.length:=by unfold Sd.zL Sd.zH;simp
  have hb2:B≤B+1:=by omega
  refine⟨h.wf.mono hb2,by rw[hlp];exact h.np,by rw[hlm];exact h.nm,h.sl,Nat.le_trans h.st hb2,fun j hj=>?_,fun j=>?_,fun j=>?_,fun j=>?_,fun j hj=>?_,fun j hj hne=>?_,fun j=>?_,hall.nodup_iff.2 h.nd,fun x=>hall.mem_iff.trans (h.mem x)⟩
  ·rw[hlp] at hj;rw[hpp];split
   ·exact h.N i hil
   ·exact h.N j hj
  ·rw[hpp];split
   ·exact h.ll i
   ·exact h.ll j
  ·rw[hpp];split
   ·have:=h.tu i;simp only;omega
   ·have:=h.tu j;omega
  ·rw[hpp,hlm];split
   ·exact h.by_ i
   ·exact h.by_ j
  ·rw[hmm] at hj ⊢
   split at hj
   ·exact absurd hj hP
   ·rename_i e;rw[if_neg e];exact h.m0 j hj
  ·rw[hmm] at hne ⊢
   rw[hlm] at hj;rw[hpp,hlp];have key:∀(a:Nat) (b:Int),(X.p a).by_=b→(if i=a then({ X.p i with q:=⟨none,(X.p i).q.l⟩ }:Pm) else X.p a).by_=b:=fun a b hab=>by
    split
    ·rename_i e;rw[←e] at hab;exact hab
    ·exact hab
   split
   ·rename_i e;subst e
    obtain⟨a,b⟩:=h.m1 m hm hP;exact⟨a,key _ _ b⟩
   ·rename_i e
    rw[if_neg e] at hne;obtain⟨a,b⟩:=h.m1 j hj hne;exact⟨a,key _ _ b⟩
  ·rw[hmm];split
   ·have:=h.mL m
    exact⟨this.1,this.2.1,fun _=>by have:=hc.1;simp only;omega⟩
   ·exact h.mL j
 ·obtain⟨q,hq⟩:=PI hil hv
  have hms:(zz X i v).1.ms=X.ms:=q.ms
  have hmX:(zz X i v).1.m m=X.m m:=by unfold Sd.m;rw[hms]
  have hm1:m<(zz X i v).1.ms.length:=by rw[hms];exact hm
  have hi1:i<(zz X i v).1.ps.length:=by rw[q.len];exact hil
  rcases hq with⟨k1,k2,k3⟩|⟨k1,k2⟩
  ·rw[if_pos k1]
   have h1:=h.qs q k3;exact(h1.CK hm1 hi1 (by rw[hmX];exact hi) (by rw[hmX];exact hG)).mono (by omega)
  ·rw[if_neg k1]
   simp only
   generalize (zz X i v).2.2=g at *
   generalize (zz X i v).1=Y at *
   have hgr:g ≠ -1:=by
    obtain⟨k,e,-⟩:=(h.mem g).1 (k2.mem_iff.2 (by simp));omega
   have hml:m<(Y.zH i { Y.p i with tu:=(Y.p i).tu+1 }).ms.length:=hm1
   obtain⟨S,s1,s2⟩:=Xm hml { X.m m with G:=g,L:=Y.sl }
   have e3:((Y.zH i { Y.p i with tu:=(Y.p i).tu+1 }).m m).l=[]:=by
    show Mm.l (Y.m m)=[];rw[hmX];exact hMl
   rw[e3,List.nil_append] at s1;have hsp:=WX hi1 { Y.p i with tu:=(Y.p i).tu+1 } rfl
   have hall:((Y.zH i { Y.p i with tu:=(Y.p i).tu+1 }).zL m { X.m m with G:=g,L:=Y.sl }).all.Perm X.all:=by
    refine s2.trans ?_
    have:Mm.l { X.m m with G:=g,L:=Y.sl }=[g]:=by unfold Mm.l;rw[if_neg hgr]
    rw[this];exact(List.Perm.cons g (s1.symm.trans hsp)).trans k2.symm
   have hpp:∀j,((Y.zH i { Y.p i with tu:=(Y.p i).tu+1 }).zL m { X.m m with G:=g,L:=Y.sl }).p j=if i=j then{ Y.p i with tu:=(Y.p i).tu+1 } else Y.p j:=fun j=>Wc hi1 _ j
   have hmm:∀j,((Y.zH i { Y.p i with tu:=(Y.p i).tu+1 }).zL m { X.m m with G:=g,L:=Y.sl }).m j=if m=j then{ X.m m with G:=g,L:=Y.sl } else Y.m j:=fun j=>xh hml _ j
   have hlp:((Y.zH i { Y.p i with tu:=(Y.p i).tu+1 }).zL m { X.m m with G:=g,L:=Y.sl }).ps.length=X.ps.length:=by rw[←q.len];unfold Sd.zL Sd.zH;simp
   have hlm:((Y.zH i { Y.p i with tu:=(Y.p i).tu+1 }).zL m { X.m m with G:=g,L:=Y.sl }).ms.length=X.ms.length:=by rw[←hms];unfold Sd.zL Sd.zH;simp
   have hYm:∀j,Y.m j=X.m j:=fun j=>by unfold Sd.m;rw[hms]
   rw[hmX];have hW:((Y.zH i { Y.p i with tu:=(Y.p i).tu+1 }).zL m { X.m m with G:=g,L:=Y.sl }).W=X.W:=q.W
   refine⟨by rw[hW];exact h.wf.mono (by omega),by rw[hlp];exact h.np,by rw[hlm];exact h.nm,by show 1≤Y.sl∧Y.sl≤1024;rw[q.sl];exact h.sl,by show Y.st≤B+1;rw[q.st];have:=h.st;omega,fun j hj=>?_,fun j=>?_,fun j=>?_,fun j=>?_,fun j hj=>?_,fun j hj hne=>?_,fun j=>?_,hall.nodup_iff.2 h.nd,fun x=>by rw[hall.mem_iff,hW];exact h.mem x⟩
   ·rw[hlp] at hj;rw[hpp];split
    ·show 1≤(Y.p i).N∧_;rw[(q.p i).2.1];exact h.N i hil
    ·rw[(q.p j).2.1];exact h.N j hj
   ·rw[hpp];split
    ·exact q.ll h.ll i
    ·exact q.ll h.ll j
   ·rw[hpp];split
    ·show(Y.p i).tu+1≤B+1;rw[(q.p i).2.2];have:=h.tu i;omega
    ·rw[(q.p j).2.2];have:=h.tu j;omega
   ·rw[hpp,hlm];split
    ·show -1≤(Y.p i).by_∧_;rw[(q.p i).1];exact h.by_ i
    ·rw[(q.p j).1];exact h.by_ j
   ·rw[hmm] at hj ⊢
    split at hj
    ·exact absurd hj hP
    ·rename_i e;rw[if_neg e,hYm];rw[hYm] at hj;exact h.m0 j hj
   ·rw[hmm] at hne ⊢
    rw[hlm] at hj;rw[hpp,hlp];have key:∀(a:Nat) (b:Int),(X.p a).by_=b→(if i=a then({ Y.p i with tu:=(Y.p i).tu+1 }:Pm) else Y.p a).by_=b:=fun a b hab=>by
     split
     ·rename_i e;rw[←e] at hab;show(Y.p i).by_=b;rw[(q.p i).1];exact hab
     ·rw[(q.p a).1];exact hab
    split
    ·rename_i e;subst e
     obtain⟨a,b⟩:=h.m1 m hm hP;exact⟨a,key _ _ b⟩
    ·rename_i e
     rw[if_neg e,hYm] at hne;rw[hYm];obtain⟨a,b⟩:=h.m1 j hj hne;exact⟨a,key _ _ b⟩
   ·rw[hmm];split
    ·have h2:=h.sl
     show 0≤Y.sl∧Y.sl≤1024∧(_→1≤Y.sl)
     rw[q.sl];exact⟨by omega,by omega,fun _=>by omega⟩
    ·rw[hYm];exact h.mL j
theorem L3 {a b c:List Int}:(a++(b++c)).Perm (b++(a++c)):=by
 rw[←List.append_assoc,←List.append_assoc];exact List.perm_append_comm.append_right c
theorem yM.run {B:Nat}{X:Sd}(h:yM B X)(hB:B≤80000){m:Nat}(hm:m<X.ms.length)(hP:(X.m m).P ≠ -1)(hG:(X.m m).G ≠ -1)(hen:X.W.en=0)(d:Int):yM (B+X.W.ks.length+1) (runM X m d).1:=by
 obtain⟨i,hi,hil,hby⟩:=h.at hm hP;obtain⟨k,hk,hks,hkl⟩:=h.lets hm hG;have hlets:X.W.lets (k:Int):=⟨hen,by omega,by omega,by simpa using hks⟩
 have hB2:B≤B+X.W.ks.length+1:=by omega
 have hwf:=(h.wf.exec hB (k:Int) d).1
 obtain⟨rd,hkeep⟩:=TK h.wf hB hlets d;unfold runM;simp only
 have hk2:(X.m m).G.toNat=k:=by rw[hk,Int.toNat_natCast]
 have hi2:(X.m m).P.toNat=i:=by rw[hi,Int.toNat_natCast]
 rw[hk2,hi2];rw[←hk] at hwf rd hkeep;obtain⟨e,he⟩:∃e,e=zG X.W (X.m m).G d:=⟨_,rfl⟩
 rw[←he] at hwf rd hkeep ⊢;have hil2:i<({ X with W:=e.1 }:Sd).ps.length:=hil
 obtain⟨q,hq⟩:=WC e.2.2 { X with W:=e.1 } i hil2
 have hall0:({ X with W:=e.1 }:Sd).all=X.all:=rfl
 rw[hall0] at hq;obtain⟨Y,hY⟩:∃Y,Y=ym { X with W:=e.1 } i e.2.2:=⟨_,rfl⟩
 rw[←hY] at q hq ⊢;have hYW:Y.W=e.1:=q.W
 have hYm:∀j,Y.m j=X.m j:=fun j=>by unfold Sd.m;rw[q.ms]
 have hYml:Y.ms.length=X.ms.length:=by rw[q.ms]
 have hYpl:Y.ps.length=X.ps.length:=q.len
 have hkin:(k:Int)∈X.all:=by
  obtain⟨R,r1,-⟩:=JM hm;exact r1.mem_iff.2 (by unfold Mm.l;rw[if_neg hG,hk];simp)
 have hndY:Y.all.Nodup:=by
  refine hq.nodup_iff.2 ?_
  rw[List.nodup_append];refine⟨rd.nd,h.nd,fun a ha b hb e2=>?_⟩
  subst e2;obtain⟨j,rfl,-,c,-⟩:=rd.st a ha;obtain⟨j',e3,c'⟩:=(h.mem _).1 hb
  have:j=j':=by omega
  subst this;exact c c'
 have hkn:(k:Int)∉e.2.2:=fun hc=>by
  obtain⟨j,e3,c,-⟩:=rd.st _ hc;exact c (by omega)
 have hmemY:∀x,x∈Y.all↔x=(k:Int)∨∃j:Nat,x=(j:Int)∧j≠k∧(e.1.g j).st=1:=fun x=>by
  rw[hq.mem_iff,List.mem_append];constructor
  ·rintro(hx|hx)
   ·obtain⟨j,e3,c,-,c2⟩:=rd.st x hx
    exact .inr ⟨j,e3,c,c2⟩
   ·obtain⟨j,e3,c⟩:=(h.mem x).1 hx
    by_cases hjk:j=k
    ·exact .inl (by rw[e3,hjk])
    ·by_cases hin:(j:Int)∈e.2.2
     ·obtain⟨j2,e4,c3,-,c4⟩:=rd.st _ hin
      have:j=j2:=by omega
      subst this;exact .inr ⟨j,e3,hjk,c4⟩
     ·exact .inr ⟨j,e3,hjk,(rd.oth j hjk hin).2 c⟩
  ·rintro(hx|⟨j,e3,c,c2⟩)
   ·exact .inr (by rw[hx];exact hkin)
   ·by_cases hin:(j:Int)∈e.2.2
    ·exact .inl (by rw[e3];exact hin)
    ·exact .inr ((h.mem x).2 ⟨j,e3,(rd.oth j c hin).1 c2⟩)
 have base:∀(M:Mm) (gl':List Int),M.P=(X.m m).P→(0≤M.L∧M.L≤1024∧(M.G ≠ -1→1≤M.L))→({ Y.zL m M with gl:=gl' }:Sd).all.Nodup→(∀x,x∈({ Y.zL m M with gl:=gl' }:Sd).all↔∃j:Nat,x=(j:Int)∧(e.1.g j).st=1)→yM (B+X.W.ks.length+1) { Y.zL m M with gl:=gl' }:=fun M gl' eP hL hnd hmem=>by
  have hm1:m<Y.ms.length:=by rw[hYml];exact hm
  have hmm:∀j,({ Y.zL m M with gl:=gl' }:Sd).m j=if m=j then M else X.m j:=fun j=>by
   have:=xh hm1 M j
   rw[hYm] at this;exact this
  have hlm:({ Y.zL m M with gl:=gl' }:Sd).ms.length=X.ms.length:=by rw[←hYml];unfold Sd.zL;simp
  refine⟨by show WF _ Y.W;rw[hYW];exact hwf,by show 1≤Y.ps.length∧Y.ps.length≤64;rw[hYpl];exact h.np,by rw[hlm];exact h.nm,by show 1≤Y.sl∧Y.sl≤1024;rw[q.sl];exact h.sl,by show Y.st≤_;rw[q.st];show X.st≤_;have:=h.st;omega,
   fun j hj=>by show 1≤(Y.p j).N∧(Y.p j).N≤1024;rw[(q.p j).2.1];exact h.N j (by rw[←hYpl];exact hj),fun j=>q.ll h.ll j,fun j=>by show(Y.p j).tu≤_;rw[(q.p j).2.2];exact Nat.le_trans (h.tu j) hB2,fun j=>by rw[hlm];show -1≤(Y.p j).by_∧(Y.p j).by_<_;rw[(q.p j).1];exact h.by_ j,
   fun j hj=>?_,fun j hj hne=>?_,fun j=>?_,hnd,fun x=>by rw[hmem];show _↔∃k:Nat,x=(k:Int)∧(Y.W.g k).st=1;rw[hYW]⟩
  ·rw[hmm] at hj ⊢
   split at hj
   ·rw[eP] at hj;exact absurd hj hP
   ·rename_i e;rw[if_neg e];exact h.m0 j hj
  ·rw[hmm] at hne ⊢
   rw[hlm] at hj;have key:∀(a:Nat),(Y.p a).by_=(X.p a).by_:=fun a=>(q.p a).1
   split
   ·rename_i e;subst e
    rw[eP];obtain⟨a,b⟩:=h.m1 m hm hP;exact⟨by show 0≤(X.m m).P∧(X.m m).P<(Y.ps.length:Int);rw[hYpl];exact a,by show(Y.p _).by_=_;rw[key];exact b⟩
   ·rename_i e
    rw[if_neg e] at hne;obtain⟨a,b⟩:=h.m1 j hj hne;exact⟨by show 0≤(X.m j).P∧(X.m j).P<(Y.ps.length:Int);rw[hYpl];exact a,by show(Y.p _).by_=_;rw[key];exact b⟩
  ·rw[hmm];split
   ·exact hL
   ·exact h.mL j
 have hmL:=h.mL m;have hLpos:=hmL.2.2 hG;have hm1:m<Y.ms.length:=by rw[hYml];exact hm
 rw[hYm];split
 ·rename_i hc
  obtain⟨c1,c2⟩:=hkeep hc.1;have hsame:(Y.zL m { X.m m with L:=(X.m m).L-1 }).all.Perm Y.all:=Vf hm1 _ (by rw[hYm];rfl)
  refine base { X.m m with L:=(X.m m).L-1 } Y.gl rfl ⟨by have:=hc.2;simp only;omega,by simp only;omega,fun _=>by have:=hc.2;simp only;omega⟩ (hsame.nodup_iff.2 hndY) (fun x=>?_)
  refine hsame.mem_iff.trans ((hmemY x).trans ?_)
  constructor
  ·rintro(rfl|⟨j,e3,-,c⟩)
   ·exact⟨k,rfl,c1⟩
   ·exact⟨j,e3,c⟩
  ·rintro⟨j,e3,c⟩
   by_cases hjk:j=k
   ·exact .inl (by rw[e3,hjk])
   ·exact .inr ⟨j,e3,hjk,c⟩
 ·obtain⟨R,r1,r2⟩:=Xm hm1 { X.m m with G:=-1,L:=(X.m m).L-1 }
  have eM:(Y.m m).l=[(k:Int)]:=by rw[hYm];unfold Mm.l;rw[if_neg hG,hk]
  have eM2:Mm.l { X.m m with G:=-1,L:=(X.m m).L-1 }=[]:=by unfold Mm.l;rw[if_pos rfl]
  rw[eM] at r1;rw[eM2,List.nil_append] at r2;have hperm:Y.all.Perm ((k:Int)::(Y.zL m { X.m m with G:=-1,L:=(X.m m).L-1 }).all):=r1.trans (List.Perm.cons _ r2.symm)
  have hnd1:=hperm.nodup_iff.1 hndY;rw[List.nodup_cons] at hnd1;have hmem1:∀x,x∈(Y.zL m { X.m m with G:=-1,L:=(X.m m).L-1 }).all↔∃j:Nat,x=(j:Int)∧j≠k∧(e.1.g j).st=1:=fun x=>by
   constructor
   ·intro hx
    rcases(hmemY x).1 (hperm.mem_iff.2 (by simp[hx])) with rfl|hh
    ·exact absurd hx hnd1.1
    ·exact hh
   ·rintro⟨j,e3,c,c2⟩
    have:=hperm.mem_iff.1 ((hmemY x).2 (.inr ⟨j,e3,c,c2⟩))
    rcases List.mem_cons.1 this with h5|h5
    ·exact absurd (by omega) c
    ·exact h5
  have hL2:0≤(X.m m).L-1∧(X.m m).L-1≤1024∧((-1:Int) ≠ -1→1≤(X.m m).L-1):=⟨by omega,by omega,fun hc=>absurd rfl hc⟩
  rw[show(Y.W.g k).st=(e.1.g k).st by rw[hYW]]
  by_cases hst:(e.1.g k).st=1
  ·rw[if_pos hst,show[(X.m m).G]=[(k:Int)] by rw[hk]]
   have hp2:({ Y.zL m { X.m m with G:=-1,L:=(X.m m).L-1 } with gl:=Y.gl++[(k:Int)] }:Sd).all.Perm ((k:Int)::(Y.zL m { X.m m with G:=-1,L:=(X.m m).L-1 }).all):=by
    unfold Sd.all;show((Y.gl++[(k:Int)])++_).Perm ((k:Int)::(Y.gl++_))
    rw[List.append_assoc];exact List.perm_middle
   refine base { X.m m with G:=-1,L:=(X.m m).L-1 } (Y.gl++[(k:Int)]) rfl hL2 (hp2.nodup_iff.2 (List.nodup_cons.2 hnd1)) (fun x=>?_)
   rw[hp2.mem_iff,List.mem_cons,hmem1];constructor
   ·rintro(rfl|⟨j,e3,-,c⟩)
    ·exact⟨k,rfl,hst⟩
    ·exact⟨j,e3,c⟩
   ·rintro⟨j,e3,c⟩
    by_cases hjk:j=k
    ·exact .inl (by rw[e3,hjk])
    ·exact .inr ⟨j,e3,hjk,c⟩
  ·rw[if_neg hst]
   refine base { X.m m with G:=-1,L:=(X.m m).L-1 } Y.gl rfl hL2 hnd1.2 (fun x=>?_)
   refine(hmem1 x).trans ?_
   constructor
   ·rintro⟨j,e3,-,c⟩;exact⟨j,e3,c⟩
   ·rintro⟨j,e3,c⟩
    exact⟨j,e3,fun hjk=>hst (by rw[←hjk];exact c),c⟩
theorem yM.clock {B:Nat}{X:Sd}(h:yM B X):yM (B+1) (Xn X).1:=by
 have tk:=PV h.wf;have hwf:=h.wf.tick.1;have hp:(Xn X).1.all.Perm ((yO X.W).2++X.all):=by
  unfold Sd.all Xn;show((X.gl++(yO X.W).2)++_).Perm _
  rw[List.append_assoc];exact L3
 have hb2:B≤B+1:=by omega
 refine⟨hwf,h.np,h.nm,h.sl,Nat.le_trans h.st hb2,h.N,h.ll,fun j=>Nat.le_trans (h.tu j) hb2,h.by_,h.m0,h.m1,h.mL,hp.nodup_iff.2 ?_,fun x=>?_⟩
 ·rw[List.nodup_append]
  refine⟨tk.nd,h.nd,fun a ha b hb e=>?_⟩
  subst e;obtain⟨j,rfl,c,-⟩:=tk.st a ha;obtain⟨j',e3,c'⟩:=(h.mem _).1 hb
  have:j=j':=by omega
  subst this;exact c c'
 ·rw[hp.mem_iff,List.mem_append]
  show _↔∃k:Nat,x=(k:Int)∧((yO X.W).1.g k).st=1
  constructor
  ·rintro(hx|hx)
   ·obtain⟨j,e3,-,c⟩:=tk.st x hx
    exact⟨j,e3,c⟩
   ·obtain⟨j,e3,c⟩:=(h.mem x).1 hx
    by_cases hin:(j:Int)∈(yO X.W).2
    ·obtain⟨j2,e4,-,c4⟩:=tk.st _ hin
     have:j=j2:=by omega
     subst this;exact⟨j,e3,c4⟩
    ·exact⟨j,e3,by rw[tk.oth j hin];exact c⟩
  ·rintro⟨j,e3,c⟩
   by_cases hin:(j:Int)∈(yO X.W).2
   ·exact .inl (by rw[e3];exact hin)
   ·exact .inr ((h.mem x).2 ⟨j,e3,by rw[←tk.oth j hin];exact c⟩)
theorem yM.step {B:Nat}{X:Sd}(h:yM B X)(hB:B≤80000){m:Nat}(hm:m≤X.ms.length)(hen:X.W.en=0){d:Int}(hd:∀k n,Zd X m=some (k,n)→0≤d∧d<n):yM (B+X.W.ks.length+1) (ZC X m d).1:=by
 have key:∀{C:Nat} {Y:Sd},yM C Y→C≤B+X.W.ks.length+1→yM (B+X.W.ks.length+1) { Y with st:=X.st+1 }:=fun h1 h2=>(h1.mono h2).Ba (by have:=h.st;omega)
 unfold ZC zZ;split
 ·exact key h.clock (by omega)
 ·rename_i hne
  have hml:m<X.ms.length:=by omega
  split
  ·rename_i hP;exact key (h.hold hml hP) (by omega)
  ·rename_i hP
   split
   ·rename_i hG
    obtain⟨i,hi,hil,-⟩:=h.at hml hP;by_cases ha:∃k n,Zd X m=some (k,n)
    ·obtain⟨k,n,ha⟩:=ha
     have hd2:=hd k n ha;unfold Zd at ha;rw[if_neg hne,if_neg hP,if_pos hG] at ha;split at ha
     ·cases ha
     ·split at ha
      ·cases ha
       exact key (h.look hml hP hG (by omega)) (by omega)
      ·cases ha
    ·-- nothing is drawn: whatever d is,it isn't looked at
     have h0:(yG X m d.toNat)=(yG X m 0):=by
      have ha2:Zd X m=none:=by
       cases e:Zd X m with
       | none=>rfl
       | some kn=>exact absurd ⟨kn.1,kn.2,e⟩ ha
      unfold Zd at ha2;rw[if_neg hne,if_neg hP,if_pos hG] at ha2;unfold yG;simp only
      split at ha2
      ·rename_i hc;rw[if_pos hc,if_pos hc]
      ·rename_i hc
       rw[if_neg hc,if_neg hc];split at ha2
       ·cases ha2
       ·rename_i hv
        have:zz X (X.m m).P.toNat d.toNat=zz X (X.m m).P.toNat 0:=by
         unfold zz;simp only
         unfold XM at hv;cases hn:(nearM (yN X (X.m m).P.toNat) (X.m m).P.toNat).2 with
         | some g=>rfl
         | none =>
          rw[hn] at hv;simp only[Option.isNone_none,Bool.true_and,decide_eq_true_eq] at hv;simp only
          rw[if_neg (fun hh=>hv hh.1),if_neg (fun hh=>hv hh.1)]
        rw[this]
     rw[h0];exact key (h.look hml hP hG (by have:=h.np;omega)) (by omega)
   ·rename_i hG
    exact key (h.run hB hml hP hG hen d) (by omega)
def xX (W:Wd)(np nm:Nat)(ring sl:Int):Sd :=
 { W:=W,ps:=List.replicate np ⟨Zu ring,⟨none,[]⟩,0,-1⟩,ms:=List.replicate nm ⟨-1,-1,0⟩,gl:=[0],sl:=sl,st:=0 }
theorem RN {α:Type}(n:Nat)(a d:α)(i:Nat):(List.replicate n a).getD i d=if i<n then a else d:=by
 rw[List.getD_eq_getElem?_getD,List.getElem?_replicate];split<;>rfl
theorem KV {fs:List (List zS)}{ks:List Zc}{rooms:List Int}{zN:Nat}(hp:PW fs ks rooms.length zN){np nm:Nat}{ring sl:Int}(h1:1≤np∧np≤64)(h2:1≤nm∧nm≤64)(h3:1≤sl∧sl≤1024):yM 0 (xX (xu fs ks rooms zN) np nm ring sl):=by
 have ep:∀j,(xX (xu fs ks rooms zN) np nm ring sl).p j=if j<np then⟨Zu ring,⟨none,[]⟩,0,-1⟩ else default:=fun j=>RN _ _ _ _
 have em:∀j,(xX (xu fs ks rooms zN) np nm ring sl).m j=⟨-1,-1,0⟩:=fun j=>by
  show(List.replicate nm _).getD j _=_
  rw[RN];split<;>rfl
 have hall:(xX (xu fs ks rooms zN) np nm ring sl).all=[0]:=by
  unfold Sd.all xX;have e1:(List.replicate np (⟨Zu ring,⟨none,[]⟩,0,-1⟩:Pm)).flatMap Pm.l=[]:=by
   rw[List.flatMap_eq_nil_iff];intro x hx;rw[(List.mem_replicate.1 hx).2];rfl
  have e2:(List.replicate nm (⟨-1,-1,0⟩:Mm)).flatMap Mm.l=[]:=by
   rw[List.flatMap_eq_nil_iff];intro x hx;rw[(List.mem_replicate.1 hx).2];rfl
  simp only
  rw[e1,e2];rfl
 have hr:=Tk ring;refine⟨TM hp,by simpa [xX] using h1,by simpa [xX] using h2,h3,by simp[xX],fun j hj=>?_,fun j=>?_,fun j=>?_,fun j=>?_,fun j _=>by rw[em];exact⟨rfl,rfl⟩,fun j _ hne=>by rw[em] at hne;exact absurd rfl hne,fun j=>by rw[em];exact⟨by decide,by decide,fun hc=>absurd rfl hc⟩,by rw[hall];simp,fun x=>?_⟩
 ·have hj':j<np:=by simpa [xX] using hj
  rw[ep,if_pos hj'];exact hr
 ·rw[ep];split<;>simp[default]
 ·rw[ep];split<;>simp[default]
 ·rw[ep]
  have:1≤(xX (xu fs ks rooms zN) np nm ring sl).ms.length:=by simp[xX];omega
  split
  ·simp only;omega
  ·show -1≤(-1:Int)∧(-1:Int)<_;omega
 ·rw[hall,List.mem_singleton]
  show _↔∃k:Nat,x=(k:Int)∧((xu fs ks rooms zN).g k).st=1
  constructor
  ·rintro rfl;exact⟨0,rfl,rfl⟩
  ·rintro⟨k,rfl,hk⟩
   cases k with
   | zero=>rfl
   | succ k=>rw[Wk (by show ¬k+1<1;omega)] at hk;exact absurd hk (by decide)
def Ue (X:Sd)(m:Nat):Option (Int×Int):=if 0<(X.m m).L∧(X.p (X.m m).P.toNat).q.nx.isSome then none else if XM X (X.m m).P.toNat then some (2,(X.ps.length:Int)) else none
theorem Ie {X:Sd}{m i:Nat}{g:Int}(hi:(X.m m).P=(i:Int))(hL:0<(X.m m).L)(hg:(X.p i).q.nx=some g)(v:Nat):yG X m v=((X.zH i { X.p i with q:=⟨none,(X.p i).q.l⟩ }).zL m { X.m m with G:=g },4,g):=by
 unfold yG;simp only
 have hi2:(X.m m).P.toNat=i:=by rw[hi,Int.toNat_natCast]
 rw[hi2,if_pos ⟨hL,by rw[hg];rfl⟩]
 have hget:mGet (X.p i).q=(⟨none,(X.p i).q.l⟩,some g):=by unfold mGet;rw[hg]
 rw[hget];rfl
theorem M1 {X:Sd}{m i:Nat}(hi:(X.m m).P=(i:Int))(h:¬(0<(X.m m).L∧(X.p i).q.nx.isSome))(v:Nat):yG X m v =
  if(zz X i v).2.1=6 then(((zz X i v).1.zH i { (zz X i v).1.p i with by_:=-1 }).zL m ⟨-1,-1,0⟩,(zz X i v).2)
  else(((zz X i v).1.zH i { (zz X i v).1.p i with tu:=((zz X i v).1.p i).tu+1 }).zL m { (zz X i v).1.m m with G:=(zz X i v).2.2,L:=(zz X i v).1.sl },(zz X i v).2):=by
 unfold yG;simp only
 have hi2:(X.m m).P.toNat=i:=by rw[hi,Int.toNat_natCast]
 rw[hi2,if_neg h]
theorem xL (X:Sd)(m:Nat)(a c:Mm):(X.zL m a).zL m c=X.zL m c:=by unfold Sd.zL;simp
theorem Uc {X:Sd}{m:Nat}(hm:m<X.ms.length)(g l:Int):(X.zL m { X.m m with G:=g }).zL m { (X.zL m { X.m m with G:=g }).m m with L:=l }=X.zL m { X.m m with G:=g,L:=l }:=by
 rw[xL,xh hm,if_pos rfl]
theorem Ty {X:Sd}{m:Nat}(hm:m<X.ms.length)(p g l:Int):((X.zL m { X.m m with P:=p }).zL m { (X.zL m { X.m m with P:=p }).m m with G:=g }).zL m { ((X.zL m { X.m m with P:=p }).zL m { (X.zL m { X.m m with P:=p }).m m with G:=g }).m m with L:=l }=X.zL m ⟨p,g,l⟩:=by
 have h2:m<(X.zL m { X.m m with P:=p }).ms.length:=by simpa [Sd.zL] using hm
 rw[Uc h2,xL,xh hm,if_pos rfl]
theorem Lq {w0 w:World}{b sp:Nat}{L:Sl}{X:Sd}{R:List zy}{D:UR sp}{s:D.T}{j B:Nat}(h:zV w0 w b sp L X (D.A s++R))(hok:D.ok (j+1) s)(wf:yM B X)(hB:B≤80000){m:Nat}(hm:m<X.ms.length)(hP:(X.m m).P ≠ -1)(hG:(X.m m).G = -1) :
  Calls Tryz.prog 73 #[.pointer (some ⟨b,0,none⟩),.int .i64 (m:Int)] w (WV w0 b sp L D s X R j (Ue X m) (fun v=>((yG X m v.toNat).1,x5 (yG X m v.toNat)))):=by
 obtain⟨i,hPi,hi,hby⟩:=wf.at hm hP;obtain⟨pb,off,p,g,hpa,hld⟩:=h.pa hi;obtain⟨mb,off2,hma⟩:=h.ma hm;obtain⟨C12,ZB⟩:=h.ZB;obtain⟨C13,x6⟩:=h.x6;obtain⟨⟨x0,x1,x2⟩,-,-⟩:=h.proc hi hpa hld;obtain⟨⟨z0,z1,z2⟩,f0,f1,f2⟩:=h.xP hm hma;rw[hpa] at ZB;rw[hma] at x6;rw[hPi] at z0;have hgl:=wf.gl;have hll:=wf.ll i;have hN:=wf.N i hi;have htu:=wf.tu i;have hnp:=wf.np;have hnm:=wf.nm;have hmL:=wf.mL m;have hmX:(m:Int)<(X.ms.length:Int):=by omega
 have hm0:(0:Int)≤(m:Int):=by omega
 have hiX:(i:Int)<(X.ps.length:Int):=by omega
 have hi0:(0:Int)≤(i:Int):=by omega
 have eL:Ue X m=if 0<(X.m m).L∧(X.p i).q.nx.isSome then none else if XM X i then some (2,(X.ps.length:Int)) else none:=by unfold Ue;rw[hPi,Int.toNat_natCast]
 have HNX:=Qq (fun(wx:World) (hx:zV w0 wx b sp L X (D.A s++R))=>IT hx hi hld)
 have HG0:=Qq (fun(wx:World) (hx:zV w0 wx b sp L X (D.A s++R))=>Lh hx hi hld)
 have HX:=Qq (fun(wx:World) (hx:zV w0 wx b sp L X (D.A s++R))=>(hx.proc hi hpa hld).1.1)
 have HM:=Qq (fun(wx:World) (Y:Sd) (Z:List zy) (hx:zV w0 wx b sp L Y Z) (e:Y.ms.length=X.ms.length)=>hx.xP (i:=m) (by rw[e];exact hm) hma)
 have HPC:=Qq (fun(wx:World) (Y:Sd) (Z:List zy) (hx:zV w0 wx b sp L Y Z) (e:Y.ps.length=X.ps.length)=>hx.proc (i:=i) (by rw[e];exact hi) hpa hld)
 have H:=Qq h;by_cases hin:0<(X.m m).L∧(X.p i).q.nx.isSome
 ·obtain⟨gg,hgg⟩:∃g,(X.p i).q.nx=some g:=by
   cases e:(X.p i).q.nx with
   | none=>have:=hin.2;rw[e] at this;cases this
   | some g=>exact⟨g,rfl⟩
  have hg0:gg ≠ -1:=by
   have hgm:gg∈X.all:=by
    obtain⟨Rl,r1,-⟩:=Ti hi;exact r1.mem_iff.2 (by unfold Pm.l;rw[hgg];simp)
   obtain⟨k,e,-⟩:=(wf.mem gg).1 hgm;omega
  have hnum:(X.p i).q.num=gg:=by unfold LQ.num;rw[hgg];rfl
  have hget:mGet (X.p i).q=(⟨none,(X.p i).q.l⟩,some gg):=by unfold mGet;rw[hgg]
  have hLp:(X.m m).L>0:=hin.1
  have hne:(gg != -1)=true:=by simpa using hg0
  rw[eL,if_pos hin];have hres:∀v,yG X m v=((X.zH i { X.p i with q:=⟨none,(X.p i).q.l⟩ }).zL m { X.m m with G:=gg },4,gg):=fun v=>Ie hPi hin.1 hgg v
  rw[hnum] at HNX;rw[hget] at HG0;have HRES:=Qq hres;have HOK:=Qq hok;have HMM:=Qq hm;have HMA:=Qq hma;have hms1:(X.zH i { X.p i with q:=⟨none,(X.p i).q.l⟩ }).ms.length=X.ms.length:=rfl
  have HMS:=Qq hms1;have HG1:=Qq hG;obtain⟨LL,hLL⟩:∃LL,LL=(X.m m).L:=⟨_,rfl⟩
  rw[←hLL] at z2 hLp;clear hms1 hin hnum hget hgg eL hres hok wf hm hP hG hPi hi hby hpa hld hma h hgl hll hN htu hmL hnp hnm hg0 hLL x1 x2 z1 f0 f2 HPC;go_enter Tryz.func73,Tryz.ntmps73
  go_upto_region 2 with fail
  refine zi (fun wx=>∃nq,wx=World.drewN (w) nq) 10 0 (Array.replicate 10 false) (Qj 10 1023) (by kernel_rfl) (by kernel_rfl) ?_
  refine ze 0 10 _ (Qj 10 1023) 0 (by kernel_rfl) za (zE w) (by kernel_rfl) ?_
  simp only[QX,QV,QJ];(repeat((first|refine Qx (h:=?_)|refine Qw (h:=?_));simp only[Act.put,QW,QY,QZ]));refine zb ?_;refine zm ?_;refine zD (by kernel_rfl) (NoPanic.normal ?_)
  go_wp2_with fail;refine(HNX.out _ (H.out.step (zv w _))).mono ?_
  rintro r w1 ⟨rfl,rfl⟩;have H1:=Qq (H.out.step (zv w 1))
  clear HNX;go_wp2_with fail;refine(HG0.out _ H1.out).mono ?_
  rintro r w2 ⟨rfl,h2⟩;obtain⟨⟨-,u1,-⟩,-,f1,-⟩:=HM.out _ _ _ h2 HMS.out;have h3:=h2.ye (i:=m) (by rw[HMS.out];exact HMM.out) HMA.out gg
  have v1:=(h3.xP (i:=m) (by simp only[Sd.zL,Sd.zH,List.length_set];exact HMM.out) HMA.out).1.2.1
  rw[xh (X:=X.zH i { X.p i with q:=⟨none,(X.p i).q.l⟩ }) (by exact HMM.out),if_pos rfl] at v1
  have H3:=Qq h3;clear h2 h3 HG0 H1 HM HMS HX H HG1;unfold Zh;simp only[Option.getD_some,Option.isSome_some];go_upto_region 5 with fail
  clear u1 f1;generalize w2.setCell ⟨mb,off2+m*3+1,none⟩ (.int .i64 gg)=w3 at *
  refine zi (fun wx=>∃nq,wx=World.drewN (w3) nq) 6 0 (Array.replicate 6 false) (Qj 6 63) (by kernel_rfl) (by kernel_rfl) ?_
  refine ze 0 6 _ (Qj 6 63) 0 (by kernel_rfl) za (zE w3) (by kernel_rfl) ?_
  simp only[QX,QV,QJ];(repeat((first|refine Qx (h:=?_)|refine Qw (h:=?_));simp only[Act.put,QW,QY,QZ]));refine zb ?_;refine zm ?_;refine zD (by kernel_rfl) (NoPanic.normal ?_)
  have HR:Hid (WV w0 b sp L D s X R j none (fun v=>((yG X m v.toNat).1,x5 (yG X m v.toNat))) (.returned (.tuple #[.int .i64 4,.int .i64 gg])) (w3.drewN 1)):=Qq (by
   refine .inl ⟨0,s,.inl ⟨rfl,rfl,rfl⟩,D.less _ _ HOK.out,?_,?_⟩
   ·show _=x5 (yG X m (Int.toNat 0));rw[HRES.out];rfl
   ·show zV w0 _ b sp L (yG X m (Int.toNat 0)).1 _;rw[HRES.out];exact H3.out.step (zv w3 1))
  clear H3 HRES;go_wp2;go_ret2
  exact HR.out
 ·rw[eL,if_neg hin]
  have HNEW:=Qq (fun(wx:World) (hx:zV w0 wx b sp L X (D.A s++R))=>Rf hx hok hi hpa (by omega) (by omega) (by omega) (by omega))
  have HQ:=Qq (fun(v:Nat) (hv:v<X.ps.length)=>(PI hi hv).1)
  have HRES:=Qq (fun v=>M1 hPi hin v)
  have HFV:Hid (∀v s',Fit D s (if XM X i then some ((2:Int),(X.ps.length:Int)) else none) v s'→v.toNat<X.ps.length):=Qq (fun v s' hv=>by
   rcases hv with⟨-,rfl,-⟩|⟨k,n,e,hv,-⟩
   ·simp;omega
   ·split at e
    ·cases e;omega
    ·cases e)
  have HMM:=Qq hm;have HMA:=Qq hma;have HPA:=Qq hpa;have HI:=Qq hi;have hnum:∀wx,zV w0 wx b sp L X (D.A s++R)→(X.m m).L>0→Calls Tryz.prog 56 #[.pointer (some ⟨p,0,none⟩)] wx fun r w'=>r=.returned (.int .i64 (-1))∧w'=wx:=fun wx hx hL=>by
   have e:(X.p i).q.num = -1:=by
    unfold LQ.num;cases e:(X.p i).q.nx with
    | none=>rfl
    | some g=>exact absurd ⟨hL,by rw[e];rfl⟩ hin
   have:=HNX.out wx hx
   rw[e] at this;exact this
  have HNUM:=Qq hnum;have HTU:Hid (∀v,v<X.ps.length→((zz X i v).1.p i).tu≤80000):=Qq (fun v hv=>by rw[((PI hi hv).1.p i).2.2];omega)
  have HG1:=Qq hG;generalize hak:(if XM X i then some ((2:Int),(X.ps.length:Int)) else none)=ak at *
  obtain⟨LL,hLL⟩:∃LL,LL=(X.m m).L:=⟨_,rfl⟩
  rw[←hLL] at z2 HNUM;clear hnum hin eL hok wf hm hP hG hPi hi hby hpa hld hma h hgl hll hN htu hmL hnp hnm hLL x1 x2 z1 f0 f1 f2 HNX HG0 hak;go_enter Tryz.func73,Tryz.ntmps73
  go_upto_region 2 with fail
  refine zi (fun wx=>∃nq,wx=World.drewN (w) nq) 10 0 (Array.replicate 10 false) (Qj 10 1023) (by kernel_rfl) (by kernel_rfl) ?_
  refine ze 0 10 _ (Qj 10 1023) 0 (by kernel_rfl) za (zE w) (by kernel_rfl) ?_
  simp only[QX,QV,QJ];(repeat((first|refine Qx (h:=?_)|refine Qw (h:=?_));simp only[Act.put,QW,QY,QZ]));refine zb ?_;refine zm ?_;refine zD (by kernel_rfl) (NoPanic.normal ?_)
  have H1:=Qq (H.out.step (zg w))
  by_cases hLp:LL>0
  ·go_wp2_with fail
   refine(HNUM.out _ H1.out hLp).mono ?_
   rintro r w1 ⟨rfl,rfl⟩;go_wp2_with fail;refine(HNEW.out _ H1.out).mono ?_
   rintro r w2 hp
   rcases hp with⟨v,s',hfit,hok,rfl,h2⟩|⟨ch,s',k,n,rfl,hk,hdp,hok,h2⟩
   ·have hv:=HFV.out v s' hfit
    have q:=HQ.out v.toNat hv;have hres:=HRES.out v.toNat;have htu2:=HTU.out v.toNat hv;have HFIT:=Qq (And.intro hfit hok)
    clear hfit hok HNEW HFV HQ HRES HTU HNUM;unfold x5 at h2 ⊢
    simp only at h2 ⊢
    generalize zz X i v.toNat=N at *;obtain⟨Y,kd,gg⟩:=N;simp only at q htu2 h2 hres ⊢
    have hml:m<Y.ms.length:=by rw[q.ms];exact HMM.out
    have hil:i<Y.ps.length:=by rw[q.len];exact HI.out
    obtain⟨⟨u0,u1,u2⟩,f0,f1,f2⟩:=h2.xP hml HMA.out;obtain⟨_,_,p',g',-,hld'⟩:=h2.pa hil;obtain⟨⟨-,y1,y2⟩,e1,e2⟩:=h2.proc hil HPA.out hld';have HQQ:=Qq q;by_cases h6:kd=6
    ·subst h6
     rw[if_pos rfl] at hres;have h3:=h2.Jj hil HPA.out (-1)
     have h4:=h3.zH (i:=m) hml HMA.out (-1)
     have h5:=h4.ye (i:=m) (by simpa [Sd.zL,Sd.zH] using hml) HMA.out (-1)
     have h6:=h5.setL (i:=m) (by simpa [Sd.zL,Sd.zH] using hml) HMA.out 0
     have HR:=Qq (And.intro hres h6)
     obtain⟨⟨a0,a1,a2⟩,b0,b1,b2⟩:=h3.xP (i:=m) hml HMA.out
     clear h2 h3 h4 h5 h6 hres q hld' htu2;go_upto_region 9 with fail
     generalize w2.setCell ⟨pb,off+i*3+2,none⟩ (.int .i64 (-1))=w3 at *
     clear u0 u1 u2 f0 f1 f2 y1 y2 e1 e2;have HRR:Hid (WV w0 b sp L D s X R j ak (fun v=>((yG X m v.toNat).1,x5 (yG X m v.toNat))) (.returned (.tuple #[.int .i64 6,.int .i64 gg])) (((w3.setCell ⟨mb,off2+m*3,none⟩ (.int .i64 (-1))).setCell ⟨mb,off2+m*3+1,none⟩ (.int .i64 (-1))).setCell ⟨mb,off2+m*3+2,none⟩ (.int .i64 0))):=Qq (by
      obtain⟨r1,r2⟩:=HR.out;refine .inl ⟨v,s',HFIT.out.1,HFIT.out.2,?_,?_⟩
      ·simp only;rw[r1];rfl
      ·simp only;rw[r1];simp only
       rw[←Ty (X:=Y.zH i { Y.p i with by_:=-1 }) (by exact hml)];exact r2)
     clear HR;go_wp2;go_ret2
     exact HRR.out
    ·rw[if_neg h6] at hres
     have hk6:(kd==6)=false:=by simpa using h6
     have hwr:IntKind.i64.wrap (((Y.p i).tu:Int)+1)=((Y.p i).tu:Int)+1:=by rw[IntKind.wrap_i64];omega
     have h3:=h2.FP hil HPA.out ((Y.p i).tu+1)
     rw[show(((Y.p i).tu+1:Nat):Int)=((Y.p i).tu:Int)+1 by omega] at h3
     have h4:=h3.ye (i:=m) hml HMA.out gg
     have h5:=h4.setL (i:=m) (by simpa [Sd.zL,Sd.zH] using hml) HMA.out Y.sl
     have HR:=Qq (And.intro hres h5)
     obtain⟨⟨-,a1,a2⟩,-,b1,b2⟩:=h3.xP (i:=m) hml HMA.out
     have DD:=h3.DD;clear h2 h4 h5 hres q hld' htu2 h6;go_upto_region 12 with fail
     generalize w2.setCell ⟨pb,off+i*3+1,none⟩ (.int .i64 (((Y.p i).tu:Int)+1))=w3 at *
     clear u0 u1 u2 f0 f1 f2 y1 y2 e1 e2 h3;have HRR:Hid (WV w0 b sp L D s X R j ak (fun v=>((yG X m v.toNat).1,x5 (yG X m v.toNat))) (.returned (.tuple #[.int .i64 kd,.int .i64 gg])) ((w3.setCell ⟨mb,off2+m*3+1,none⟩ (.int .i64 gg)).setCell ⟨mb,off2+m*3+2,none⟩ (.int .i64 Y.sl))):=Qq (by
      obtain⟨r1,r2⟩:=HR.out;refine .inl ⟨v,s',HFIT.out.1,HFIT.out.2,?_,?_⟩
      ·simp only;rw[r1];rfl
      ·simp only;rw[r1];simp only
       rw[show({ Y.m m with G:=gg,L:=Y.sl }:Mm)={ (Y.zH i { Y.p i with tu:=(Y.p i).tu+1 }).m m with G:=gg,L:=Y.sl } from rfl,←Uc (X:=Y.zH i { Y.p i with tu:=(Y.p i).tu+1 }) (by exact hml)];exact r2)
     have hsl:(Y.zH i { Y.p i with tu:=(Y.p i).tu+1 }).sl=Y.sl:=rfl
     rw[hsl] at DD;clear HR hsl;generalize Y.sl=ysl at *;go_wp2;go_ret2
     exact HRR.out
   ·have HR:Hid (WV w0 b sp L D s X R j ak (fun v=>((yG X m v.toNat).1,x5 (yG X m v.toNat))) (.panicked ch) w2):=Qq (.inr ⟨ch,s',k,n,rfl,hk,hdp,hok,h2⟩)
    exact⟨rfl,HR.out⟩
  ·have hLn:¬LL>0:=hLp
   go_wp2_with fail;refine(HNEW.out _ H1.out).mono ?_
   rintro r w2 hp
   rcases hp with⟨v,s',hfit,hok,rfl,h2⟩|⟨ch,s',k,n,rfl,hk,hdp,hok,h2⟩
   ·have hv:=HFV.out v s' hfit
    have q:=HQ.out v.toNat hv;have hres:=HRES.out v.toNat;have htu2:=HTU.out v.toNat hv;have HFIT:=Qq (And.intro hfit hok)
    clear hfit hok HNEW HFV HQ HRES HTU HNUM;unfold x5 at h2 ⊢
    simp only at h2 ⊢
    generalize zz X i v.toNat=N at *;obtain⟨Y,kd,gg⟩:=N;simp only at q htu2 h2 hres ⊢
    have hml:m<Y.ms.length:=by rw[q.ms];exact HMM.out
    have hil:i<Y.ps.length:=by rw[q.len];exact HI.out
    obtain⟨⟨u0,u1,u2⟩,f0,f1,f2⟩:=h2.xP hml HMA.out;obtain⟨_,_,p',g',-,hld'⟩:=h2.pa hil;obtain⟨⟨-,y1,y2⟩,e1,e2⟩:=h2.proc hil HPA.out hld';have HQQ:=Qq q;by_cases h6:kd=6
    ·subst h6
     rw[if_pos rfl] at hres;have h3:=h2.Jj hil HPA.out (-1)
     have h4:=h3.zH (i:=m) hml HMA.out (-1)
     have h5:=h4.ye (i:=m) (by simpa [Sd.zL,Sd.zH] using hml) HMA.out (-1)
     have h6:=h5.setL (i:=m) (by simpa [Sd.zL,Sd.zH] using hml) HMA.out 0
     have HR:=Qq (And.intro hres h6)
     obtain⟨⟨a0,a1,a2⟩,b0,b1,b2⟩:=h3.xP (i:=m) hml HMA.out
     clear h2 h3 h4 h5 h6 hres q hld' htu2;go_upto_region 9 with fail
     generalize w2.setCell ⟨pb,off+i*3+2,none⟩ (.int .i64 (-1))=w3 at *
     clear u0 u1 u2 f0 f1 f2 y1 y2 e1 e2;have HRR:Hid (WV w0 b sp L D s X R j ak (fun v=>((yG X m v.toNat).1,x5 (yG X m v.toNat))) (.returned (.tuple #[.int .i64 6,.int .i64 gg])) (((w3.setCell ⟨mb,off2+m*3,none⟩ (.int .i64 (-1))).setCell ⟨mb,off2+m*3+1,none⟩ (.int .i64 (-1))).setCell ⟨mb,off2+m*3+2,none⟩ (.int .i64 0))):=Qq (by
      obtain⟨r1,r2⟩:=HR.out;refine .inl ⟨v,s',HFIT.out.1,HFIT.out.2,?_,?_⟩
      ·simp only;rw[r1];rfl
      ·simp only;rw[r1];simp only
       rw[←Ty (X:=Y.zH i { Y.p i with by_:=-1 }) (by exact hml)];exact r2)
     clear HR;go_wp2;go_ret2
     exact HRR.out
    ·rw[if_neg h6] at hres
     have hk6:(kd==6)=false:=by simpa using h6
     have hwr:IntKind.i64.wrap (((Y.p i).tu:Int)+1)=((Y.p i).tu:Int)+1:=by rw[IntKind.wrap_i64];omega
     have h3:=h2.FP hil HPA.out ((Y.p i).tu+1)
     rw[show(((Y.p i).tu+1:Nat):Int)=((Y.p i).tu:Int)+1 by omega] at h3
     have h4:=h3.ye (i:=m) hml HMA.out gg
     have h5:=h4.setL (i:=m) (by simpa [Sd.zL,Sd.zH] using hml) HMA.out Y.sl
     have HR:=Qq (And.intro hres h5)
     obtain⟨⟨-,a1,a2⟩,-,b1,b2⟩:=h3.xP (i:=m) hml HMA.out
     have DD:=h3.DD;clear h2 h4 h5 hres q hld' htu2 h6;go_upto_region 12 with fail
     generalize w2.setCell ⟨pb,off+i*3+1,none⟩ (.int .i64 (((Y.p i).tu:Int)+1))=w3 at *
     clear u0 u1 u2 f0 f1 f2 y1 y2 e1 e2 h3;have HRR:Hid (WV w0 b sp L D s X R j ak (fun v=>((yG X m v.toNat).1,x5 (yG X m v.toNat))) (.returned (.tuple #[.int .i64 kd,.int .i64 gg])) ((w3.setCell ⟨mb,off2+m*3+1,none⟩ (.int .i64 gg)).setCell ⟨mb,off2+m*3+2,none⟩ (.int .i64 Y.sl))):=Qq (by
      obtain⟨r1,r2⟩:=HR.out;refine .inl ⟨v,s',HFIT.out.1,HFIT.out.2,?_,?_⟩
      ·simp only;rw[r1];rfl
      ·simp only;rw[r1];simp only
       rw[show({ Y.m m with G:=gg,L:=Y.sl }:Mm)={ (Y.zH i { Y.p i with tu:=(Y.p i).tu+1 }).m m with G:=gg,L:=Y.sl } from rfl,←Uc (X:=Y.zH i { Y.p i with tu:=(Y.p i).tu+1 }) (by exact hml)];exact r2)
     have hsl:(Y.zH i { Y.p i with tu:=(Y.p i).tu+1 }).sl=Y.sl:=rfl
     rw[hsl] at DD;clear HR hsl;generalize Y.sl=ysl at *;go_wp2;go_ret2
     exact HRR.out
   ·have HR:Hid (WV w0 b sp L D s X R j ak (fun v=>((yG X m v.toNat).1,x5 (yG X m v.toNat))) (.panicked ch) w2):=Qq (.inr ⟨ch,s',k,n,rfl,hk,hdp,hok,h2⟩)
    exact⟨rfl,HR.out⟩
theorem Own.join {w0 w w':World}{As:List zy}{A:zy}(h:Own w0 w As)(k:Own w w' [A]):Own w0 w' (A::As):=by
 obtain⟨F,h1,h2⟩:=k.head;exact h.add k.bel h1 h2
theorem yH.tail {w0 w:World}{p:Nat}{T:List Value}{d:Dq}{W:Wd}{Z R:List zy}(h:yH w0 w p T d W [] (Z++R)) :
  ∃S,Own w0 w (R++S)∧∀w' R',Own w0 w' (R'++S)→yH w0 w' p T d W [] (Z++R'):=by
 obtain⟨D,ra,rc,hf,ho⟩:=h;refine⟨zh p W D T++(zf d.q (yn p (d.g:Int) d.x d.th d.dr d.go ra ([]:List Int).length rc)::zd 1 ra rc ([]:List Int).length (zr [])::Z),ho.perm ?_,fun w' R' h'=>⟨D,ra,rc,hf,h'.perm ?_⟩⟩
 ·have:=(List.perm_append_comm (l₁:=zh p W D T++(zf d.q (yn p (d.g:Int) d.x d.th d.dr d.go ra ([]:List Int).length rc)::zd 1 ra rc ([]:List Int).length (zr [])::Z)) (l₂:=R))
  simpa [List.append_assoc] using this
 ·have:=(List.perm_append_comm (l₁:=R') (l₂:=zh p W D T++(zf d.q (yn p (d.g:Int) d.x d.th d.dr d.go ra ([]:List Int).length rc)::zd 1 ra rc ([]:List Int).length (zr [])::Z)))
  simpa [List.append_assoc] using this
theorem Un:∀(l:List It) (W:Wd) (x:It),wokeM W (l++[x])=(wokeM W l).zQ x.id.toNat 1
 | [],W,x=>rfl
 | y::t,W,x=>Un t (W.zQ y.id.toNat 1) x
theorem TD:∀(l:List It) (W:Wd),(wokeM W l).gs.length=W.gs.length
 | [],W=>rfl
 | y::t,W=>by rw[wokeM,TD t,xD]
theorem X4 {D:Wa}:∀(l:List It) (W:Wd),D.fits W→D.fits (wokeM W l)
 | [],W,h=>h
 | y::t,W,h=>X4 t _ (h.ye _ _)
theorem JL (l:List It)(i:Nat)(h:i<l.length):zr ((l.take (i+1)).map (·.id))=zr ((l.take i).map (·.id))++[.int .i64 (gI l i).id]:=by
 rw[List.take_succ_eq_append_getElem h,List.map_append,XL h];unfold zr;rw[List.map_append];rfl
theorem Mo {w0 w:World}{p:Nat}{T:List Value}{W:Wd}{D:Wa}{R:List zy}(h:Own w0 w (zh p W D T++R))(hf:D.fits W)(hen:W.en=0)(hl:W.hp.length≤100000)(hc:W.clock≤100000)(hid:∀x∈W.hp,0≤x.id∧x.id<(W.gs.length:Int)) :
  Calls Tryz.prog 82 #[.pointer (some ⟨p,0,none⟩)] w fun r w'=>∃ra rc D',r=.returned (.slice ra (yO W).2.length rc)∧D'.fits (yO W).1∧Own w0 w' (zd 1 ra rc (yO W).2.length (zr (yO W).2)::(zh p (yO W).1 D' T++R)):=by
 have et:yO W=(wokeM { W with clock:=W.clock+1,hp:=(yW W.hp ((W.clock:Int)+1)).2 } (yW W.hp ((W.clock:Int)+1)).1,(yW W.hp ((W.clock:Int)+1)).1.map (·.id)):=by
  unfold yO;rw[if_pos hen]
 rw[et];obtain⟨L,hL⟩:∃L,L=(yW W.hp ((W.clock:Int)+1)).1:=⟨_,rfl⟩
 obtain⟨M,hM⟩:∃M,M=(yW W.hp ((W.clock:Int)+1)).2:=⟨_,rfl⟩
 have hperm:=(YS _ W.hp ((W.clock:Int)+1) (Nat.le_refl _)).1
 rw[←hL,←hM] at hperm;have hlen:=hperm.length_eq;rw[List.length_append] at hlen;have hLl:L.length≤100000:=by omega
 have hLid:∀x∈L,0≤x.id∧x.id<(W.gs.length:Int):=fun x hx=>hid x (hperm.mem_iff.1 (List.mem_append.2 (.inl hx)))
 have p9:=(h.zo 0 rfl 9 _ rfl).1
 rw[hen] at p9;have p7:=h.zo 0 rfl 7 _ rfl;obtain⟨p7,q7⟩:=p7;have o1:Own w0 (w.setCell ⟨p,7,none⟩ (.int .u64 ((W.clock:Int)+1))) (zh p { W with clock:=W.clock+1 } D T++R):=h.setAt 0 rfl 7 _
 have HW:=Qq (fun(wx:World) (hx:Own w0 wx (zh p { W with clock:=W.clock+1 } D T++R))=>EI hx ((W.clock:Int)+1) hl)
 simp only at HW
 rw[←hL,←hM] at HW;rw[←hL,←hM];have HF:Hid (D.fits { W with clock:=W.clock+1,hp:=M }):=Qq ⟨hf.f,hf.g,hf.c,hf.n,hf.l,hf.k⟩
 have HID:=Qq hLid;have H1:=Qq o1;generalize hN:L.length=N at *
 have HN:=Qq hN;obtain⟨i0,hi0,hz0,hz1,hz2⟩:=info_parts Zt;have Hi:=Qq hi0;clear hi0
 have Hz0:=Qq hz0;clear hz0
 have Hz1:=Qq hz1;clear hz1
 have Hz2:=Qq hz2;clear hz2
 generalize hrr:(wokeM { W with clock:=W.clock+1,hp:=M } L,L.map fun x=>x.id)=rr
 have HRR:=Qq hrr;clear h hf hen hid et hL hM hperm hlen hLid o1 hN hrr;go_enter Tryz.func82,Tryz.ntmps82
 go_upto_region 5 with fail
 generalize w.setCell ⟨p,7,none⟩ (.int .u64 ((W.clock:Int)+1))=w1 at *
 clear p7 q7 p9;have x7:w1.cell? ⟨p,7,none⟩=some (.int .u64 ((W.clock:Int)+1)):=(H1.out.zo 0 rfl 7 _ rfl).1
 have HWX:=Qq (HW.out _ (H1.out.step (zv w1 1)))
 have HB:Hid (∀wx,Below w1.heap.size w1 wx→wx.cell? ⟨p,7,none⟩=some (.int .u64 ((W.clock:Int)+1))):=Qq (fun wx hb=>zj x7 hb)
 refine zi (fun wx=>wx.cell? ⟨p,7,none⟩=some (.int .u64 ((W.clock:Int)+1))) 10 0 (Array.replicate 10 false) (Qj 10 1023) (by kernel_rfl) (by kernel_rfl) ?_
 refine ze 0 7 _ (Qj 10 127) 3 (by kernel_rfl) za (HB.out _ (zv w1 1)) (by kernel_rfl) ?_
 simp only[QX,QV,QJ];(repeat((first|refine Qx (h:=?_)|refine Qv (h:=?_));simp only[Act.put,QW,QY,QZ]));refine zb ?_;refine ze 9 1 _ (Qj 10 639) 2 (by kernel_rfl) za (HB.out _ (zv w1 1)) (by kernel_rfl) ?_
 simp only[QX,QV,QQ,QJ];(repeat((first|refine Qx (h:=?_)|refine Qv (h:=?_));simp only[Act.put,QW,QY,QZ]));refine zb ?_;refine zB 7 _ (Qj 10 767) 1 (by kernel_rfl) (fun K hK=>?_)
 have HKK:=Qq hK;clear hK;simp only[QQ,QJ];refine zc (by rfl) ?_;go_simp;refine HWX.out.mono ?_
 rintro r w2 ⟨v5,sv',rfl,ho⟩;obtain⟨Fi,⟨-,hit⟩,-⟩:=ho.head;have x8:w2.cell? ⟨p,7,none⟩=some (.int .u64 ((W.clock:Int)+1)):=(ho.zo 1 rfl 7 _ rfl).1
 obtain⟨a5,c5,hv5,hc5⟩:=hit.slice;rw[HN.out] at hv5 hc5;subst hv5;refine HKK.out _ _ (x8) ?_
 clear HKK K;refine ze 8 1 _ (Qj 10 1023) 0 (by kernel_rfl) za (x8) (by kernel_rfl) ?_
 simp only[QX,QV,QQ,QJ];(repeat((first|refine Qx (h:=?_)|refine Qv (h:=?_));simp only[Act.put,QW,QY,QZ]));refine zb ?_;refine zm ?_;refine zD (by kernel_rfl) (NoPanic.normal ?_)
 have H2:Hid (Own w0 w2 (zh p { W with clock:=W.clock+1,hp:=M } { D with sv:=sv' } T++(zd 1 none 0 0 []::xx (.slice a5 N c5) L::R))):=Qq (((ho.perm List.perm_middle.symm).VJ 1).perm List.perm_middle.symm)
 have HF2:Hid (({ D with sv:=sv' }:Wa).fits { W with clock:=W.clock+1,hp:=M }):=Qq ⟨HF.out.f,HF.out.g,HF.out.c,HF.out.n,HF.out.l,HF.out.k⟩
 obtain⟨D2,hD2⟩:∃D2:Wa,D2={ D with sv:=sv' }:=⟨_,rfl⟩
 obtain⟨W2,hW2⟩:∃W2:Wd,W2={ W with clock:=W.clock+1,hp:=M }:=⟨_,rfl⟩
 have hg2:W2.gs.length=W.gs.length:=by rw[hW2]
 rw[←hD2,←hW2] at H2 HF2;have HRR2:Hid ((wokeM W2 L,L.map fun x=>x.id)=rr):=Qq (by rw[hW2];exact HRR.out)
 clear HRR;have HG2:=Qq hg2;clear ho hit x8 x7 HWX HW hD2 hW2 HF HB hg2;go_wp2_with fail;go_loopw [3,27] (fun sv iv wr=>∃i:Nat,∃ra rc,i≤N∧iv=.int .i64 i∧sv=.slice ra i rc∧Hid (Own w0 wr (zh p (wokeM W2 (L.take i)) D2 T++(zd 1 ra rc i (zr ((L.take i).map (·.id)))::xx (.slice a5 N c5) L::R)))) (fun _ iv _=>N-(intOf iv).toNat)
 case atStart=>exact⟨0,none,0,by omega,rfl,rfl,H2⟩
 case round =>
  obtain⟨i,ra,rc,hi,rfl,rfl,hr⟩:=hrel;clear H2;by_cases hlt:i<N
  ·have hil:i<L.length:=by rw[HN.out];exact hlt
   have hli:(i:Int)<(N:Int):=by omega
   have hi0:(0:Int)≤(i:Int):=by omega
   obtain⟨Fi,⟨-,hit⟩,-⟩:=hr.out.fact 11 rfl;obtain⟨g5,cap5,hv5,hcap5⟩:=hit.form (by omega)
   rw[HN.out] at hv5;simp only[Value.slice.injEq] at hv5;obtain⟨rfl,-,rfl⟩:=hv5;obtain⟨y0,y1,y2⟩:=hit.cell i hil;have hidx:=HID.out (gI L i) (by rw[XL hil];exact List.getElem_mem _)
   have hsn:=JL L i hil;obtain⟨ids,hids⟩:∃ids,ids=zr ((L.take i).map (·.id)):=⟨_,rfl⟩
   rw[←hids] at hsn hr;clear hids;have htk:L.take (i+1)=L.take i++[gI L i]:=by rw[List.take_succ_eq_append_getElem hil,XL hil]
   have hwk:wokeM W2 (L.take (i+1))=(wokeM W2 (L.take i)).zQ (gI L i).id.toNat 1:=by rw[htk,Un]
   have hgl:(wokeM W2 (L.take i)).gs.length=W2.gs.length:=TD _ _
   have HWK:=Qq hwk;have HSN:=Qq hsn;have HFI:=Qq (X4 (L.take i) _ HF2.out)
   obtain⟨W3,hW3⟩:∃W3,W3=wokeM W2 (L.take i):=⟨_,rfl⟩
   rw[←hW3] at hr HWK HFI hgl;generalize gI L i=x at *;obtain⟨xa,xs,xi⟩:=x;simp only at y0 y1 y2 hidx HWK HSN
   obtain⟨k,rfl⟩:∃k:Nat,xi=(k:Int):=⟨xi.toNat,by omega⟩
   have hk:k<W3.gs.length:=by have:=HG2.out;omega
   have oA:=hr.out.step (below_alloc1 wr (.cells #[.int .u64 xa,.int .u64 xs,.int .i64 (k:Int)] 225))
   have hbx:=zt.new wr [.int .u64 xa,.int .u64 xs,.int .i64 (k:Int)] 225 rfl
   have HA:=Qq (hr.out.alloc [.int .u64 xa,.int .u64 xs,.int .i64 (k:Int)] 225 (b:=wr.heap.size) rfl)
   clear hit hsn htk hwk hW3 hr oA hbx hil hgl;go_upto_region 8 with fail
   generalize wr.alloc (.cells #[.int .u64 xa,.int .u64 xs,.int .i64 (k:Int)] 225)=wA at *
   generalize wr.heap.size=bx at *;have oB:Own w0 wA (zh p W3 D2 T++(zf bx [.int .u64 xa,.int .u64 xs,.int .i64 (k:Int)]::zd 1 ra rc i ids::xx (.slice (some ⟨g5,0,none⟩) N c5) L::R)):=HA.out.perm List.perm_middle.symm
   obtain⟨s,cap,hs⟩:=HFI.out.Yn hk;obtain⟨b,off,haa,st0,st1,-,-⟩:=Yx oB hk hs;have p2:wA.cell? ⟨p,2,none⟩=some (.slice (some ⟨b,off,none⟩) W3.gs.length D2.ac):=by rw[←haa];exact(oB.zo 0 rfl 2 _ rfl).1
   obtain⟨x2,-⟩:=oB.zo 10 rfl 2 _ rfl;have HB9:Hid (Own w0 ((wA.setCell ⟨b,off+k*2,none⟩ (.int .i64 1)).drew) (zh p (W3.zQ k 1) D2 T++(zf bx [.int .u64 xa,.int .u64 xs,.int .i64 (k:Int)]::zd 1 ra rc i ids::xx (.slice (some ⟨g5,0,none⟩) N c5) L::R))):=Qq ((Va oB HFI.out hk haa 1).step (zg _))
   have hkl:(k:Int)<(W3.gs.length:Int):=by omega
   have hk0:(0:Int)≤(k:Int):=by omega
   generalize W3.gs.length=G3 at *;clear oB haa hs HA;refine zi (fun wx=>∃nq,wx=World.drewN (wA) nq) 8 1 (Array.replicate 9 false) (Qj 9 255) (by kernel_rfl) (by kernel_rfl) ?_
   refine ze 0 8 _ (Qj 9 255) 0 (by kernel_rfl) za (zE wA) (by kernel_rfl) ?_
   simp only[QX,QV,QJ];(repeat((first|refine Qx (h:=?_)|refine Qw (h:=?_));simp only[Act.put,QW,QY,QZ]));refine zb ?_;refine zm ?_;refine zP 8 (by kernel_rfl) ?_
   simp only[QQ,QJ];go_wp2_with fail;refine NoPanic.normal ?_
   have H9:=HB9;clear HB9 st0 st1 p2 x2;go_upto_region 9 with fail
   generalize (wA.setCell ⟨b,off+k*2,none⟩ (.int .i64 1)).drew=wB at *
   obtain⟨x2,-⟩:=H9.out.zo 10 rfl 2 _ rfl;have HC:=Qq (H9.out.step (below_alloc1 wB (.cells #[.int .i64 (k:Int)] 3)))
   clear H9;go_wp2_with (at_builtin;go_loud (refine yr rfl _ _ 23 rfl 3 i0 _ Tryz.underlying23 Hi.out Hz0.out Hz1.out Hz2.out rfl (by decide) (by decide) (n:=i) (m:=1) (cs:=ids) (ds:=[.int .i64 (k:Int)]) (by rfl) (by rfl) (HC.out.yZ 11 rfl) (zt.new _ [.int .i64 (k:Int)] _ rfl) rfl (by simp[Value.oneCell']) (by omega) ?_))
   intro a9 c9 w9 k9 ch9 f9;have o9:=Own.xj (HC.out.pick 11 rfl) k9 ch9 (fun x hx=>by simpa using f9 x hx)
   have HE:Hid (Own w0 w9 (zh p (wokeM W2 (L.take (i+1))) D2 T++(zd 1 a9 c9 (i+1) (zr ((L.take (i+1)).map (·.id)))::xx (.slice (some ⟨g5,0,none⟩) N c5) L::R))):=Qq (by
    rw[HWK.out,HSN.out,Int.toNat_natCast];have o10:Own w0 w9 (zd 1 a9 c9 (i+1) (ids++[.int .i64 (k:Int)])::(zh p (W3.zQ k 1) D2 T++(xx (.slice (some ⟨g5,0,none⟩) N c5) L::R))):=(o9.pick 11 rfl).drop
    exact o10.perm List.perm_middle.symm)
   clear o9 k9 ch9 f9 HC HWK HSN;go_wp2;exact⟨⟨i+1,a9,c9,by omega,by go_num,rfl,HE⟩,by simp[intOf];omega⟩
  ·obtain rfl:i=N:=by omega
   have HE:Hid (D2.fits rr.1∧Own w0 wr (zd 1 ra rc rr.2.length (zr rr.2)::(zh p rr.1 D2 T++R))∧rr.2.length=i):=Qq (by
    have e:L.take i=L:=by rw[←HN.out,List.take_length]
    rw[←HRR2.out];have h1:=hr.out;rw[e] at h1;refine⟨X4 L _ HF2.out,?_,by simp[HN.out]⟩
    have h2:=h1.perm List.perm_middle;have h3:Own w0 wr (xx (.slice a5 i c5) L::(zd 1 ra rc i (zr (L.map (·.id)))::(zh p (wokeM W2 L) D2 T++R))):=h2.perm (by
     refine(List.Perm.cons _ List.perm_middle).trans (List.Perm.swap _ _ _))
    have h4:=h3.drop;rw[List.length_map,HN.out];exact h4)
   clear hr HRR2;go_wp2;go_ret;exact⟨ra,rc,D2,by rw[HE.out.2.2];rfl,HE.out.1,HE.out.2.1⟩
theorem Di {w0 w:World}{p:Nat}{T:List Value}{W:Wd}{R:List zy}{B:Nat}(h:Own w0 w (Xk p W T::R))(wf:WF B W)(hB:B≤80000) :
  Calls Tryz.prog 82 #[.pointer (some ⟨p,0,none⟩)] w fun r w'=>∃ra rc,r=.returned (.slice ra (yO W).2.length rc)∧Own w0 w' (zd 1 ra rc (yO W).2.length (zr (yO W).2)::Xk p (yO W).1 T::R):=by
 obtain⟨D,hf,ho⟩:=h.FO;by_cases hen:W.en=0
 ·refine(Mo ho hf hen (by have:=wf.hp.1;omega) (by have:=wf.clock;omega) (fun x hx=>(wf.hp.2.2.1 x hx).1)).mono (fun r w' hh=>?_)
  obtain⟨ra,rc,D',h1,h2,h3⟩:=hh;exact⟨ra,rc,h1,Own.Oi h2 h3⟩
 ·have et:yO W=(W,[]):=by unfold yO;rw[if_neg hen]
  rw[et];have p9:=(ho.zo 0 rfl 9 _ rfl).1
  have H:=Qq (Own.U3 hf ho)
  have hb:(W.en !=0)=true:=by rw[bne_iff_ne];exact hen
  generalize W.en=e at *;clear h hf ho et;go_enter Tryz.func82,Tryz.ntmps82
  go_wp2;go_ret;exact⟨none,0,rfl,Own.VJ 1 H.out⟩
def Sk (G:Gt):Bool:=decide (G.st=1)||decide (G.st=3)
theorem RT (w:World)(st:Int)(v:Value):Calls Tryz.prog 60 #[.agg #[.int .i64 st,v]] w fun r w'=>r=.returned (.bool (decide (st=1)||decide (st=3)))∧Below w.heap.size w w':=by
 have hb:=below_alloc1 w (.cells #[.int .i64 st,v] 159)
 have HB:=Qq hb;clear hb;by_cases h1:st=1
 ·subst h1
  go_enter Tryz.func60,Tryz.ntmps60
  go_wp2;go_ret;exact⟨rfl,HB.out⟩
 ·have h2:(st==1)=false:=by rw[beq_eq_false_iff_ne];exact h1
  have h3:(decide (st=1)||decide (st=3))=(st==3):=by rw[decide_eq_false h1,Bool.false_or];by_cases h:st=3<;>simp[h]
  rw[h3];clear h3;go_enter Tryz.func60,Tryz.ntmps60
  go_wp2;go_ret;exact⟨rfl,HB.out⟩
theorem QH (w:World)(aa:Option Addr)(ac:Nat)(sk:List (Nat×Nat))(gs:List Gt)(h:zt w aa (YE sk gs))(hs:sk.length=gs.length)(hl:gs.length≤1000000) :
  Calls Tryz.prog 79 #[.slice aa gs.length ac,.func (.func 60) #[] #[]] w fun r w'=>∃k:Int,r=.returned (.int .i64 k)∧decide (k≥0)=gs.any Sk∧Below w.heap.size w w':=by
 obtain⟨N,hN⟩:∃N,N=gs.length:=⟨_,rfl⟩
 rw[←hN] at hl ⊢;have HN:=Qq hN;have HC:=Qq (fun(i:Nat) (hi:i<N)=>(by
  obtain⟨b,off,h1,h2,h3⟩:=L0 h (g:=i) (List.getElem?_eq_getElem (by omega)) (List.getElem?_eq_getElem (by omega))
  exact⟨b,off,_,_,h1,List.take_succ_eq_append_getElem (by omega),h2,h3⟩:∃b off G v,aa=some ⟨b,off,none⟩∧gs.take (i+1)=gs.take i++[G]∧w.cell? ⟨b,off+i*2,none⟩=some (.int .i64 G.st)∧w.cell? ⟨b,off+i*2+1,none⟩=some v))
 have en:∀(args:Array Value) (w:World),(callFunc 60 args).run Tryz.prog w=.ok (.enter 60 args) w:=fun _ _=>by kernel_rfl
 clear h hs hN;go_enter Tryz.func79,Tryz.ntmps79
 go_wp2_with fail;go_loopw [8] (fun iv wr=>∃i:Nat,i≤N∧iv=.int .i64 i∧Hid ((gs.take i).any Sk=false∧Below w.heap.size w wr)) (fun iv _=>N-(intOf iv).toNat)
 case atStart=>exact⟨0,by omega,rfl,Qq ⟨rfl,Below.refl _ _⟩⟩
 case round =>
  obtain⟨i,hi,rfl,hb⟩:=hrel;by_cases hlt:i<N
  ·have hlt2:(i:Int)<(N:Int):=by omega
   have hi0:(0:Int)≤(i:Int):=by omega
   obtain⟨b,off,G,v,rfl,hG,c0,c1⟩:=HC.out i hlt;have d0:=zj c0 hb.out.2;have d1:=zj c1 hb.out.2;have HG:=Qq hG;clear hG;go_wp2_with fail;refine(RT wr G.st v).mono ?_
   rintro r w1 ⟨rfl,hb1⟩;have HB1:=Qq (zA hb.out.2 hb1)
   have HNO:=Qq hb.out.1;clear hb1 hb d0 d1;have e:(decide (G.st=1)||decide (G.st=3))=Sk G:=rfl
   rw[e];cases hu:Sk G with
   | true =>
    go_wp2;go_ret;refine⟨_,rfl,?_,HB1.out⟩
    have hmem:G∈gs:=List.mem_of_mem_take (i:=i+1) (by rw[HG.out];simp)
    rw[List.any_eq_true.2 ⟨G,hmem,hu⟩]
    exact decide_eq_true (by omega)
   | false =>
    have H2:Hid ((gs.take (i+1)).any Sk=false∧Below w.heap.size w w1):=Qq ⟨by rw[HG.out,List.any_append,HNO.out,Bool.false_or,List.any_cons,hu];rfl,HB1.out⟩
    clear hu HNO HB1;go_wp2;exact⟨⟨i+1,by omega,by go_num,H2⟩,by simp[intOf];omega⟩
  ·obtain rfl:i=N:=by omega
   go_wp2;go_ret;exact⟨_,rfl,by have:=hb.out.1;rw[HN.out,List.take_length] at this;rw[this];rfl,hb.out.2⟩
theorem UN (w:World)(aa:Option Addr)(ac:Nat)(sk:List (Nat×Nat))(gs:List Gt)(h:zt w aa (YE sk gs))(hs:sk.length=gs.length)(hl:gs.length≤1000000) :
  Calls Tryz.prog 61 #[.slice aa gs.length ac,.func (.func 60) #[] #[]] w fun r w'=>r=.returned (.bool (gs.any Sk))∧Below w.heap.size w w':=by
 have HI:=Qq (QH w aa ac sk gs h hs hl)
 generalize gs.length=N at *;generalize gs.any Sk=u at *;clear h hs hl;go_enter Tryz.func61,Tryz.ntmps61
 go_wp2_with fail;refine HI.out.mono ?_
 rintro r w1 ⟨k,rfl,rfl,hb⟩;have HB:=Qq hb;clear hb;go_wp2;go_ret;exact⟨rfl,HB.out⟩
theorem GA {w0 w:World}{p:Nat}{T:List Value}{W:Wd}{R:List zy}(h:Own w0 w (Xk p W T::R))(hl:W.gs.length≤1000000):Calls Tryz.prog 36 #[.pointer (some ⟨p,0,none⟩)] w fun r w'=>r=.returned (.bool (Xs W))∧Below w.heap.size w w':=by
 obtain⟨D,hf,ho⟩:=h.FO;have c8:=(ho.zo 0 rfl 9 _ rfl).1
 have c2:=(ho.zo 0 rfl 2 _ rfl).1
 have HCT:=Qq (UN w D.aa D.ac D.sk W.gs (ho.yZ 2 rfl).cells hf.g hl)
 have e:Xs W=(decide (W.en=0)&&!W.gs.any Sk):=rfl
 rw[e];generalize W.gs.any Sk=u at *;generalize W.gs.length=N at *;generalize hen:W.en=en at *
 clear h hf ho e hen hl;by_cases h0:en=0
 ·subst h0
  go_enter Tryz.func36,Tryz.ntmps36
  go_wp2_with (go_at_call 61;refine HCT.out.mono ?_;rintro r w1 ⟨rfl,hb⟩)
  have HB:=Qq hb;clear hb;go_wp2;go_ret;exact⟨by simp,HB.out⟩
 ·have h1:(en==0)=false:=by rw[beq_eq_false_iff_ne];exact h0
  rw[decide_eq_false h0,Bool.false_and];go_enter Tryz.func36,Tryz.ntmps36
  go_wp2;go_ret;exact⟨rfl,Below.refl _ _⟩
def Yb (W:Wd)(k:Nat):Option (Int×Int):=if W.lets (k:Int)∧1≤xI W ((W.ins k).getD (0,0,0,0)) then some (WO ((W.ins k).getD (0,0,0,0)),(xI W ((W.ins k).getD (0,0,0,0)):Int)) else none
theorem Hd {B:Nat}{W:Wd}(wf:WF B W)(k:Nat):xI W ((W.ins k).getD (0,0,0,0))≤1099511627776:=by
 unfold xI;split
 ·rename_i e
  cases hx:W.ins k with
  | none=>rw[hx] at e;exact absurd e (by decide)
  | some x =>
   rw[hx] at e;simp only[Option.getD_some] at e ⊢
   have:=((wf.Uq hx).1.o21 e).2
   omega
 ·split
  ·rename_i e
   refine Nat.le_trans (TR _ _ _) ?_
   unfold Wd.yA;rw[if_neg (by omega),if_neg (by omega)]
   have:=wf.p.kl
   simp only[List.length_take,List.length_drop];omega
  ·omega
theorem Uu {α:Type}(Q A R S:List α):(((Q++(A++R))++S)).Perm (A++(Q++(R++S))):=by
 rw[List.append_assoc,List.append_assoc];exact List.perm_append_comm_assoc Q A (R++S)
theorem P6 {w0 w:World}{b sp:Nat}{L:Sl}{X:Sd}{R:List zy}{D:UR sp}{s:D.T}{j B:Nat}(h:zV w0 w b sp L X (D.A s++R))(hok:D.ok (j+1) s)(wf:WF B X.W)(hB:B≤80000)(k:Nat) :
  Calls Tryz.prog 85 #[.pointer (some ⟨b,0,none⟩),.int .i64 (k:Int),.func (.func 52) #[.pointer (some ⟨sp,0,none⟩)] #[]] w fun r w' =>
   (∃v s' ra rc,Fit D s (Yb X.W k) v s'∧D.ok j s'∧r=.returned (.agg #[.bool (zG X.W (k:Int) v).2.1,.slice ra (zG X.W (k:Int) v).2.2.length rc])∧zV w0 w' b sp L { X with W:=(zG X.W (k:Int) v).1 } (zd 1 ra rc (zG X.W (k:Int) v).2.2.length (zr (zG X.W (k:Int) v).2.2)::(D.A s'++R))) ∨
   (∃ch s' kd n,r=.panicked ch∧Yb X.W k=some (kd,n)∧D.Dp s kd n r s'∧D.ok j s'∧zV w0 w' b sp L X (D.A s'++R)):=by
 obtain⟨T,Q,h1,h2⟩:=h.world;have en:∀(args:Array Value) (w:World),(callFunc 52 args).run Tryz.prog w=.ok (.enter 52 args) w:=fun _ _=>by kernel_rfl
 have hself:({ X with W:=X.W }:Sd)=X:=rfl
 have hal:=Hd wf k;refine(F9 (fst:=#[.pointer (some ⟨sp,0,none⟩)]) (cap:=#[]) (Qd:=fun v R'=>∃s',(0≤v∧v<(xI X.W ((X.W.ins k).getD (0,0,0,0)):Int))∧D.Dv s (WO ((X.W.ins k).getD (0,0,0,0))) (xI X.W ((X.W.ins k).getD (0,0,0,0)):Int) v s'∧D.ok j s'∧R'=Q++(D.A s'++R))
  (Qp:=fun r R'=>∃s',D.Dp s (WO ((X.W.ins k).getD (0,0,0,0))) (xI X.W ((X.W.ins k).getD (0,0,0,0)):Int) r s'∧D.ok j s'∧R'=Q++(D.A s'++R)) h1 wf hB (k:Int) en (fun _ hn=>?_)).mono (fun r w' hh=>?_)
 ·simp only[Int.toNat_natCast] at hn ⊢
  intro Z dq w' hD;obtain⟨S,k1,k2⟩:=hD.tail;have k3:Own w0 w' (D.A s++(Q++(R++S))):=k1.perm (Uu _ _ _ _)
  refine(D.hd s _ _ _ j hok ⟨by omega,by omega⟩ k3).mono (fun r w'' hh=>?_)
  rcases hh with⟨v,s',a1,a2,a3,a4,a5⟩|⟨ch,s',a1,a2,a3,a4⟩
  ·exact .inl ⟨v,_,a1,⟨s',a2,a3,a4,rfl⟩,k2 _ _ (a5.perm (Uu _ _ _ _).symm)⟩
  ·exact .inr ⟨ch,_,a1,⟨s',a2,a3,rfl⟩,k2 _ _ (a4.perm (Uu _ _ _ _).symm)⟩
 ·simp only[FK,Int.toNat_natCast] at hh
  rcases hh with⟨v,R',ra,rc,hq,h3,h4⟩|⟨ch,R',h3,h4,h5,h6⟩
  ·rcases hq with⟨hn,rfl⟩|⟨hn,s',hv,hdv,hok',rfl⟩
   ·have hno:Yb X.W k=none:=by
     unfold Yb;rw[if_neg];rintro⟨c1,c2⟩
     rcases hn with hn|hn
     ·exact hn c1
     ·omega
    have e:zG X.W (k:Int) v=zG X.W (k:Int) 0:=R6 wf (fun hl=>by
     rw[Int.toNat_natCast];rcases hn with hn|hn
     ·exact absurd hl hn
     ·exact hn) v 0
    rw[e] at h3 h4;refine .inl ⟨0,s,ra,rc,.inl ⟨hno,rfl,rfl⟩,D.less _ _ hok,h3,?_⟩
    refine h2 _ _ _ (h4.perm ?_)
    exact(List.Perm.swap _ _ _).trans (List.Perm.cons _ List.perm_middle.symm)
   ·have hso:Yb X.W k=some (WO ((X.W.ins k).getD (0,0,0,0)),(xI X.W ((X.W.ins k).getD (0,0,0,0)):Int)):=by unfold Yb;rw[if_pos hn]
    refine .inl ⟨v,s',ra,rc,.inr ⟨_,_,hso,hv,hdv⟩,hok',h3,?_⟩
    refine h2 _ _ _ (h4.perm ?_)
    exact(List.Perm.swap _ _ _).trans (List.Perm.cons _ List.perm_middle.symm)
  ·obtain⟨s',hdp,hok',rfl⟩:=h5
   have hso:Yb X.W k=some (WO ((X.W.ins k).getD (0,0,0,0)),(xI X.W ((X.W.ins k).getD (0,0,0,0)):Int)):=by unfold Yb;rw[if_pos h4]
   exact .inr ⟨ch,s',_,_,h3,hso,hdp,hok',h2 _ _ _ h6⟩
theorem Gk {w0 w:World}{b sp:Nat}{L:Sl}{X:Sd}{R:List zy}{B:Nat}(h:zV w0 w b sp L X R)(wf:WF B X.W)(hB:B≤80000) :
  Calls Tryz.prog 82 #[.pointer (some ⟨b,0,none⟩)] w fun r w'=>∃ra rc,r=.returned (.slice ra (yO X.W).2.length rc)∧zV w0 w' b sp L { X with W:=(yO X.W).1 } (zd 1 ra rc (yO X.W).2.length (zr (yO X.W).2)::R):=by
 obtain⟨T,Q,h1,h2⟩:=h.world;refine(Di h1 wf hB).mono (fun r w' hh=>?_)
 obtain⟨ra,rc,h3,h4⟩:=hh;exact⟨ra,rc,h3,h2 _ _ _ (h4.perm ((List.Perm.swap _ _ _).trans (List.Perm.cons _ List.perm_middle.symm)))⟩
theorem Eg {w0 w:World}{b sp:Nat}{L:Sl}{X:Sd}{R:List zy}(h:zV w0 w b sp L X R):Calls Tryz.prog 25 #[.pointer (some ⟨b,0,none⟩)] w fun r w'=>r=.returned (.tuple #[.int .i64 X.W.en,.int .i64 X.W.why])∧∃k,w'=w.drewN k:=by
 obtain⟨T,Q,h1,h2⟩:=h.world;exact Fz h1
theorem Jg {w0 w:World}{b sp:Nat}{L:Sl}{X:Sd}{R:List zy}(h:zV w0 w b sp L X R)(hl:X.W.gs.length≤1000000):Calls Tryz.prog 36 #[.pointer (some ⟨b,0,none⟩)] w fun r w'=>r=.returned (.bool (Xs X.W))∧Below w.heap.size w w':=by
 obtain⟨T,Q,h1,h2⟩:=h.world;exact GA h1 hl
theorem TB {w0 w:World}{b sp:Nat}{L:Sl}{X:Sd}{R:List zy}(h:zV w0 w b sp L X R)(g:Int):Calls Tryz.prog 35 #[.pointer (some ⟨b,0,none⟩),.int .i64 g] w fun r w'=>r=.returned (.int .i64 (xp X.W g))∧w'=w:=by
 obtain⟨T,Q,h1,h2⟩:=h.world;exact KY h1 g
theorem Um {w0 w:World}{b sp:Nat}{L:Sl}{X:Sd}{R:List zy}(h:zV w0 w b sp L X R)(hl:X.W.gs.length≤1000000) :
  Calls Tryz.prog 11 #[.pointer (some ⟨b,0,none⟩)] w fun r w'=>r=.returned (.int .i64 (xC X))∧Below w.heap.size w w':=by
 have HE:=Qq (Eg h)
 have HS:=Qq (fun k=>Jg (h.step (zv w k)) hl)
 unfold xC;generalize Xs X.W=st at *;generalize X.W.en=en at *;clear h hl;go_enter Tryz.func11,Tryz.ntmps11
 go_wp2_with fail;refine HE.out.mono ?_
 rintro r w1 ⟨rfl,k,rfl⟩;by_cases e1:en=1
 ·subst e1
  go_wp2;go_ret;exact⟨rfl,zv w k⟩
 ·have b1:(en==1)=false:=by simpa using e1
  by_cases e2:en=2
  ·subst e2
   go_wp2;go_ret;exact⟨rfl,zv w k⟩
  ·have b2:(en==2)=false:=by simpa using e2
   go_wp2_with fail;refine(HS.out k).mono ?_
   rintro r w2 ⟨rfl,hb⟩;have HB:=Qq (zA (zv w k) hb)
   clear hb;cases st with
   | true =>
    go_wp2;go_ret;exact⟨by simp[e1,e2],HB.out⟩
   | false =>
    go_wp2;go_ret;exact⟨by simp[e1,e2],HB.out⟩
end Go.Proofs.YtlkjheheofgdgaaGreat
