/-
  Texts put together: WdPure, WdPure2, WdOth, WdUnl, WdDo, SegL, WdDo2, WdLets, WdKeeps, WdExec, WdEmit, WdRand, WdLock, WdCall, WdRet, WdSpawn, WdChan.
-/
import Derived.Test.YtlkjheheofgdgaaGreatMa3
import Derived.Deep.CutBlock
import Derived.Test.YtlkjheheofgdgaaGreatMa1
set_option maxRecDepth 100000
set_option maxHeartbeats 16000000
set_option linter.unusedSimpArgs false
set_option linter.unusedVariables false
open Go Go.RowKit
namespace Go.Proofs.YtlkjheheofgdgaaGreat
theorem zR.get {w:World}{g n cap:Nat}{z:List Int}(h:zR w g n cap z)(j:Nat)(hj:j<n*11):w.cell? ⟨g,j,none⟩=some (.int .i64 (z.getD j 0))∧w.frozen? ⟨g,j,none⟩=false:=by
 obtain⟨x,hx,h1,h2⟩:=h.cell j hj;rw[List.getD_eq_getElem?_getD,hx]
 exact⟨h1,h2⟩
theorem VF (v:Int):Ul v=wrap64 v:=by unfold Ul wrap64;rw[IntKind.wrap_i64]
theorem boxed {w:World}{g n cap:Nat}{z:List Int}(h:zR w g n cap z)(op A B C:Int) :
  let w1:=w.alloc (.cells #[.int .i64 op,.int .i64 A,.int .i64 B,.int .i64 C] 86)
  w1.cell? ⟨w.heap.size,1,none⟩=some (.int .i64 A)∧w1.cell? ⟨w.heap.size,2,none⟩=some (.int .i64 B)∧w1.cell? ⟨w.heap.size,3,none⟩=some (.int .i64 C)∧zR w1 g n cap z∧zI [g] w w1:=by
 have hb:=zF.mk w [.int .i64 op,.int .i64 A,.int .i64 B,.int .i64 C] 86 w.heap.size rfl
 exact⟨(hb 1 _ rfl).1,(hb 2 _ rfl).1,(hb 3 _ rfl).1,h.below (below_alloc1 _ _),zI.zK (below_alloc1 _ _)⟩
theorem WK {w w1:World}{g n cap:Nat}{z:List Int}(h:zR w1 g n cap z)(c:zI [g] w w1)(j:Nat)(x:Int):zI [g] w ((w1.setCell ⟨g,j,none⟩ (.int .i64 x)).drew)∧zR ((w1.setCell ⟨g,j,none⟩ (.int .i64 x)).drew) g n cap (z.set j x) :=
 ⟨(c.setCell _ (.inl (by simp))).drew,(h.set j x).below (zg _)⟩
theorem Jk {w w1:World}{g n cap:Nat}{z:List Int}(h:zR w1 g n cap z)(c:zI [g] w w1)(j:Nat)(x:Int):zI [g] w (w1.setCell ⟨g,j,none⟩ (.int .i64 x))∧zR (w1.setCell ⟨g,j,none⟩ (.int .i64 x)) g n cap (z.set j x) :=
 ⟨c.setCell _ (.inl (by simp)),h.set j x⟩
theorem DB (g o n cap:Nat)(A B C:Int)(z:List Int)(op:Int)(w:World)(h:zR w g n cap z)(ho:o+11≤n*11) :
  Calls Tryz.prog 146 #[.pointer (some ⟨g,o,none⟩),.agg #[.int .i64 op,.int .i64 A,.int .i64 B,.int .i64 C]] w fun e w'=>e=.returned (.tuple #[])∧zI [g] w w'∧zR w' g n cap (z):=by
 have hf:=(show zI [g] w (w.alloc (.cells #[.int .i64 op,.int .i64 A,.int .i64 B,.int .i64 C] 86))∧zR (w.alloc (.cells #[.int .i64 op,.int .i64 A,.int .i64 B,.int .i64 C] 86)) g n cap z from⟨zI.zK (below_alloc1 _ _),h.below (below_alloc1 _ _)⟩)
 have HF:=Qq hf;clear hf h;go_enter Tryz.func146,Tryz.ntmps146
 go_wp2;go_end0
 exact⟨rfl,HF.out⟩
theorem Is (g o n cap:Nat)(a b:Nat)(ha:a<8)(hb:b<8)(C:Int)(z:List Int)(op:Int)(w:World)(h:zR w g n cap z)(ho:o+11≤n*11) :
  Calls Tryz.prog 148 #[.pointer (some ⟨g,o,none⟩),.agg #[.int .i64 op,.int .i64 (a:Int),.int .i64 (b:Int),.int .i64 C]] w fun e w'=>e=.returned (.tuple #[])∧zI [g] w w'∧zR w' g n cap (z.set (o+2+a) (z.getD (o+2+b) 0)):=by
 have a0:(0:Int)≤(a:Int):=by omega
 have a8:(a:Int)<8:=by omega
 have b0:(0:Int)≤(b:Int):=by omega
 have b8:(b:Int)<8:=by omega
 have hlt:=h.lt;obtain⟨x1,x2,x3,h1,c1⟩:=boxed h op (a:Int) (b:Int) C
 obtain⟨s0,f0⟩:=h1.get (o+2+a) (by omega)
 obtain⟨s1,-⟩:=h1.get (o+2+b) (by omega)
 have HF:=Qq (WK h1 c1 (o+2+a) (z.getD (o+2+b) 0))
 generalize z.getD (o+2+b) 0=v at *
 generalize z.getD (o+2+a) 0=u at *
 clear h h1 c1;go_enter Tryz.func148,Tryz.ntmps148
 go_upto_region 1 with fail
 generalize w.alloc (.cells #[.int .i64 op,.int .i64 (a:Int),.int .i64 (b:Int),.int .i64 C] 86)=w1 at *
 generalize w.heap.size=bx at *;refine zi (fun wx=>∃nq,wx=World.drewN (w1) nq) 13 1 (Array.replicate 14 false) (Qj 14 8191) (by kernel_rfl) (by kernel_rfl) ?_
 refine ze 0 13 _ (Qj 14 8191) 0 (by kernel_rfl) za (zE w1) (by kernel_rfl) ?_
 simp only[QX,QV,QJ];(repeat((first|refine Qx (h:=?_)|refine Qw (h:=?_));simp only[Act.put,QW,QY,QZ]));refine zb ?_;refine zm ?_;refine zP 13 (by kernel_rfl) ?_
 simp only[QQ,QJ];go_wp2_with fail;refine NoPanic.normal ?_
 go_end0
 exact⟨rfl,by first|exact HF.out|(have:=HF.out;simp only[VF] at this ⊢;exact this)⟩
theorem Dr (g o n cap:Nat)(a b c:Nat)(ha:a<8)(hb:b<8)(hc:c<8)(z:List Int)(op:Int)(w:World)(h:zR w g n cap z)(ho:o+11≤n*11) :
  Calls Tryz.prog 149 #[.pointer (some ⟨g,o,none⟩),.agg #[.int .i64 op,.int .i64 (a:Int),.int .i64 (b:Int),.int .i64 (c:Int)]] w fun e w'=>e=.returned (.tuple #[])∧zI [g] w w'∧zR w' g n cap (z.set (o+2+a) (Ul (z.getD (o+2+b) 0+z.getD (o+2+c) 0))):=by
 have a0:(0:Int)≤(a:Int):=by omega
 have a8:(a:Int)<8:=by omega
 have b0:(0:Int)≤(b:Int):=by omega
 have b8:(b:Int)<8:=by omega
 have c0:(0:Int)≤(c:Int):=by omega
 have c8:(c:Int)<8:=by omega
 have hlt:=h.lt;obtain⟨x1,x2,x3,h1,c1⟩:=boxed h op (a:Int) (b:Int) (c:Int)
 obtain⟨s0,f0⟩:=h1.get (o+2+a) (by omega)
 obtain⟨s1,-⟩:=h1.get (o+2+b) (by omega)
 obtain⟨s2,-⟩:=h1.get (o+2+c) (by omega)
 have HF:=Qq (WK h1 c1 (o+2+a) (Ul (z.getD (o+2+b) 0+z.getD (o+2+c) 0)))
 generalize z.getD (o+2+b) 0=v at *
 generalize z.getD (o+2+c) 0=v' at *
 generalize z.getD (o+2+a) 0=u at *
 clear h h1 c1;go_enter Tryz.func149,Tryz.ntmps149
 go_upto_region 1 with fail
 generalize w.alloc (.cells #[.int .i64 op,.int .i64 (a:Int),.int .i64 (b:Int),.int .i64 (c:Int)] 86)=w1 at *
 generalize w.heap.size=bx at *;refine zi (fun wx=>∃nq,wx=World.drewN (w1) nq) 21 1 (Array.replicate 22 false) (Qj 22 2097151) (by kernel_rfl) (by kernel_rfl) ?_
 refine ze 0 21 _ (Qj 22 2097151) 0 (by kernel_rfl) za (zE w1) (by kernel_rfl) ?_
 simp only[QX,QV,QJ];(repeat((first|refine Qx (h:=?_)|refine Qw (h:=?_));simp only[Act.put,QW,QY,QZ]));refine zb ?_;refine zm ?_;refine zP 21 (by kernel_rfl) ?_
 simp only[QQ,QJ];go_wp2_with fail;refine NoPanic.normal ?_
 go_end0
 exact⟨rfl,by first|exact HF.out|(have:=HF.out;simp only[VF] at this ⊢;exact this)⟩
theorem FV (g o n cap:Nat)(a b c:Nat)(ha:a<8)(hb:b<8)(hc:c<8)(z:List Int)(op:Int)(w:World)(h:zR w g n cap z)(ho:o+11≤n*11) :
  Calls Tryz.prog 150 #[.pointer (some ⟨g,o,none⟩),.agg #[.int .i64 op,.int .i64 (a:Int),.int .i64 (b:Int),.int .i64 (c:Int)]] w fun e w'=>e=.returned (.tuple #[])∧zI [g] w w'∧zR w' g n cap (z.set (o+2+a) (Ul (z.getD (o+2+b) 0-z.getD (o+2+c) 0))):=by
 have a0:(0:Int)≤(a:Int):=by omega
 have a8:(a:Int)<8:=by omega
 have b0:(0:Int)≤(b:Int):=by omega
 have b8:(b:Int)<8:=by omega
 have c0:(0:Int)≤(c:Int):=by omega
 have c8:(c:Int)<8:=by omega
 have hlt:=h.lt;obtain⟨x1,x2,x3,h1,c1⟩:=boxed h op (a:Int) (b:Int) (c:Int)
 obtain⟨s0,f0⟩:=h1.get (o+2+a) (by omega)
 obtain⟨s1,-⟩:=h1.get (o+2+b) (by omega)
 obtain⟨s2,-⟩:=h1.get (o+2+c) (by omega)
 have HF:=Qq (WK h1 c1 (o+2+a) (Ul (z.getD (o+2+b) 0-z.getD (o+2+c) 0)))
 generalize z.getD (o+2+b) 0=v at *
 generalize z.getD (o+2+c) 0=v' at *
 generalize z.getD (o+2+a) 0=u at *
 clear h h1 c1;go_enter Tryz.func150,Tryz.ntmps150
 go_upto_region 1 with fail
 generalize w.alloc (.cells #[.int .i64 op,.int .i64 (a:Int),.int .i64 (b:Int),.int .i64 (c:Int)] 86)=w1 at *
 generalize w.heap.size=bx at *;refine zi (fun wx=>∃nq,wx=World.drewN (w1) nq) 21 1 (Array.replicate 22 false) (Qj 22 2097151) (by kernel_rfl) (by kernel_rfl) ?_
 refine ze 0 21 _ (Qj 22 2097151) 0 (by kernel_rfl) za (zE w1) (by kernel_rfl) ?_
 simp only[QX,QV,QJ];(repeat((first|refine Qx (h:=?_)|refine Qw (h:=?_));simp only[Act.put,QW,QY,QZ]));refine zb ?_;refine zm ?_;refine zP 21 (by kernel_rfl) ?_
 simp only[QQ,QJ];go_wp2_with fail;refine NoPanic.normal ?_
 go_end0
 exact⟨rfl,by first|exact HF.out|(have:=HF.out;simp only[VF] at this ⊢;exact this)⟩
theorem E5 (g o n cap:Nat)(a b c:Nat)(ha:a<8)(hb:b<8)(hc:c<8)(z:List Int)(op:Int)(w:World)(h:zR w g n cap z)(ho:o+11≤n*11) :
  Calls Tryz.prog 151 #[.pointer (some ⟨g,o,none⟩),.agg #[.int .i64 op,.int .i64 (a:Int),.int .i64 (b:Int),.int .i64 (c:Int)]] w fun e w'=>e=.returned (.tuple #[])∧zI [g] w w'∧zR w' g n cap (z.set (o+2+a) (Ul (z.getD (o+2+b) 0*z.getD (o+2+c) 0))):=by
 have a0:(0:Int)≤(a:Int):=by omega
 have a8:(a:Int)<8:=by omega
 have b0:(0:Int)≤(b:Int):=by omega
 have b8:(b:Int)<8:=by omega
 have c0:(0:Int)≤(c:Int):=by omega
 have c8:(c:Int)<8:=by omega
 have hlt:=h.lt;obtain⟨x1,x2,x3,h1,c1⟩:=boxed h op (a:Int) (b:Int) (c:Int)
 obtain⟨s0,f0⟩:=h1.get (o+2+a) (by omega)
 obtain⟨s1,-⟩:=h1.get (o+2+b) (by omega)
 obtain⟨s2,-⟩:=h1.get (o+2+c) (by omega)
 have HF:=Qq (WK h1 c1 (o+2+a) (Ul (z.getD (o+2+b) 0*z.getD (o+2+c) 0)))
 generalize z.getD (o+2+b) 0=v at *
 generalize z.getD (o+2+c) 0=v' at *
 generalize z.getD (o+2+a) 0=u at *
 clear h h1 c1;go_enter Tryz.func151,Tryz.ntmps151
 go_upto_region 1 with fail
 generalize w.alloc (.cells #[.int .i64 op,.int .i64 (a:Int),.int .i64 (b:Int),.int .i64 (c:Int)] 86)=w1 at *
 generalize w.heap.size=bx at *;refine zi (fun wx=>∃nq,wx=World.drewN (w1) nq) 21 1 (Array.replicate 22 false) (Qj 22 2097151) (by kernel_rfl) (by kernel_rfl) ?_
 refine ze 0 21 _ (Qj 22 2097151) 0 (by kernel_rfl) za (zE w1) (by kernel_rfl) ?_
 simp only[QX,QV,QJ];(repeat((first|refine Qx (h:=?_)|refine Qw (h:=?_));simp only[Act.put,QW,QY,QZ]));refine zb ?_;refine zm ?_;refine zP 21 (by kernel_rfl) ?_
 simp only[QQ,QJ];go_wp2_with fail;refine NoPanic.normal ?_
 go_end0
 exact⟨rfl,by first|exact HF.out|(have:=HF.out;simp only[VF] at this ⊢;exact this)⟩
theorem IQ (g o n cap:Nat)(a b c:Nat)(ha:a<8)(hb:b<8)(hc:c<8)(z:List Int)(op:Int)(w:World)(h:zR w g n cap z)(ho:o+11≤n*11) :
  Calls Tryz.prog 152 #[.pointer (some ⟨g,o,none⟩),.agg #[.int .i64 op,.int .i64 (a:Int),.int .i64 (b:Int),.int .i64 (c:Int)]] w fun e w'=>e=.returned (.tuple #[])∧zI [g] w w'∧zR w' g n cap (z.set (o+2+a) (if z.getD (o+2+b) 0<z.getD (o+2+c) 0 then 1 else 0)):=by
 have hlt:=h.lt;obtain⟨x1,x2,x3,h1,c1⟩:=boxed h op (a:Int) (b:Int) (c:Int)
 obtain⟨s0,f0⟩:=h1.get (o+2+a) (by omega)
 obtain⟨s1,-⟩:=h1.get (o+2+b) (by omega)
 obtain⟨s2,-⟩:=h1.get (o+2+c) (by omega)
 have HF1:=fun x=>(show zI [g] w (((w.alloc (.cells #[.int .i64 op,.int .i64 (a:Int),.int .i64 (b:Int),.int .i64 (c:Int)] 86)).setCell ⟨g,o+2+a,none⟩ (.int .i64 x)).drewN 2)∧zR (((w.alloc (.cells #[.int .i64 op,.int .i64 (a:Int),.int .i64 (b:Int),.int .i64 (c:Int)] 86)).setCell ⟨g,o+2+a,none⟩ (.int .i64 x)).drewN 2) g n cap (z.set (o+2+a) x) from⟨(c1.setCell _ (.inl (by simp))).drewN 2,(h1.set _ _).below (zv _ 2)⟩)
 have a0:(0:Int)≤(a:Int):=by omega
 have a8:(a:Int)<8:=by omega
 have b0:(0:Int)≤(b:Int):=by omega
 have b8:(b:Int)<8:=by omega
 have c0:(0:Int)≤(c:Int):=by omega
 have c8:(c:Int)<8:=by omega
 generalize z.getD (o+2+b) 0=v at *
 generalize z.getD (o+2+c) 0=v' at *
 generalize z.getD (o+2+a) 0=u at *
 clear h h1 c1;by_cases hl:v<v'
 ·rw[if_pos hl]
  have HF:=Qq (HF1 1)
  have hd:decide (v<v')=true:=by simpa using hl
  clear HF1 hl;go_enter Tryz.func152,Tryz.ntmps152
  go_upto_region 2 with fail
  generalize w.alloc (.cells #[.int .i64 op,.int .i64 (a:Int),.int .i64 (b:Int),.int .i64 (c:Int)] 86)=w1 at *
  generalize w.heap.size=bx at *;refine zi (fun wx=>∃nq,wx=World.drewN (w1) nq) 15 0 (Array.replicate 15 false) (Qj 15 32767) (by kernel_rfl) (by kernel_rfl) ?_
  refine ze 0 15 _ (Qj 15 32767) 0 (by kernel_rfl) za (zE w1) (by kernel_rfl) ?_
  simp only[QX,QV,QJ];(repeat((first|refine Qx (h:=?_)|refine Qw (h:=?_));simp only[Act.put,QW,QY,QZ]));refine zb ?_;refine zm ?_;refine zD (by kernel_rfl) (NoPanic.normal ?_)
  go_upto_region 4 with fail
  refine zi (fun wx=>∃nq,wx=World.drewN (w1) nq) 7 1 (Array.replicate 8 false) (Qj 8 127) (by kernel_rfl) (by kernel_rfl) ?_
  refine ze 0 7 _ (Qj 8 127) 0 (by kernel_rfl) za ((by first|exact⟨2,rfl⟩|exact⟨_,rfl⟩)) (by kernel_rfl) ?_
  simp only[QX,QV,QJ];(repeat((first|refine Qx (h:=?_)|refine Qw (h:=?_));simp only[Act.put,QW,QY,QZ]));refine zb ?_;refine zm ?_;refine zP 7 (by kernel_rfl) ?_
  simp only[QQ,QJ];go_wp2_with fail;refine NoPanic.normal ?_
  go_end0
  exact⟨rfl,HF.out⟩
 ·rw[if_neg hl]
  have HF:=Qq (HF1 0)
  have hd:decide (v<v')=false:=by simpa using hl
  clear HF1 hl;go_enter Tryz.func152,Tryz.ntmps152
  go_upto_region 2 with fail
  generalize w.alloc (.cells #[.int .i64 op,.int .i64 (a:Int),.int .i64 (b:Int),.int .i64 (c:Int)] 86)=w1 at *
  generalize w.heap.size=bx at *;refine zi (fun wx=>∃nq,wx=World.drewN (w1) nq) 15 0 (Array.replicate 15 false) (Qj 15 32767) (by kernel_rfl) (by kernel_rfl) ?_
  refine ze 0 15 _ (Qj 15 32767) 0 (by kernel_rfl) za (zE w1) (by kernel_rfl) ?_
  simp only[QX,QV,QJ];(repeat((first|refine Qx (h:=?_)|refine Qw (h:=?_));simp only[Act.put,QW,QY,QZ]));refine zb ?_;refine zm ?_;refine zD (by kernel_rfl) (NoPanic.normal ?_)
  go_upto_region 4 with fail
  refine zi (fun wx=>∃nq,wx=World.drewN (w1) nq) 7 1 (Array.replicate 8 false) (Qj 8 127) (by kernel_rfl) (by kernel_rfl) ?_
  refine ze 0 7 _ (Qj 8 127) 0 (by kernel_rfl) za ((by first|exact⟨2,rfl⟩|exact⟨_,rfl⟩)) (by kernel_rfl) ?_
  simp only[QX,QV,QJ];(repeat((first|refine Qx (h:=?_)|refine Qw (h:=?_));simp only[Act.put,QW,QY,QZ]));refine zb ?_;refine zm ?_;refine zP 7 (by kernel_rfl) ?_
  simp only[QQ,QJ];go_wp2_with fail;refine NoPanic.normal ?_
  go_end0
  exact⟨rfl,HF.out⟩
theorem Iu (g o n cap:Nat)(A B C:Int)(z:List Int)(op:Int)(w:World)(h:zR w g n cap z)(ho:o+11≤n*11) :
  Calls Tryz.prog 153 #[.pointer (some ⟨g,o,none⟩),.agg #[.int .i64 op,.int .i64 A,.int .i64 B,.int .i64 C]] w fun e w'=>e=.returned (.tuple #[])∧zI [g] w w'∧zR w' g n cap (z.set (o+1) A):=by
 have hlt:=h.lt;obtain⟨x1,x2,x3,h1,c1⟩:=boxed h op A B C;have H:=Qq h1;have C1:=Qq c1;clear h;go_enter Tryz.func153,Tryz.ntmps153
 go_upto_region 1 with fail
 generalize w.alloc (.cells #[.int .i64 op,.int .i64 A,.int .i64 B,.int .i64 C] 86)=w1 at *
 generalize w.heap.size=bx at *;obtain⟨s0,f0⟩:=H.out.get (o+1) (by omega)
 have HF:=Qq (Jk H.out C1.out (o+1) A)
 generalize z.getD (o+1) 0=u at *
 clear h1 c1 H C1;go_wp2;go_end0
 exact⟨rfl,HF.out⟩
theorem DM (g o n cap:Nat)(a:Nat)(ha:a<8)(B C:Int)(z:List Int)(op:Int)(w:World)(h:zR w g n cap z)(ho:o+11≤n*11) :
  Calls Tryz.prog 154 #[.pointer (some ⟨g,o,none⟩),.agg #[.int .i64 op,.int .i64 (a:Int),.int .i64 B,.int .i64 C]] w fun e w'=>e=.returned (.tuple #[])∧zI [g] w w'∧zR w' g n cap (if z.getD (o+2+a) 0=0 then z else z.set (o+1) B):=by
 have hlt:=h.lt;obtain⟨x1,x2,x3,h1,c1⟩:=boxed h op (a:Int) B C
 obtain⟨s0,f0⟩:=h1.get (o+1) (by omega)
 obtain⟨s1,-⟩:=h1.get (o+2+a) (by omega)
 have HF0:=Qq (show zI [g] w ((w.alloc (.cells #[.int .i64 op,.int .i64 (a:Int),.int .i64 B,.int .i64 C] 86)).drew)∧zR ((w.alloc (.cells #[.int .i64 op,.int .i64 (a:Int),.int .i64 B,.int .i64 C] 86)).drew) g n cap z from⟨c1.drew,h1.below (zg _)⟩)
 have HF1:=Qq (WK h1 c1 (o+1) B)
 have a0:(0:Int)≤(a:Int):=by omega
 have a8:(a:Int)<8:=by omega
 generalize z.getD (o+2+a) 0=v at *
 generalize z.getD (o+1) 0=u at *
 clear h h1 c1;by_cases hv:v=0
 ·rw[if_pos hv]
  subst hv;go_enter Tryz.func154,Tryz.ntmps154
  go_upto_region 1 with fail
  generalize w.alloc (.cells #[.int .i64 op,.int .i64 (a:Int),.int .i64 B,.int .i64 C] 86)=w1 at *
  generalize w.heap.size=bx at *;refine zi (fun wx=>∃nq,wx=World.drewN (w1) nq) 8 0 (Array.replicate 8 false) (Qj 8 255) (by kernel_rfl) (by kernel_rfl) ?_
  refine ze 0 8 _ (Qj 8 255) 0 (by kernel_rfl) za (zE w1) (by kernel_rfl) ?_
  simp only[QX,QV,QJ];(repeat((first|refine Qx (h:=?_)|refine Qw (h:=?_));simp only[Act.put,QW,QY,QZ]));refine zb ?_;refine zm ?_;refine zD (by kernel_rfl) (NoPanic.normal ?_)
  go_wp2;go_end0
  exact⟨rfl,HF0.out⟩
 ·rw[if_neg hv]
  have hd:(v==0)=false:=by simpa using hv
  have hd2:(v !=0)=true:=by simpa using hv
  clear hv;go_enter Tryz.func154,Tryz.ntmps154
  go_upto_region 1 with fail
  generalize w.alloc (.cells #[.int .i64 op,.int .i64 (a:Int),.int .i64 B,.int .i64 C] 86)=w1 at *
  generalize w.heap.size=bx at *;refine zi (fun wx=>∃nq,wx=World.drewN (w1) nq) 8 0 (Array.replicate 8 false) (Qj 8 255) (by kernel_rfl) (by kernel_rfl) ?_
  refine ze 0 8 _ (Qj 8 255) 0 (by kernel_rfl) za (zE w1) (by kernel_rfl) ?_
  simp only[QX,QV,QJ];(repeat((first|refine Qx (h:=?_)|refine Qw (h:=?_));simp only[Act.put,QW,QY,QZ]));refine zb ?_;refine zm ?_;refine zD (by kernel_rfl) (NoPanic.normal ?_)
  go_wp2;go_end0
  exact⟨rfl,HF1.out⟩
theorem QM (args:Array Value)(w:World):(callFunc 146 args).run Tryz.prog w=.ok (.enter 146 args) w:=by kernel_rfl
theorem Rk (args:Array Value)(w:World):(callFunc 148 args).run Tryz.prog w=.ok (.enter 148 args) w:=by kernel_rfl
theorem Q9 (args:Array Value)(w:World):(callFunc 150 args).run Tryz.prog w=.ok (.enter 150 args) w:=by kernel_rfl
theorem PF (args:Array Value)(w:World):(callFunc 151 args).run Tryz.prog w=.ok (.enter 151 args) w:=by kernel_rfl
theorem SX (args:Array Value)(w:World):(callFunc 152 args).run Tryz.prog w=.ok (.enter 152 args) w:=by kernel_rfl
theorem RC (args:Array Value)(w:World):(callFunc 153 args).run Tryz.prog w=.ok (.enter 153 args) w:=by kernel_rfl
theorem UU (args:Array Value)(w:World):(callFunc 154 args).run Tryz.prog w=.ok (.enter 154 args) w:=by kernel_rfl
theorem xM (z:List Int)(o k:Nat)(x:Int):(z.set (o+1) x).getD (o+2+k) 0=z.getD (o+2+k) 0:=by
 rw[List.getD_eq_getElem?_getD,List.getD_eq_getElem?_getD,List.getElem?_set_ne (by omega)]
def WW (x:zS):Prop :=
 x.1=0∨(x.1=1∧0≤x.2.1∧x.2.1<8)∨(x.1=2∧(0≤x.2.1∧x.2.1<8)∧0≤x.2.2.1∧x.2.2.1<8)∨((x.1=3∨x.1=4∨x.1=5∨x.1=6)∧(0≤x.2.1∧x.2.1<8)∧(0≤x.2.2.1∧x.2.2.1<8)∧0≤x.2.2.2∧x.2.2.2<8)∨x.1=7∨(x.1=8∧0≤x.2.1∧x.2.1<8)
theorem NY (g o n cap:Nat)(z z':List Int)(x:zS)(w:World)(h:zR w g n cap z)(ho:o+11≤n*11)(hat:0≤z.getD (o+1) 0∧z.getD (o+1) 0<1000)(hx:WW x)(hz:Zp x o z=some z') :
  Calls Tryz.prog 119 #[.pointer (some ⟨g,o,none⟩),.agg #[.int .i64 x.1,.int .i64 x.2.1,.int .i64 x.2.2.1,.int .i64 x.2.2.2]] w fun e w'=>e=.returned (.bool true)∧zI [g] w w'∧zR w' g n cap z':=by
 obtain⟨op,A,B,C⟩:=x;have hzo:z[o+1]?=some (z.getD (o+1) 0):=by
  have hl:o+1<z.length:=by rw[h.len];omega
  rw[List.getD_eq_getElem?_getD,List.getElem?_eq_getElem hl];rfl
 unfold Zp at hz;simp only at hz ⊢
 generalize hat0:z.getD (o+1) 0=at0 at *
 rcases hx with hx|⟨hx,hA⟩|⟨hx,hA,hB⟩|⟨hx,hA,hB,hC⟩|hx|⟨hx,hA⟩
 ·simp only at hx
  subst hx;simp only[if_true,Option.some.injEq] at hz;subst hz;exact Zz g o n cap _ 0 z _ 0 _ _ _ at0 w h hzo hat (by rfl) QM (fun w' h'=>by
   exact DB g o n cap A B C _ 0 w' h' ho)
 ·simp only at hx hA
  subst hx;obtain⟨a,rfl,ha⟩:=yI (n:=8) hA
  simp at hz
  subst hz;exact Zz g o n cap _ 1 z _ 1 _ _ _ at0 w h hzo hat (by rfl) St (fun w' h'=>by
   exact Sb g o a n cap _ B C w' ha h' ho)
 ·simp only at hx hA hB
  subst hx;obtain⟨a,rfl,ha⟩:=yI (n:=8) hA
  obtain⟨b,rfl,hb⟩:=yI (n:=8) hB
  simp at hz
  subst hz;exact Zz g o n cap _ 2 z _ 2 _ _ _ at0 w h hzo hat (by rfl) Rk (fun w' h'=>by
   have:=Is g o n cap a b ha hb C _ 2 w' h' ho
   rw[xM] at this;simpa using this)
 ·simp only at hx hA hB hC
  obtain⟨a,rfl,ha⟩:=yI (n:=8) hA
  obtain⟨b,rfl,hb⟩:=yI (n:=8) hB
  obtain⟨c,rfl,hc⟩:=yI (n:=8) hC
  rcases hx with hx|hx|hx|hx
  ·subst hx
   simp at hz
   subst hz;exact Zz g o n cap _ 3 z _ 3 _ _ _ at0 w h hzo hat (by rfl) PL (fun w' h'=>by
    have:=Dr g o n cap a b c ha hb hc _ 3 w' h' ho
    rw[xM,xM] at this;simpa using this)
  ·subst hx
   simp at hz
   subst hz;exact Zz g o n cap _ 4 z _ 4 _ _ _ at0 w h hzo hat (by rfl) Q9 (fun w' h'=>by
    have:=FV g o n cap a b c ha hb hc _ 4 w' h' ho
    rw[xM,xM] at this;simpa using this)
  ·subst hx
   simp at hz
   subst hz;exact Zz g o n cap _ 5 z _ 5 _ _ _ at0 w h hzo hat (by rfl) PF (fun w' h'=>by
    have:=E5 g o n cap a b c ha hb hc _ 5 w' h' ho
    rw[xM,xM] at this;simpa using this)
  ·subst hx
   simp at hz
   subst hz;exact Zz g o n cap _ 6 z _ 6 _ _ _ at0 w h hzo hat (by rfl) SX (fun w' h'=>by
    have:=IQ g o n cap a b c ha hb hc _ 6 w' h' ho
    rw[xM,xM] at this;simpa using this)
 ·simp only at hx
  subst hx;simp at hz
  subst hz;exact Zz g o n cap _ 7 z _ 7 _ _ _ at0 w h hzo hat (by rfl) RC (fun w' h'=>by
   have:=Iu g o n cap A B C _ 7 w' h' ho
   simpa using this)
 ·simp only at hx hA
  subst hx;obtain⟨a,rfl,ha⟩:=yI (n:=8) hA
  simp at hz
  subst hz;exact Zz g o n cap _ 8 z _ 8 _ _ _ at0 w h hzo hat (by rfl) UU (fun w' h'=>by
   have:=DM g o n cap a ha B C _ 8 w' h' ho
   rw[xM] at this;simpa using this)
theorem Iz (op:Int)(h:9≤op∧op≤22):Instr.findNow (.int .i64) (.int .i64 op) TJ 0=some none:=by
 have:op=9∨op=10∨op=11∨op=12∨op=13∨op=14∨op=15∨op=16∨op=17∨op=18∨op=19∨op=20∨op=21∨op=22:=by omega
 rcases this with rfl|rfl|rfl|rfl|rfl|rfl|rfl|rfl|rfl|rfl|rfl|rfl|rfl|rfl<;>rfl
theorem Jv (v:Value)(op A B C:Int)(h9:9≤op∧op≤22)(w:World):Calls Tryz.prog 119 #[v,.agg #[.int .i64 op,.int .i64 A,.int .i64 B,.int .i64 C]] w fun e w'=>e=.returned (.bool false)∧Below w.heap.size w w':=by
 have HFI:=Qq (Iz op h9)
 clear h9;go_enter Tryz.func119,Tryz.ntmps119
 go_wp2_with fail;have hx0:zF (w.alloc (Obj.cells #[Value.int IntKind.i64 op,Value.int IntKind.i64 A,Value.int IntKind.i64 B,Value.int IntKind.i64 C] 86)) w.heap.size [Value.int IntKind.i64 op,Value.int IntKind.i64 A,Value.int IntKind.i64 B,Value.int IntKind.i64 C]:=zF.mk w _ _ _ rfl
 have hB:=below_alloc1 w (Obj.cells #[Value.int IntKind.i64 op,Value.int IntKind.i64 A,Value.int IntKind.i64 B,Value.int IntKind.i64 C] 86)
 generalize w.alloc (Obj.cells #[Value.int IntKind.i64 op,Value.int IntKind.i64 A,Value.int IntKind.i64 B,Value.int IntKind.i64 C] 86)=W0 at *
 have hsz:=hB.size;obtain⟨bx,hbx⟩:∃bx,w.heap.size=bx:=⟨_,rfl⟩
 rw[hbx] at hx0 hB hsz ⊢;have HS:=Qq hbx;have HX:=Qq hx0;have HB:=Qq hB;clear hbx hx0 hB;have hld:∀w',Below W0.heap.size W0 w'→w'.cell? ⟨bx,0,none⟩=some (.int .i64 op):=fun w' hb=>((HX.out.below hb) 0 _ rfl).1
 have HL:=Qq hld;clear hld;go_region_held3 (fun w'=>w'.cell? ⟨bx,0,none⟩=some (.int .i64 op)∧Below W0.heap.size W0 w') (first|exact⟨HL.out _ (zg _),zg _⟩|assumption|(have hq:=zA (zg W0) hb;exact⟨HL.out _ hq,hq⟩)) ((go_at_call 129;refine(Ts _).mono ?_;rintro e w1 ⟨rfl,hm,hb⟩;have hl:(Instr.lookup 260 (.map (some W0.heap.size)) (.int .i64 op) true).run Tryz.prog w1=.ok (.tuple #[.nilFunc,.bool false]) w1:=Vv (n:=op) Tryz.underlying260 Tryz.underlying84 hm (Mh _) HFI.out))
 go_wp2_with fail;go_ret;exact⟨rfl,by rw[HS.out];exact HB.out.trans ((zA (zg W0) hb).mono hsz)⟩
theorem Vc {P:Program}{w:World}{ops:Array Oper}{rest:List Oper}{o:Oper}{a:Act}{Q:Exit→Act→World→Prop}
  (hg:o.guard=none) (t:TypeId) (x v:Operand) (hop:o.op=Op.store t x v) (c c':Array Value) (hi:(P.info? t).map (·.size)=some c'.size) (ho:c.size=c'.size) (h1:c'.all (·.oneCell')=true)
  (hx:a.eval x=.pointer (some ⟨w.heap.size,0,none⟩)) (hv:a.eval v=.agg c')
  (hK:wpList P ops Q rest (a.put o.dst undef) (w.alloc (.cells c' t))):wpList P ops Q (o::rest) a (w.alloc (.cells c t)):=by
 refine wpList_plain hg fun K' hK'=>?_
 have hrun:=run_storeAt_new (P:=P) w t c c' hi ho h1
 unfold Oper.wp;simp[execOp,hop,hx,hv,hrun,Result.andThen]
 exact hK' _ _ (by simpa using hK)
theorem wpList_build {P:Program}{w:World}{ops:Array Oper}{rest:List Oper}{o:Oper}{a:Act}{Q:Exit→Act→World→Prop}
  (hg:o.guard=none) (t:TypeId) (ps:Array (Nat×Operand)) (hop:o.op=Op.build t ps) (v:Value) (hr:(Instr.build t (ps.map fun x=>(x.1,a.eval x.2))).run P w=.ok v w)
  (hK:wpList P ops Q rest (a.put o.dst v) w):wpList P ops Q (o::rest) a w:=by
 refine wpList_plain hg fun K' hK'=>?_
 unfold Oper.wp;simp only[execOp,hop];have hr':(Instr.build t (ps.map fun(i,x)=>(i,a.eval x))).run P w=.ok v w:=hr
 simp[hr',Result.andThen]
 exact hK' _ _ (by simpa using hK)
def Fv:Array Value:=#[.nilFunc,.nilFunc,.nilFunc,.nilFunc,.nilFunc,.nilFunc,.nilFunc,.nilFunc,.nilFunc,.nilFunc,.nilFunc,.nilFunc,.nilFunc,.nilFunc,.nilFunc,.nilFunc,.nilFunc,.nilFunc,.nilFunc,.nilFunc,.nilFunc,.nilFunc,.nilFunc]
def YG:Array Value:=#[.nilFunc,.nilFunc,.nilFunc,.nilFunc,.nilFunc,.nilFunc,.nilFunc,.nilFunc,.nilFunc,.func (.func 130) #[] #[],.func (.func 131) #[] #[],.func (.func 132) #[] #[],.func (.func 133) #[] #[],.func (.func 134) #[] #[],.func (.func 134) #[] #[],.func (.func 135) #[] #[],.func (.func 136) #[] #[],.func (.func 137) #[] #[],.func (.func 138) #[] #[],.func (.func 139) #[] #[],.func (.func 140) #[] #[],.func (.func 141) #[] #[],.func (.func 142) #[] #[]]
theorem GJ:(Tryz.prog.info? 252).map (fun i=>(i.zero,i.size))=some (some (.agg Fv),23):=by kernel_rfl
theorem QP (w:World):Calls Tryz.prog 120 #[] w fun r w'=>r=.returned (.agg YG)∧Below w.heap.size w w':=by
 obtain⟨hz,hs⟩:=zero_of_info GJ;have hsz:∀w,(sizeOf 252).run Tryz.prog w=.ok 23 w:=fun w=>by
  cases hq:Tryz.prog.info? 252 with
  | none=>rw[hq] at hs;cases hs
  | some i=>rw[hq] at hs;simp at hs;simp[sizeOf,typeInfo,hq,hs]
 have hi:(Tryz.prog.info? 252).map (·.size)=some YG.size:=hs
 have hld:=run_loadVar_new (P:=Tryz.prog) w 252 YG 23 251 (by kernel_rfl) hi
 go_enter Tryz.func120,Tryz.ntmps120
 go_upto_region 1 with fail
 refine wp_region_lit ?_;refine wpList_build rfl 252 _ rfl (.agg YG) (by kernel_rfl) ?_
 refine Vc rfl 252 _ _ rfl Fv YG hi rfl (by simp[YG,Value.oneCell']) rfl (by rfl) ?_
 refine wpList_nil ?_;have hb:=below_alloc1 w (.cells YG 252)
 have hag:∀w,(isAgg 252).run Tryz.prog w=.ok true w:=fun w=>by kernel_rfl
 have hsz1:=hsz (w.alloc (.cells YG 252))
 have hag1:=hag (w.alloc (.cells YG 252))
 generalize w.alloc (.cells YG 252)=W1 at *
 have HL:=Qq hld;have HS:=Qq hsz1;have HG:=Qq hag1;have HB:=Qq hb;clear hz hsz hld hs hi hb hag hsz1 hag1;generalize hOO:YG=OO at *
 have HOO:=Qq hOO;clear hOO;simp only[Act.put,QW,QY,QZ];go_wp2;refine bodyPost_ret (v:=.agg OO) ?_ rfl ⟨by rw[HOO.out],HB.out⟩
 have h1:=HL.out;have h2:=HS.out;have h3:=HG.out;simp[results,Tryz.results120,Sem.run_bind,h1,Result.andThen,asAddr]
theorem Qt (q:Nat)(w:World):Calls Tryz.prog 133 #[.pointer (some ⟨q,0,none⟩)] w fun r w'=>r=.returned (.tuple #[])∧w=w':=by
 go_enter Tryz.func133,Tryz.ntmps133
 go_wp2;go_end0
 exact⟨rfl,rfl⟩
theorem JO (q:Nat)(k:Int)(w:World)(h:w.cell? ⟨q,3,none⟩=some (.int .i64 k)):Calls Tryz.prog 142 #[.pointer (some ⟨q,0,none⟩)] w fun r w'=>r=Wz k∧w=w':=by
 unfold Wz;go_enter Tryz.func142,Tryz.ntmps142
 go_wp2;exact⟨rfl,rfl,rfl⟩
theorem SM {w0 w:World}{p:Nat}{T:List Value}{d:Dq}{W:Wd}{R:List zy}(h:yH w0 w p T d W [] R)(hg:d.g<W.gs.length)(hm:1≤(W.g d.g).n∧(W.g d.g).n≤16)(ha:0≤d.x.2.1∧d.x.2.1<(W.Ls.length:Int))
  (hl:∀L∈W.Ls,∀x∈L,0≤x∧x<(W.gs.length:Int)) (hk:W.Ls.length≤1000) (hgs:W.gs.length≤1000) :
  Calls Tryz.prog 139 #[.pointer (some ⟨d.q,0,none⟩)] w fun r w'=>ZY w0 p T d R (xA W [] d.g d.x) r w':=by
 obtain⟨D,ra,rc,hf,h⟩:=h;obtain⟨a,hA,ha8⟩:=yI (n:=W.Ls.length) ha
 obtain⟨b,off,s,cap,F⟩:=ZI hf h hg hm;have q0:=F.top.d0;have q1:=F.top.d1;have q3:=(h.zo 10 rfl 3 _ rfl).1
 have p4:=(h.zo 0 rfl 4 _ rfl).1
 rw[hA] at q3;obtain⟨pt,lb,lo,R',hla,l0,k1,k2⟩:=SK h hf ha8;rw[hla] at p4;have a0:(0:Int)≤(a:Int):=by omega
 have a8:(a:Int)<(W.Ls.length:Int):=by omega
 have hLl:=hl _ (List.mem_of_getElem? (Wd.SF ha8))
 obtain⟨L,hL⟩:∃L,L=W.lk (a:Int):=⟨_,rfl⟩
 rw[←hL] at k1 hLl;have e:xA W [] d.g d.x=if(xm L (d.g:Int)).2=0 then(if(xm L (d.g:Int)).1 = -1 then⟨{ W with Ls:=W.Ls.set a (gaveL L (d.g:Int)) },[],none⟩ else⟨({ W with Ls:=W.Ls.set a (gaveL L (d.g:Int)) }:Wd).zQ (xm L (d.g:Int)).1.toNat 1,[(xm L (d.g:Int)).1],none⟩) else⟨W,[],some (-3)⟩:=by
  unfold xA;rw[hA,←hL];rfl
 rw[e];have HC:Hid (∀k,Calls Tryz.prog 165 #[.pointer (some ⟨pt,0,none⟩),.int .i64 (d.g:Int)] (w.drewN k) fun r w'=>r=.returned (.tuple #[.int .i64 (xm L (d.g:Int)).1,.int .i64 (xm L (d.g:Int)).2])∧yH w0 w' p T d { W with Ls:=W.Ls.set a (gaveL L (d.g:Int)) } [] R) :=
  Qq (fun k=>(Ga (k1.step (zv w k)) (d.g:Int)).mono (fun r w' hh=>⟨hh.1,D,ra,rc,(k2 _ _ hh.2).2,(k2 _ _ hh.2).1⟩))
 have hW1:gaveL L (d.g:Int)=L→({ W with Ls:=W.Ls.set a (gaveL L (d.g:Int)) }:Wd)=W:=fun hh=>by rw[hh,hL,yt _ _ _ (Wd.SF ha8)]
 have HW:=Qq hW1;have HWk:Hid (∀w',yH w0 w' p T d { W with Ls:=W.Ls.set a (gaveL L (d.g:Int)) } [] R→∀k:Nat,(k:Int)∈L→Calls Tryz.prog 157 #[.pointer (some ⟨d.q,0,none⟩),.int .i64 (k:Int)] w' fun r w''=>r=.returned (.tuple #[])∧yH w0 w'' p T d (({ W with Ls:=W.Ls.set a (gaveL L (d.g:Int)) }:Wd).zQ k 1) [(k:Int)] R) :=
  Qq (fun w' h' k hk=>WQ (rd:=[]) h' k (by have:=hLl _ hk;show k<W.gs.length;omega) hgs (by simp))
 have HL:=Qq hLl;generalize W.Ls.length=N at *;clear k1 k2 h F hf hA ha hl hLl hm e hW1 hL;have hg3:(xm L (d.g:Int)).2=0∧((xm L (d.g:Int)).1 = -1∨∃k:Nat,(xm L (d.g:Int)).1=(k:Int)∧(k:Int)∈L)∨(xm L (d.g:Int))=(-1,5)∧gaveL L (d.g:Int)=L:=by
  cases L with
  | nil=>exact .inr ⟨rfl,rfl⟩
  | cons x t =>
   unfold xm gaveL;by_cases hx:x=(d.g:Int)
   ·left
    simp only[hx,if_true,true_and];cases t with
    | nil=>exact .inl rfl
    | cons y t =>
     have:=HL.out y (by simp)
     exact .inr ⟨y.toNat,by simp;omega,by simp;right;left;omega⟩
   ·right
    simp only[hx,if_false,and_self]
 rcases hg3 with⟨h1,h2⟩|⟨h1,h2⟩
 ·rw[h1] at HC ⊢
  rw[if_pos rfl];rcases h2 with h2|⟨k,h2,h3⟩
  ·rw[h2] at HC ⊢
   rw[if_pos rfl];clear HW HWk HL h1 h2;generalize ({ W with Ls:=W.Ls.set a (gaveL L (d.g:Int)) }:Wd)=W1 at *
   go_enter Tryz.func139,Tryz.ntmps139
   go_upto_region 0 with fail
   refine zi (fun wx=>∃nq,wx=World.drewN (w) nq) 18 6 (Array.replicate 24 false) (Qj 24 262143) (by kernel_rfl) (by kernel_rfl) ?_
   refine ze 0 18 _ (Qj 24 262143) 0 (by kernel_rfl) za (zE w) (by kernel_rfl) ?_
   simp only[QX,QV,QJ];(repeat((first|refine Qx (h:=?_)|refine Qw (h:=?_));simp only[Act.put,QW,QY,QZ]));refine zb ?_;refine zm ?_;refine yz (fun _=>True) 6 0 (Qj 24 16777215) ?_
   refine zB 18 _ (Qj 24 524287) 5 (by kernel_rfl) (fun K hK=>?_)
   have HKK:=Qq hK;clear hK;simp only[QQ,QJ];refine zc (by rfl) ?_;go_simp;refine(HC.out 1).mono ?_
   rintro r w1 ⟨rfl,h1⟩;refine HKK.out _ _ (trivial) ?_
   clear HKK K;refine ze 19 2 _ (Qj 24 2097151) 3 (by kernel_rfl) za (trivial) (by kernel_rfl) ?_
   simp only[QX,QV,QQ,QJ];(repeat((first|refine Qx (h:=?_)|refine Qv (h:=?_));simp only[Act.put,QW,QY,QZ]));refine zb ?_;refine ze 22 1 _ (Qj 24 6291455) 2 (by kernel_rfl) za (trivial) (by kernel_rfl) ?_
   simp only[QX,QV,QQ,QJ];(repeat((first|refine Qx (h:=?_)|refine Qv (h:=?_));simp only[Act.put,QW,QY,QZ]));refine zb ?_;refine ze 21 1 _ (Qj 24 8388607) 1 (by kernel_rfl) za (trivial) (by kernel_rfl) ?_
   simp only[QX,QV,QQ,QJ];(repeat((first|refine Qx (h:=?_)|refine Qv (h:=?_));simp only[Act.put,QW,QY,QZ]));refine zb ?_;refine ze 23 1 _ (Qj 24 16777215) 0 (by kernel_rfl) za (trivial) (by kernel_rfl) ?_
   simp only[QX,QV,QQ,QJ];(repeat((first|refine Qx (h:=?_)|refine Qv (h:=?_));simp only[Act.put,QW,QY,QZ]));refine zb ?_;refine zm ?_;refine zD (by kernel_rfl) (NoPanic.normal ?_)
   have H1:=Qq h1;clear h1 HC;go_wp2;go_end0
   exact⟨rfl,H1.out⟩
  ·rw[h2] at HC ⊢
   rw[if_neg (by omega)]
   have hne:((k:Int) == -1)=false:=by simp
   simp only[Int.toNat_natCast];have HWk':=Qq (fun w' h'=>HWk.out w' h' k h3)
   clear HW HWk HL h1 h2 h3;generalize ({ W with Ls:=W.Ls.set a (gaveL L (d.g:Int)) }:Wd)=W1 at *
   go_enter Tryz.func139,Tryz.ntmps139
   go_upto_region 0 with fail
   refine zi (fun wx=>∃nq,wx=World.drewN (w) nq) 18 6 (Array.replicate 24 false) (Qj 24 262143) (by kernel_rfl) (by kernel_rfl) ?_
   refine ze 0 18 _ (Qj 24 262143) 0 (by kernel_rfl) za (zE w) (by kernel_rfl) ?_
   simp only[QX,QV,QJ];(repeat((first|refine Qx (h:=?_)|refine Qw (h:=?_));simp only[Act.put,QW,QY,QZ]));refine zb ?_;refine zm ?_;refine yz (fun _=>True) 6 0 (Qj 24 16777215) ?_
   refine zB 18 _ (Qj 24 524287) 5 (by kernel_rfl) (fun K hK=>?_)
   have HKK:=Qq hK;clear hK;simp only[QQ,QJ];refine zc (by rfl) ?_;go_simp;refine(HC.out 1).mono ?_
   rintro r w1 ⟨rfl,h1⟩;refine HKK.out _ _ (trivial) ?_
   clear HKK K;refine ze 19 2 _ (Qj 24 2097151) 3 (by kernel_rfl) za (trivial) (by kernel_rfl) ?_
   simp only[QX,QV,QQ,QJ];(repeat((first|refine Qx (h:=?_)|refine Qv (h:=?_));simp only[Act.put,QW,QY,QZ]));refine zb ?_;refine ze 22 1 _ (Qj 24 6291455) 2 (by kernel_rfl) za (trivial) (by kernel_rfl) ?_
   simp only[QX,QV,QQ,QJ];(repeat((first|refine Qx (h:=?_)|refine Qv (h:=?_));simp only[Act.put,QW,QY,QZ]));refine zb ?_;refine ze 21 1 _ (Qj 24 8388607) 1 (by kernel_rfl) za (trivial) (by kernel_rfl) ?_
   simp only[QX,QV,QQ,QJ];(repeat((first|refine Qx (h:=?_)|refine Qv (h:=?_));simp only[Act.put,QW,QY,QZ]));refine zb ?_;refine ze 23 1 _ (Qj 24 16777215) 0 (by kernel_rfl) za (trivial) (by kernel_rfl) ?_
   simp only[QX,QV,QQ,QJ];(repeat((first|refine Qx (h:=?_)|refine Qv (h:=?_));simp only[Act.put,QW,QY,QZ]));refine zb ?_;refine zm ?_;refine zD (by kernel_rfl) (NoPanic.normal ?_)
   have H1:=Qq h1;clear h1 HC;go_wp2_with fail;refine(HWk'.out _ H1.out).mono ?_
   rintro r w2 ⟨rfl,h2⟩;have H2:=Qq h2;clear h2 H1 HWk';go_wp2;go_end0
   exact⟨rfl,H2.out⟩
 ·rw[HW.out h2] at HC
  rw[h1] at HC ⊢;rw[if_neg (by decide)]
  clear HW HWk HL h1 h2;go_enter Tryz.func139,Tryz.ntmps139
  go_upto_region 0 with fail
  refine zi (fun wx=>∃nq,wx=World.drewN (w) nq) 18 6 (Array.replicate 24 false) (Qj 24 262143) (by kernel_rfl) (by kernel_rfl) ?_
  refine ze 0 18 _ (Qj 24 262143) 0 (by kernel_rfl) za (zE w) (by kernel_rfl) ?_
  simp only[QX,QV,QJ];(repeat((first|refine Qx (h:=?_)|refine Qw (h:=?_));simp only[Act.put,QW,QY,QZ]));refine zb ?_;refine zm ?_;refine yz (fun _=>True) 6 0 (Qj 24 16777215) ?_
  refine zB 18 _ (Qj 24 524287) 5 (by kernel_rfl) (fun K hK=>?_)
  have HKK:=Qq hK;clear hK;simp only[QQ,QJ];refine zc (by rfl) ?_;go_simp;refine(HC.out 1).mono ?_
  rintro r w1 ⟨rfl,h1⟩;refine HKK.out _ _ (trivial) ?_
  clear HKK K;refine ze 19 2 _ (Qj 24 2097151) 3 (by kernel_rfl) za (trivial) (by kernel_rfl) ?_
  simp only[QX,QV,QQ,QJ];(repeat((first|refine Qx (h:=?_)|refine Qv (h:=?_));simp only[Act.put,QW,QY,QZ]));refine zb ?_;refine ze 22 1 _ (Qj 24 6291455) 2 (by kernel_rfl) za (trivial) (by kernel_rfl) ?_
  simp only[QX,QV,QQ,QJ];(repeat((first|refine Qx (h:=?_)|refine Qv (h:=?_));simp only[Act.put,QW,QY,QZ]));refine zb ?_;refine ze 21 1 _ (Qj 24 8388607) 1 (by kernel_rfl) za (trivial) (by kernel_rfl) ?_
  simp only[QX,QV,QQ,QJ];(repeat((first|refine Qx (h:=?_)|refine Qv (h:=?_));simp only[Act.put,QW,QY,QZ]));refine zb ?_;refine ze 23 1 _ (Qj 24 16777215) 0 (by kernel_rfl) za (trivial) (by kernel_rfl) ?_
  simp only[QX,QV,QQ,QJ];(repeat((first|refine Qx (h:=?_)|refine Qv (h:=?_));simp only[Act.put,QW,QY,QZ]));refine zb ?_;refine zm ?_;refine zD (by kernel_rfl) (NoPanic.normal ?_)
  have H1:=Qq h1;clear h1 HC;go_wp2;exact⟨rfl,rfl,H1.out⟩
theorem FI (a V:Value):(#[a]++(Array.replicate 22 undef).setIfInBounds 3 V)=#[a,undef,undef,undef,V,undef,undef,undef,undef,undef,undef,undef,undef,undef,undef,undef,undef,undef,undef,undef,undef,undef,undef]:=by kernel_rfl
def U8 (k:Int):Value:=.iface 249 (.int .i64 k)
theorem Fg (k:Int)(w:World):(Instr.typeAssert (U8 k) 20 249 true).run Tryz.prog w=.ok (.tuple #[.int .i64 k,.bool true]) w 
  := by kernel_rfl
theorem Vk (b:Nat)(w:World) :
  CallsD Tryz.prog 117 #[.pointer (some ⟨b,0,none⟩)] .returning w fun e u' w'=>e=.returned (.tuple #[])∧u'=.returning∧w'=w:=by
 refine callsD_of_wpS Tryz.func117 rfl fun c₀ ct hu=>?_
 apply wpS_seq
 apply wpS_region
 simp[wpOpsS,go_sem,recoverD,hu,Tryz.ntmps117,Exit.thenS]
 rw[FI];refine wpS_of_wp ?_;go_wp2;cases c₀
 simp_all [bodyPostS,results,Tryz.results117]
def Wd.MT (W:Wd)(k:Int):Wd:={ W with en:=2,why:=k }
theorem Rn {w0 w:World}{p q b:Nat}{T:List Value}{W:Wd}{D:Wa}{cs:List Value}{Y:List zy}(k:Int)(h:Own w0 w (zh p W D T++(zf b [.pointer (some ⟨q,0,none⟩)]::zf q (.pointer (some ⟨p,0,none⟩)::cs)::Y)))(older:List PanicEntry) :
  CallsD Tryz.prog 117 #[.pointer (some ⟨b,0,none⟩)] (.panicking ({ v:=U8 k,recovered:=false }::older)) w fun e u' w' =>
   e=.returned (.tuple #[])∧u'=.panicking ({ v:=U8 k,recovered:=true }::older)∧Own w0 w' (zh p (W.MT k) D T++(zf b [.pointer (some ⟨q,0,none⟩)]::zf q (.pointer (some ⟨p,0,none⟩)::cs)::Y)):=by
 have h2:=fun w=>Fg k w
 have h3:∀w:World,(binOp .eql 20 (U8 k) .nilIface).run Tryz.prog w=.ok (.bool false) w:=fun w=>rfl
 have h4:∀w:World,(eqGuard .eql 20 (.tmp 4) (.const .nilIface) (U8 k) .nilIface).run Tryz.prog w=.ok () w:=fun w=>rfl
 generalize U8 k=V at *;have b0:=(h.zo 10 rfl 0 _ rfl).1
 have q0:=(h.zo 11 rfl 0 _ rfl).1
 have H:=Qq h;have HP:Hid (∀w1:World,Own w0 w1 (zh p W D T++(zf b [.pointer (some ⟨q,0,none⟩)]::zf q (.pointer (some ⟨p,0,none⟩)::cs)::Y))→(∃v,w1.cell? ⟨p,9,none⟩=some v)∧w1.frozen? ⟨p,9,none⟩=false∧(∃v,w1.cell? ⟨p,10,none⟩=some v)∧w1.frozen? ⟨p,10,none⟩=false ∧
   Own w0 ((w1.setCell ⟨p,9,none⟩ (.int .i64 2)).setCell ⟨p,10,none⟩ (.int .i64 k)) (zh p (W.MT k) D T++(zf b [.pointer (some ⟨q,0,none⟩)]::zf q (.pointer (some ⟨p,0,none⟩)::cs)::Y))):=Qq (fun w1 h1=>by
  obtain⟨x0,x1⟩:=h1.zo 0 rfl 9 _ rfl;obtain⟨y0,y1⟩:=h1.zo 0 rfl 10 _ rfl;exact⟨⟨_,x0⟩,x1,⟨_,y0⟩,y1,(h1.setAt 0 rfl 9 (.int .i64 2)).setAt 0 rfl 10 (.int .i64 k)⟩)
 clear h;refine callsD_of_wpS Tryz.func117 rfl fun c₀ ct hu=>?_
 apply wpS_seq
 apply wpS_region
 simp[wpOpsS,go_sem,recoverD,hu,Tryz.ntmps117,Exit.thenS]
 rw[FI];refine wpS_of_wp ?_;go_upto_region 7 with fail
 obtain⟨⟨v9,x0⟩,x1,⟨v10,y0⟩,y1,ho⟩:=HP.out w H.out;have ho2:=ho.step (zg _)
 have SB:∀(wx:World) (W':Wd),Own w0 wx (zh p W' D T++(zf b [.pointer (some ⟨q,0,none⟩)]::zf q (.pointer (some ⟨p,0,none⟩)::cs)::Y))→wx.cell? ⟨b,0,none⟩=some (.pointer (some ⟨q,0,none⟩))∧wx.cell? ⟨q,0,none⟩=some (.pointer (some ⟨p,0,none⟩)) :=
  fun wx W' h=>⟨(h.zo 10 rfl 0 _ rfl).1,(h.zo 11 rfl 0 _ rfl).1⟩
 have HM:Hid (Own w0 (w.setCell ⟨p,9,none⟩ (.int .i64 2)) (zh p { W with en:=2 } D T++(zf b [.pointer (some ⟨q,0,none⟩)]::zf q (.pointer (some ⟨p,0,none⟩)::cs)::Y))):=Qq (H.out.setAt 0 rfl 9 (.int .i64 2))
 have HS:=Qq SB;have HO2:=Qq ho2;have HO:=Qq ho;clear SB ho ho2 HP;refine yd (fun wx=>wx.cell? ⟨b,0,none⟩=some (.pointer (some ⟨q,0,none⟩))∧wx.cell? ⟨q,0,none⟩=some (.pointer (some ⟨p,0,none⟩))) 15 (Array.replicate 15 false) (by kernel_rfl) (by kernel_rfl) ?_
 refine zq 0 11 _ (Qj 15 2047) 4 (by kernel_rfl) za (HS.out _ W (H.out.step (zg _))) (by kernel_rfl) ?_
 simp only[QX,QV,QJ];(repeat((first|refine Qx (h:=?_)|refine Qv (h:=?_));simp only[Act.put,QW,QY,QZ]));refine zb ?_;refine zn 11 _ (Qj 15 4095) 3 (by kernel_rfl) (fun K hK=>?_)
 have HKK:=Qq hK;clear hK;simp only[QQ,QJ];refine zc (by rfl) ?_;go_simp;refine HKK.out _ _ ((by first|exact HS.out _ { W with en:=2 } (HM.out.step (zg _))|exact HS.out _ { W with en:=2 } HM.out)) ?_
 clear HKK K;refine zq 12 2 _ (Qj 15 16383) 1 (by kernel_rfl) za ((by first|exact HS.out _ { W with en:=2 } (HM.out.step (zg _))|exact HS.out _ { W with en:=2 } HM.out)) (by kernel_rfl) ?_
 simp only[QX,QV,QQ,QJ];(repeat((first|refine Qx (h:=?_)|refine Qv (h:=?_));simp only[Act.put,QW,QY,QZ]));refine zb ?_;refine zn 14 _ (Qj 15 32767) 0 (by kernel_rfl) (fun K hK=>?_)
 have HKK:=Qq hK;clear hK;simp only[QQ,QJ];refine zc (by rfl) ?_;go_simp;refine HKK.out _ _ ((by first|exact HS.out _ (W.MT k) HO2.out|exact HS.out _ (W.MT k) HO.out)) ?_
 clear HKK K;refine wpAnyH_done (by kernel_rfl) (NoPanic.normal ?_) _
 refine⟨rfl,_,rfl,.tuple #[],by simp[results,Tryz.results117],rfl,rfl,?_⟩
 first|exact HO2.out|exact HO.out
section
variable {P:Program} {ops:Array Oper} {Q:Exit→Act→World→Prop} {S:World→Prop} {md:Region.Mode}
theorem Oper.IJ {Q':Exit→Act→World→Prop}(h:∀e a w,Q e a w→Q' e a w){o:Oper}{a:Act}{w:World}{K:Act→World→Prop}(hh:o.wp P a w K Q):o.wp P a w K Q':=by
 unfold Oper.wp at *;generalize (execOp a.eval o).run P w=r at *
 cases r with
 | ok n w' =>
  cases n<;>simp only[Oper.upon] at hh ⊢ <;>
   first
    | exact hh
    | exact Calls.mono hh (fun e w'' he=>by cases e<;>first|exact he|exact h _ _ _ he|(obtain⟨a,w,he⟩:=he;exact⟨a,w,h _ _ _ he⟩))
 | halt x w'=>cases x<;>simp only[Oper.upon] at hh ⊢<;>first|exact h _ _ _ hh|exact hh
theorem OZ {Q':Exit→Act→World→Prop}(h:∀e a w,Q e a w→Q' e a w){i:Nat}{a:Act}{w:World}{K:Act→World→Prop}(hh:wpOp P ops Q i K a w):wpOp P ops Q' i K a w:=by
 unfold wpOp at *;split
 ·simpa [*] using hh
 ·rename_i o ho
  simp only[ho] at hh;split
  ·rename_i hw;simp only[hw,if_true] at hh;exact hh.imp (Oper.IJ h) (fun⟨h1,a,w,h2⟩=>⟨h1,a,w,h _ _ _ h2⟩)
  ·rename_i hw;simp only[hw] at hh;exact hh
def wpAnyL (P:Program)(md:Region.Mode)(ops:Array Oper)(Q:Exit→Act→World→Prop)(S:World→Prop)(g:Nat)(full:Array Bool):Nat→Array Bool→Act→World→Prop
 | 0,listed,a,w=>listed=full∧wpAny P md ops Q g full a w
 | fuel+1,listed,a,w=>Region.ready md ops listed≠[] ∧
  ∀i∈Region.ready md ops listed,wpOp P ops (NoPanic Q) i (fun a' w'=>S w'∧wpAnyL P md ops Q S g full fuel (listed.setIfInBounds i true) a' w') a w
theorem Ut {g:Nat}{full:Array Bool}:∀(fuel:Nat) (listed:Array Bool) (a:Act) (w:World),wpAnyL P md ops Q S g full fuel listed a w→wpAny P md ops Q (fuel+g) listed a w
 | 0,_,_,_,h=>by obtain⟨rfl,h⟩:=h;rw[Nat.zero_add];exact h
 | fuel+1,_,_,_,h=>by
  rw[show fuel+1+g=(fuel+g)+1 by omega]
  exact⟨fun h0=>absurd h0 h.1,fun i hi=>OZ NoPanic.imp (wpOp_mono (fun a' w' h'=>Ut fuel _ a' w' h'.2) (h.2 i hi))⟩
theorem wpAnyL_first {i:Nat}{oi:Oper}{v:Value}{g:Nat}{full:Array Bool}(hi:ops[i]?=some oi)(hsel:∀(j:Nat) (o:Oper) cs b,ops[j]?=some o→o.op≠.select cs b)
  (hB:Xv md ops full=true) :
  ∀(fuel:Nat) (listed:Array Bool) (a:Act) (w:World),
   (∀j oj,ops[j]?=some oj→j≠i→listed.getD j true=false→(∀e∈oj.after,Region.binds md e=true→e.on≠i)→oi.apart ops oj=true) →
   Zk md ops listed=true→i∈Region.ready md ops listed→YieldsIf P ops S oi v a→S w →
   wpAnyL P md ops Q S g full fuel (listed.setIfInBounds i true) (a.put oi.dst v) w→wpAnyL P md ops Q S g full (fuel+1) listed a w
 | 0,listed,a,w,_,hcl,hr,hy,hS,H=>by
  refine⟨fun h=>(by rw[h] at hr;cases hr),fun j hj=>?_⟩
  by_cases hji:j=i
  ·subst hji;exact hy.wpOp hi hS ⟨hS,H⟩
  ·exact(Th hcl hB (Array.getElem?_eq_some_iff.1 hi).1 H.1 (mem_ready.1 hr).1 hj hji).elim
 | fuel+1,listed,a,w,hfree,hcl,hr,hy,hS,H=>by
  refine⟨fun h=>(by rw[h] at hr;cases hr),fun j hj=>?_⟩
  by_cases hji:j=i
  ·subst hji;exact hy.wpOp hi hS ⟨hS,H⟩
  ·have h1:=H.2 j (ready_mono hj hji)
   obtain⟨hjun,oj,hoj,hall⟩:=mem_ready.1 hj;have hnot:∀e∈oj.after,Region.binds md e=true→e.on≠i:=fun e he hb heq=>by
    have h2:=hall e he hb;have h0:=(mem_ready.1 hr).1
    rw[heq] at h2;rcases Nat.lt_or_ge i listed.size with h'|h'
    ·simp[h'] at h0 h2;rw[h0] at h2;cases h2
    ·simp[Array.getElem?_eq_none h'] at h2
   refine wpOp_mono (fun a' w' h3=>?_) (wpOp_putIf hoj (hfree j oj hoj hji hjun hnot) (fun cs b=>hsel i oi cs b hi) (fun cs b=>hsel j oj cs b hoj) (fun c a w h=>h) hy h1)
   have hS':S w':=h3.2.1
   refine⟨hS',wpAnyL_first hi hsel hB fuel (listed.setIfInBounds j true) a' w' (fun k ok hk hki hun hno=>hfree k ok hk hki ?_ hno) (Zr hcl hj) (ready_mono hr (Ne.symm hji)) h3.1 hS' ?_⟩
   ·by_cases hjk:j=k
    ·subst hjk;exact hjun
    ·rw[getD_set_ne true hjk] at hun;exact hun
   ·rw[Array.setIfInBounds_comm _ _ hji]
    exact h3.2.2
theorem Xx {g:Nat}{full:Array Bool}(hs:Region.noSelect ops=true)(hP:Xv .any ops full=true)(fuel:Nat)(w:World)(hS:S w) :
  ∀(l:List Oper) (k:Nat) (listed:Array Bool) (a:Act),(∀j,j<l.length→l[j]?=ops[k+j]?)→Zk .any ops listed=true→segB ops l.length k listed=true →
   xn P ops S (fun a'=>wpAnyL P .any ops Q S g full fuel (marks l.length k listed) a' w) l a→wpAnyL P .any ops Q S g full (l.length+fuel) listed a w
 | [],k,listed,a,_,_,_,h=>by rw[List.length_nil,Nat.zero_add];exact h
 | o::l,k,listed,a,hl,hcl,hB,h=>by
  have h0:ops[k]?=some o:=by simpa using (hl 0 (by simp)).symm
  simp only[List.length_cons,segB,Bool.and_eq_true] at hB;obtain⟨⟨hr,hf⟩,hB⟩:=hB;have hl':∀j,j<l.length→l[j]?=ops[k+1+j]?:=fun j hj=>by have:=hl (j+1) (by simp;omega);simpa [Nat.add_assoc,Nat.add_comm 1 j] using this
  rw[List.length_cons,show l.length+1+fuel=(l.length+fuel)+1 by omega]
  have hr':k∈Region.ready .any ops listed:=by simpa using hr
  rcases h with⟨hw,v,hv,h⟩|⟨hw,h⟩
  ·exact wpAnyL_first h0 (Region.noSelect_spec hs) hP _ listed a w (Region.free_spec h0 hf) hcl hr' (.inl ⟨hw,hv⟩) hS (Xx hs hP fuel w hS l (k+1) _ _ hl' (Zr hcl hr') hB h)
  ·exact wpAnyL_first h0 (Region.noSelect_spec hs) hP _ listed a w (Region.free_spec h0 hf) hcl hr' (.inr ⟨hw,rfl⟩) hS (Xx hs hP fuel w hS l (k+1) _ _ hl' (Zr hcl hr') hB h)
theorem YL {l:List Oper}(k n:Nat)(listed listed':Array Bool)(fuel:Nat){g:Nat}{full:Array Bool}{a:Act}{w:World}(hs:Region.noSelect l.toArray=true)(hS:S w)
  (hB:(segB l.toArray n k listed&&decide (k+n≤l.length)&&(marks n k listed==listed')&&Xv .any l.toArray full&&Zk .any l.toArray listed)=true) (h:xn P l.toArray S (fun a'=>wpAnyL P .any l.toArray Q S g full fuel listed' a' w) ((l.drop k).take n) a):wpAnyL P .any l.toArray Q S g full (n+fuel) listed a w:=by
 simp only[Bool.and_eq_true,decide_eq_true_eq,beq_iff_eq] at hB;obtain⟨⟨⟨⟨hB,hn⟩,rfl⟩,hP⟩,hcl⟩:=hB;have hln:((l.drop k).take n).length=n:=by rw[List.length_take,List.length_drop];omega
 have:=Xx (P:=P) (Q:=Q) (S:=S) (g:=g) (full:=full) hs hP fuel w hS ((l.drop k).take n) k listed a (fun j hj=>by
  rw[hln] at hj;rw[List.getElem?_take,if_pos hj,List.getElem?_drop];simp) hcl (by rw[hln];exact hB) (by rw[hln];exact h)
 rwa [hln] at this
theorem Cz {l:List Oper}{i:Nat}{a:Act}{w:World}{K:Act→World→Prop}(h1:Zq P l.toArray (NoPanic Q) K a w (l.drop i)):wpOp P l.toArray (NoPanic Q) i K a w:=by
 cases hd:l.drop i with
 | nil=>rw[hd] at h1;exact h1.elim
 | cons o r =>
  rw[hd] at h1;have h0:l.toArray[i]?=some o:=by
   have:(l.drop i)[0]?=some o:=by rw[hd];rfl
   rw[List.getElem?_drop] at this
   simpa using this
  unfold wpOp;simp only[h0];rw[if_pos h1.1];exact .inl h1.2
theorem PJ {l:List Oper}(k:Nat)(listed listed':Array Bool)(fuel:Nat){g:Nat}{full:Array Bool}{a:Act}{w:World}(hB:(decide (Region.ready .any l.toArray listed=[k])&&(listed.setIfInBounds k true==listed'))=true)
  (h:∀K:Act→World→Prop,(∀a' w',S w'→wpAnyL P .any l.toArray Q S g full fuel listed' a' w'→K a' w')→Zq P l.toArray (NoPanic Q) K a w (l.drop k)):wpAnyL P .any l.toArray Q S g full (fuel+1) listed a w:=by
 simp only[Bool.and_eq_true,decide_eq_true_eq,beq_iff_eq] at hB;obtain⟨hr,rfl⟩:=hB;refine⟨fun h0=>(by rw[hr] at h0;cases h0),fun i hi=>?_⟩
 rw[hr] at hi;have hik:i=k:=by simpa using hi
 subst hik;exact Cz (h _ (fun a' w' h2 h3=>⟨h2,h3⟩))
theorem Vq {listed:Array Bool}{g:Nat}{a:Act}{w:World}(h:wpAny P md ops Q g listed a w):wpAnyL P md ops Q S g listed 0 listed a w:=⟨rfl,h⟩
theorem VS {l:List Oper}(k:Nat){listed:Array Bool}{a:Act}{w:World}(hB:(Region.seqB .any l.toArray (l.drop k).length k listed)=true)(h:wpList P l.toArray Q (l.drop k) a w):wpAny P .any l.toArray Q (l.drop k).length listed a w :=
 wpAny_of_seq (l.drop k) k listed a w (fun j=>by rw[List.getElem?_drop];simp) hB h
theorem Xw {id:Nat}{a:Act}{w:World}{l:List Oper}(S:World→Prop)(fuel g:Nat)(listed full:Array Bool)(hm:P.follows .mixedOrders=true)(hB:(decide (l.length=fuel+g)&&(Array.replicate l.length false==listed))=true)
  (h:wpAnyL P .any l.toArray Q S g full fuel listed a w.drew):(Code.region id l.toArray true).wp P Q a w:=by
 simp only[Bool.and_eq_true,decide_eq_true_eq,beq_iff_eq] at hB;obtain⟨hl,rfl⟩:=hB;have h1:=Ut _ _ _ _ h;rw[←hl] at h1;exact wp_region_any hm (by simpa using h1)
end
end Go.Proofs.YtlkjheheofgdgaaGreat
open Go Go.RowKit
namespace Go.Proofs.YtlkjheheofgdgaaGreat
theorem yH.OI {w0 w:World}{p b:Nat}{T:List Value}{d:Dq}{W:Wd}{rd:List Int}{R:List zy}{cs:List Value}(h:yH w0 w p T d W rd (zf b cs::R)) :
  ∃D ra rc,D.fits W∧Own w0 w (zh p W D T++(zf b cs::zf d.q (yn p (d.g:Int) d.x d.th d.dr d.go ra rd.length rc)::zd 1 ra rc rd.length (zr rd)::R)):=by
 obtain⟨D,ra,rc,hf,h⟩:=h;exact⟨D,ra,rc,hf,(h.pick 12 rfl).XW⟩
theorem yH.box {w0 w:World}{p:Nat}{T:List Value}{d:Dq}{W:Wd}{rd:List Int}{R:List zy}(h:yH w0 w p T d W rd R)(l:List Value)(t:TypeId):yH w0 (w.alloc (.cells l.toArray t)) p T d W rd (zf w.heap.size l::R):=by
 obtain⟨D,ra,rc,hf,h⟩:=h;have h1:Own w0 (w.alloc (.cells l.toArray t)) (zf w.heap.size l::((zh p W D T++[zf d.q (yn p (d.g:Int) d.x d.th d.dr d.go ra rd.length rc),zd 1 ra rc rd.length (zr rd)])++R)):=by
  rw[List.append_assoc];exact h.alloc l t (b:=w.heap.size) rfl
 have h2:=h1.XW;rw[List.append_assoc] at h2;exact⟨D,ra,rc,hf,h2⟩
theorem Rw {w0 w:World}{p q:Nat}{W:Wd}{D:Wa}{T:List Value}{Y:List zy}(h:Own w0 w (zh p W D T++Y)){g s cap:Nat}{cs:List Value}(hq:zF w q (.pointer (some ⟨p,0,none⟩)::.int .i64 (g:Int)::cs))(hg:g<W.gs.length)(hs:D.sk[g]?=some (s,cap))(hm:1≤(W.g g).n∧(W.g g).n≤16) :
  Calls Tryz.prog 118 #[.pointer (some ⟨q,0,none⟩)] w fun r w'=>r=.returned (.pointer (some ⟨s,((W.g g).n-1)*11,none⟩))∧∃k,w'=w.drewN k:=by
 obtain⟨b,off,h1,-,-,-,-⟩:=Yx h hg hs;exact Xo (T8 h hq hg hs h1 hm)
theorem Ws {w0 w:World}{p b:Nat}{T:List Value}{d:Dq}{W:Wd}{rd:List Int}{R:List zy}(k:Int)(h:yH w0 w p T d W rd (zf b [.pointer (some ⟨d.q,0,none⟩)]::R))(older:List PanicEntry) :
  CallsD Tryz.prog 117 #[.pointer (some ⟨b,0,none⟩)] (.panicking ({ v:=.iface 249 (.int .i64 k),recovered:=false }::older)) w fun e u' w' =>
   e=.returned (.tuple #[])∧u'=.panicking ({ v:=.iface 249 (.int .i64 k),recovered:=true }::older)∧yH w0 w' p T d (W.MT k) rd R:=by
 obtain⟨D,ra,rc,hf,h1⟩:=h.OI;refine(Rn k h1 older).mono ?_
 rintro e u' w' ⟨h1,h2,h3⟩;exact⟨h1,h2,D,ra,rc,⟨hf.f,hf.g,hf.c,hf.n,hf.l,hf.k⟩,h3.yB.drop⟩
theorem LH {w0 w:World}{p:Nat}{T:List Value}{d:Dq}{W:Wd}{rd:List Int}{R:List zy}(h:yH w0 w p T d W rd R)(ht:d.th=false) :
  Calls Tryz.prog 100 #[.pointer (some ⟨d.q,0,none⟩)] w fun r w'=>r=.returned (.tuple #[])∧yH w0 w' p T d (W.MT (-7)) rd R:=by
 have hmf:∀(fn:Fn) (first cap:Array Value) (w:World),(Instr.makeFunc fn first cap).run Tryz.prog w=.ok (.func fn first cap) w:=fun _ _ _ _=>rfl
 have h1:=h.box [.pointer (some ⟨d.q,0,none⟩)] 230
 obtain⟨D,ra,rc,hf,h2⟩:=h1.OI;have b0:=(h2.zo 10 rfl 0 _ rfl).1
 have q6:=(h2.zo 11 rfl 6 _ rfl).1
 rw[ht] at q6;have H1:=Qq h1;clear h h1 h2 ht hf;go_enter_defers Tryz.func100,Tryz.ntmps100
 go_wp2_with fail;refine leaves_cons (f:=117) (args:=#[.pointer (some ⟨w.heap.size,0,none⟩)]) (by simp) (by simp[go_sem]) ?_
 refine(Ws (-7) H1.out _).mono ?_
 rintro e u' w'' ⟨rfl,rfl,h3⟩;exact⟨.tuple #[],by simp[results,Tryz.results100],rfl,h3⟩
theorem Lu {w0 w w':World}{p:Nat}{W:Wd}{D:Wa}{T:List Value}{Y:List zy}(h:Own w0 w (zh p W D T++Y)){g s cap:Nat}{z:List Int}(hg:g<W.gs.length)(hs:D.sk[g]?=some (s,cap))(c:zI [s] w w')(hk:zR w' s (W.g g).n cap z) :
  Own w0 w' (zh p (W.ye g { W.g g with z:=z }) D T++Y):=by
 obtain⟨R',h1,h2⟩:=(h.pick 3 rfl).ZZ (Yl hs (Wd.WS hg))
 have h3:=Own.PM (As:=[Yp s (W.g g).n cap (W.g g).z]) (As':=[Yp s (W.g g).n cap z]) (R:=_) h1 (w':=w') (fun F hF=>by
  obtain⟨rfl,k⟩:=xo.1 hF;exact⟨[s],xo.2 ⟨rfl,hk⟩,c,fun x hx=>.inl hx⟩)
 have h4:=h2 _ _ _ h3;have e:=Wh D.sk W.gs g (s,cap) { W.g g with z:=z }
 simp only at e
 rw[e,yt _ _ _ hs] at h4;have h5:=h4.back (i:=3) (As:=zh p W D T++Y) (by simp[zh])
 have e2:YE D.sk (W.gs.set g { W.g g with z:=z })=YE D.sk W.gs:=Ru _ _ _ _ (fun G0 h0=>by rw[Wd.Ck h0];exact⟨rfl,rfl⟩)
 have e3:(zh p W D T++Y).set 3 (yT (YZ D.sk (W.gs.set g { W.g g with z:=z })))=zh p (W.ye g { W.g g with z:=z }) D T++Y:=by
  simp only[zh,Wd.ye,yD,e2,List.length_set];rfl
 rw[e3] at h5;exact h5
theorem Jl {w0 w:World}{p:Nat}{T:List Value}{d:Dq}{W:Wd}{rd:List Int}{R:List zy}(h:yH w0 w p T d W rd R)(ht:d.th=true)(hg:d.g<W.gs.length)(hm:1≤(W.g d.g).n∧(W.g d.g).n≤16)(hx:WW d.x)
  (hat:0≤(W.g d.g).pc∧(W.g d.g).pc<1000) {z':List Int} (hz:Zp d.x (W.g d.g).o (W.g d.g).z=some z') :
  Calls Tryz.prog 100 #[.pointer (some ⟨d.q,0,none⟩)] w fun r w'=>r=.returned (.tuple #[])∧yH w0 w' p T d (W.ye d.g { W.g d.g with z:=z' }) rd R:=by
 have hmf:∀(fn:Fn) (first cap:Array Value) (w:World),(Instr.makeFunc fn first cap).run Tryz.prog w=.ok (.func fn first cap) w:=fun _ _ _ _=>rfl
 obtain⟨D,ra,rc,hf,h2⟩:=(h.box [.pointer (some ⟨d.q,0,none⟩)] 230).OI
 have b0:=(h2.zo 10 rfl 0 _ rfl).1
 have hc:=h2.zo 11 rfl;have q2:=(hc 2 _ rfl).1
 have q3:=(hc 3 _ rfl).1
 have q4:=(hc 4 _ rfl).1
 have q5:=(hc 5 _ rfl).1
 have q6:=(hc 6 _ rfl).1
 rw[ht] at q6;obtain⟨s,cap,hs⟩:=hf.Yn hg;obtain⟨m,hmm⟩:∃m,m=(W.g d.g).n-1:=⟨_,rfl⟩
 have HTop:Hid (∀j,Calls Tryz.prog 118 #[.pointer (some ⟨d.q,0,none⟩)] ((w.alloc (.cells #[.pointer (some ⟨d.q,0,none⟩)] 230)).drewN j) fun r w'=>r=.returned (.pointer (some ⟨s,m*11,none⟩))∧∃k,w'=((w.alloc (.cells #[.pointer (some ⟨d.q,0,none⟩)] 230)).drewN j).drewN k):=Qq (fun j=>by
  rw[hmm];exact Rw (h2.step (zv _ j)) ((h2.step (zv _ j)).zo 11 rfl) hg hs hm)
 have HPure:Hid (∀j,Calls Tryz.prog 119 #[.pointer (some ⟨s,m*11,none⟩),.agg #[.int .i64 d.x.1,.int .i64 d.x.2.1,.int .i64 d.x.2.2.1,.int .i64 d.x.2.2.2]] ((w.alloc (.cells #[.pointer (some ⟨d.q,0,none⟩)] 230)).drewN j) fun r w'=>r=.returned (.bool true)∧yH w0 w' p T d (W.ye d.g { W.g d.g with z:=z' }) rd R):=Qq (fun j=>by
  have hk:=(YT (h2.step (zv _ j)) hg hs).1
  refine(NY s (m*11) (W.g d.g).n cap (W.g d.g).z z' d.x _ hk (by omega) (by have:=hat;unfold Gt.pc Gt.o at this;rw[←hmm] at this;exact this) hx (by unfold Gt.o at hz;rw[←hmm] at hz;exact hz)).mono ?_
  rintro r w' ⟨h1,h3,h4⟩;exact⟨h1,D,ra,rc,hf.ye _ _,(Lu (h2.step (zv _ j)) hg hs h3 h4).yB.drop⟩)
 clear h h2 ht hf hg hm hx hat hz hs hmm hc;go_enter_defers Tryz.func100,Tryz.ntmps100
 go_upto_region 4 with fail
 generalize w.alloc (.cells #[.pointer (some ⟨d.q,0,none⟩)] 230)=w1 at *
 generalize w.heap.size=bd at *;refine zi (fun wx=>∃nq,wx=World.drewN (w1) nq) 6 1 (Array.replicate 7 false) (Qj 7 63) (by kernel_rfl) (by kernel_rfl) ?_
 refine ze 0 1 _ (Qj 7 1) 5 (by kernel_rfl) za (zE w1) (by kernel_rfl) ?_
 simp only[QX,QV,QJ];(repeat((first|refine Qx (h:=?_)|refine Qw (h:=?_));simp only[Act.put,QW,QY,QZ]));refine zb ?_;refine ze 2 4 _ (Qj 7 61) 1 (by kernel_rfl) za (zE w1) (by kernel_rfl) ?_
 simp only[QX,QV,QQ,QJ];(repeat((first|refine Qx (h:=?_)|refine Qw (h:=?_));simp only[Act.put,QW,QY,QZ]));refine zb ?_;refine zB 1 _ (Qj 7 63) 0 (by kernel_rfl) (fun K hK=>?_)
 have HKK:=Qq hK;clear hK;simp only[QQ,QJ];refine zc (by rfl) ?_;go_simp;refine(HTop.out 1).mono ?_
 rintro r w2 ⟨rfl,k2,rfl⟩;refine HKK.out _ _ ((by first|exact⟨_,rfl⟩|exact⟨_,World.drewN_drewN _ _ _⟩)) ?_
 clear HKK K;refine zm ?_;refine zP 6 (by kernel_rfl) ?_
 simp only[QQ,QJ];go_wp2_with fail;refine(HPure.out _).mono ?_
 rintro r w3 ⟨rfl,h3⟩;have H3:=Qq h3;clear h3 HPure HTop;go_wp2_with fail;refine NoPanic.normal ?_
 go_wp2;refine leaves_cons (f:=117) (args:=#[.pointer (some ⟨bd,0,none⟩)]) (by simp) (by simp[go_sem]) ?_
 refine(Vk _ _).mono ?_
 rintro e u' w'' ⟨rfl,rfl,rfl⟩;exact⟨.tuple #[],by simp[results,Tryz.results100],rfl,H3.out⟩
theorem yH.Cw {w0 w:World}{p:Nat}{T:List Value}{d:Dq}{W:Wd}{rd:List Int}{A:zy}{R:List zy}(h:yH w0 w p T d W rd (A::R)):yH w0 w p T d W rd R:=by
 obtain⟨D,ra,rc,hf,h⟩:=h;exact⟨D,ra,rc,hf,(h.pick 12 rfl).drop⟩
theorem KO {w0 w:World}{p:Nat}{T:List Value}{d:Dq}{W:Wd}{R:List zy}(h:yH w0 w p T d W [] R)(ht:d.th=true)(hg:d.g<W.gs.length)(hm:1≤(W.g d.g).n∧(W.g d.g).n≤16)(h9:9≤d.x.1∧d.x.1≤22)
  (hat:0≤(W.g d.g).pc∧(W.g d.g).pc<1000) (fk:Nat) (hix:∀w,(Instr.index 252 (.agg YG) (.int .i64 d.x.1)).run Tryz.prog w=.ok (.func (.func fk) #[] #[]) w) (eg:∀(args:Array Value) (w:World),(callFunc fk args).run Tryz.prog w=.ok (.enter fk args) w) (m:Dd)
  (hd:∀R' w',yH w0 w' p T d (W.step d.g) [] R'→Calls Tryz.prog fk #[.pointer (some ⟨d.q,0,none⟩)] w' fun r w''=>ZY w0 p T d R' m r w'') :
  Calls Tryz.prog 100 #[.pointer (some ⟨d.q,0,none⟩)] w fun r w'=>r=.returned (.tuple #[])∧yH w0 w' p T d m.end_ m.rd R:=by
 have hmf:∀(fn:Fn) (first cap:Array Value) (w:World),(Instr.makeFunc fn first cap).run Tryz.prog w=.ok (.func fn first cap) w:=fun _ _ _ _=>rfl
 obtain⟨D,ra,rc,hf,h2⟩:=(h.box [.pointer (some ⟨d.q,0,none⟩)] 230).OI
 have b0:=(h2.zo 10 rfl 0 _ rfl).1
 have hc:=h2.zo 11 rfl;have q2:=(hc 2 _ rfl).1
 have q3:=(hc 3 _ rfl).1
 have q4:=(hc 4 _ rfl).1
 have q5:=(hc 5 _ rfl).1
 have q6:=(hc 6 _ rfl).1
 rw[ht] at q6;obtain⟨s,cap,hs⟩:=hf.Yn hg;obtain⟨k,hmm⟩:∃k,k=(W.g d.g).n-1:=⟨_,rfl⟩
 obtain⟨pc,hpc⟩:∃pc,pc=(W.g d.g).pc:=⟨_,rfl⟩
 have HTop:Hid (∀w',Own w0 w' (zh p W D T++(zf w.heap.size [.pointer (some ⟨d.q,0,none⟩)]::zf d.q (yn p (d.g:Int) d.x d.th d.dr d.go ra 0 rc)::zd 1 ra rc 0 (zr [])::R))→Calls Tryz.prog 118 #[.pointer (some ⟨d.q,0,none⟩)] w' fun r w''=>r=.returned (.pointer (some ⟨s,k*11,none⟩))∧∃j,w''=w'.drewN j):=Qq (fun w' h'=>by
  rw[hmm];exact Rw h' (h'.zo 11 rfl) hg hs hm)
 have HAt:Hid (∀w',Own w0 w' (zh p W D T++(zf w.heap.size [.pointer (some ⟨d.q,0,none⟩)]::zf d.q (yn p (d.g:Int) d.x d.th d.dr d.go ra 0 rc)::zd 1 ra rc 0 (zr [])::R)) →
   w'.cell? ⟨w.heap.size,0,none⟩=some (.pointer (some ⟨d.q,0,none⟩))∧w'.cell? ⟨s,k*11+1,none⟩=some (.int .i64 pc)∧w'.frozen? ⟨s,k*11+1,none⟩=false∧Own w0 (w'.setCell ⟨s,k*11+1,none⟩ (.int .i64 (pc+1))) (zh p (W.step d.g) D T++(zf w.heap.size [.pointer (some ⟨d.q,0,none⟩)]::zf d.q (yn p (d.g:Int) d.x d.th d.dr d.go ra 0 rc)::zd 1 ra rc 0 (zr [])::R))):=Qq (fun w' h'=>by
  obtain⟨g1,g2⟩:=(YT h' hg hs).1.get (k*11+1) (by omega)
  have g3:=FA h' hg hs (k*11+1) (pc+1)
  refine⟨(h'.zo 10 rfl 0 _ rfl).1,?_,g2,?_⟩
  ·rw[g1,hpc];unfold Gt.pc Gt.o;rw[←hmm]
  ·have e:W.step d.g=W.ye d.g { W.g d.g with z:=(W.g d.g).z.set (k*11+1) (pc+1) }:=by unfold Wd.step Gt.o;rw[←hmm,hpc]
   rw[e];exact g3)
 have HSB:Hid (∀(W':Wd) (w':World) ,Own w0 w' (zh p W' D T++(zf w.heap.size [.pointer (some ⟨d.q,0,none⟩)]::zf d.q (yn p (d.g:Int) d.x d.th d.dr d.go ra 0 rc)::zd 1 ra rc 0 (zr [])::R))→w'.cell? ⟨w.heap.size,0,none⟩=some (.pointer (some ⟨d.q,0,none⟩))∧w'.cell? ⟨d.q,2,none⟩=some (.int .i64 d.x.1)):=Qq (fun W' w' h'=>⟨(h'.zo 10 rfl 0 _ rfl).1,(h'.zo 11 rfl 2 _ rfl).1⟩)
 have HDd:Hid (∀w',Own w0 w' (zh p (W.step d.g) D T++(zf w.heap.size [.pointer (some ⟨d.q,0,none⟩)]::zf d.q (yn p (d.g:Int) d.x d.th d.dr d.go ra 0 rc)::zd 1 ra rc 0 (zr [])::R)) →
   Calls Tryz.prog fk #[.pointer (some ⟨d.q,0,none⟩)] w' fun r w''=>ZY w0 p T d (zf w.heap.size [.pointer (some ⟨d.q,0,none⟩)]::R) m r w''):=Qq (fun w' h'=>hd _ w' ⟨D,ra,rc,hf.ye _ _,by
    have h5:Own w0 w' (zf w.heap.size [.pointer (some ⟨d.q,0,none⟩)]::((zh p (W.step d.g) D T++[zf d.q (yn p (d.g:Int) d.x d.th d.dr d.go ra 0 rc),zd 1 ra rc 0 (zr [])])++R)):=by
     rw[List.append_assoc];exact h'.yB
    have h6:=h5.XW;rw[List.append_assoc] at h6;exact h6⟩)
 have HIx:=Qq hix;have HFp:=Qq (fun v w=>Jv v d.x.1 d.x.2.1 d.x.2.2.1 d.x.2.2.2 h9 w)
 have hpb:IntKind.i64.wrap (pc+1)=pc+1:=by rw[IntKind.wrap_i64];omega
 have H2:=Qq h2;clear h h2 ht hf hg hm h9 hat hs hmm hc hix hd hpc;go_enter_defers Tryz.func100,Tryz.ntmps100
 go_upto_region 4 with fail
 generalize w.alloc (.cells #[.pointer (some ⟨d.q,0,none⟩)] 230)=w1 at *
 generalize w.heap.size=bd at *;have o1:=H2.out.step (zv w1 1)
 refine zi (fun wx=>∃nq,wx=World.drewN (w1) nq) 6 1 (Array.replicate 7 false) (Qj 7 63) (by kernel_rfl) (by kernel_rfl) ?_
 refine ze 0 1 _ (Qj 7 1) 5 (by kernel_rfl) za (zE w1) (by kernel_rfl) ?_
 simp only[QX,QV,QJ];(repeat((first|refine Qx (h:=?_)|refine Qw (h:=?_));simp only[Act.put,QW,QY,QZ]));refine zb ?_;refine ze 2 4 _ (Qj 7 61) 1 (by kernel_rfl) za (zE w1) (by kernel_rfl) ?_
 simp only[QX,QV,QQ,QJ];(repeat((first|refine Qx (h:=?_)|refine Qw (h:=?_));simp only[Act.put,QW,QY,QZ]));refine zb ?_;refine zB 1 _ (Qj 7 63) 0 (by kernel_rfl) (fun K hK=>?_)
 have HKK:=Qq hK;clear hK;simp only[QQ,QJ];refine zc (by rfl) ?_;go_simp;refine(HTop.out _ o1).mono ?_
 rintro r w2 ⟨rfl,k2,hw2⟩;have o2:=o1.q1 hw2;refine HKK.out _ _ (VX hw2) ?_
 clear HKK K;refine zm ?_;refine zP 6 (by kernel_rfl) ?_
 simp only[QQ,QJ];clear hw2;go_wp2_with fail;refine(HFp.out _ _).mono ?_
 rintro r w3 ⟨rfl,b3⟩;have o3:=o2.step b3;have HO3:=Qq o3;clear b3 o1 o2 o3 HFp;go_wp2_with fail;refine NoPanic.normal ?_
 obtain⟨a0,a1,a2,a3⟩:=HAt.out w3 HO3.out;have HTp:=Qq (HTop.out w3 HO3.out)
 clear a1 a2 a3;go_wp2_with fail;refine HTp.out.mono ?_
 rintro r w4 ⟨rfl,k4,hw4⟩;obtain⟨a0',a1,a2,a3⟩:=HAt.out w4 (HO3.out.q1 hw4)
 have HA3:=Qq a3;clear a3 hw4 HTp HTop HAt;go_upto_region 6 with fail
 generalize w4.setCell ⟨s,k*11+1,none⟩ (.int .i64 (pc+1))=w5 at *
 have o5:=HA3.out.step (zg w5)
 have hix:=HIx.out;refine Xw (fun wx=>wx.cell? ⟨bd,0,none⟩=some (.pointer (some ⟨d.q,0,none⟩))∧wx.cell? ⟨d.q,2,none⟩=some (.int .i64 d.x.1)) 8 1 (Array.replicate 9 false) (Qj 9 255) (by kernel_rfl) (by kernel_rfl) ?_
 refine YL 1 5 _ (Qj 9 62) 3 (by kernel_rfl)  (HSB.out _ _ o5) (by kernel_rfl) ?_
 simp only[QX,QV,QQ,QJ];(repeat((first|refine Qx (h:=?_)|refine Qv (h:=?_));simp only[Act.put,QW,QY,QZ]));refine zb ?_;refine YL 7 1 _ (Qj 9 190) 2 (by kernel_rfl)  (HSB.out _ _ o5) (by kernel_rfl) ?_
 simp only[QX,QV,QQ,QJ];(repeat((first|refine Qx (h:=?_)|refine Qv (h:=?_));simp only[Act.put,QW,QY,QZ]));refine zb ?_;refine PJ 0 _ (Qj 9 191) 1 (by kernel_rfl) (fun K hK=>?_)
 have HKK:=Qq hK;clear hK;simp only[QJ];refine zc (by rfl) ?_;go_simp;refine(QP _).mono ?_
 rintro r w6 ⟨rfl,b6⟩;have o6:=o5.step b6;refine HKK.out _ _ (HSB.out _ _ o6) ?_
 clear HKK K;refine YL 6 1 _ (Qj 9 255) 0 (by kernel_rfl)  (HSB.out _ _ o6) (by kernel_rfl) ?_
 simp only[QX,QV,QQ,QJ];(repeat((first|refine Qx (h:=?_)|refine Qv (h:=?_));simp only[Act.put,QW,QY,QZ]));refine zb ?_;refine Vq ?_;refine VS 8 (by kernel_rfl) ?_
 simp only[QQ,QJ];have HC:=Qq (HDd.out _ o6)
 clear o5 o6 b6 HDd HSB hix HIx;obtain⟨Wm,rm,tm⟩:=m;cases tm with
 | none =>
  go_wp2_with fail;refine HC.out.mono ?_
  rintro r w7 ⟨hr7,h7⟩;unfold CP at hr7;simp only at hr7 h7
  subst hr7;have H7:=Qq h7.Cw;clear h7 HC;go_wp2;refine leaves_cons (f:=117) (args:=#[.pointer (some ⟨bd,0,none⟩)]) (by simp) (by simp[go_sem]) ?_
  refine(Vk _ _).mono ?_
  rintro e u' w'' ⟨rfl,rfl,rfl⟩;exact⟨.tuple #[],by simp[results,Tryz.results100],rfl,H7.out⟩
 | some kk =>
  go_wp2_with fail;refine HC.out.mono ?_
  rintro r w7 ⟨hr7,h7⟩;unfold CP Wz at hr7;simp only at hr7 h7
  subst hr7;have H7:=Qq h7;clear h7 HC;refine leaves_cons (f:=117) (args:=#[.pointer (some ⟨bd,0,none⟩)]) (by simp) (by simp[go_sem]) ?_
  refine(Ws kk H7.out _).mono ?_
  rintro e u' w'' ⟨rfl,rfl,h3⟩;exact⟨.tuple #[],by simp[results,Tryz.results100],rfl,h3⟩
theorem V1 (W:Wd)(g:Int):W.lets g↔W.en=0∧xp W g=1:=by
 unfold Wd.lets xp;constructor
 ·rintro⟨h1,h2,h3,h4⟩;exact⟨h1,by rw[if_pos ⟨h2,h3⟩];exact h4⟩
 ·rintro⟨h1,h2⟩
  split at h2
  ·rename_i h;exact⟨h1,h.1,h.2,h2⟩
  ·cases h2
theorem RF {w0 w:World}{p:Nat}{W:Wd}{D:Wa}{T:List Value}{Y:List zy}(h:Own w0 w (zh p W D T++Y))(hf:D.fits W)(g:Int) :
  Calls Tryz.prog 97 #[.pointer (some ⟨p,0,none⟩),.int .i64 g] w fun r w'=>r=.returned (.bool (decide (W.lets g)))∧w'=w:=by
 have HS:=Qq (XS h hf g)
 have p9:=(h.zo 0 rfl 9 _ rfl).1
 by_cases he:W.en=0
 ·have e:decide (W.lets g)=decide (xp W g=1):=by
   by_cases hs:xp W g=1
   ·rw[decide_eq_true hs,decide_eq_true ((V1 W g).2 ⟨he,hs⟩)]
   ·rw[decide_eq_false hs,decide_eq_false (fun hh=>hs ((V1 W g).1 hh).2)]
  rw[e];rw[he] at p9;generalize xp W g=st at *;have HE:=Qq (show decide (st=1)=(st==1) by by_cases h:st=1<;>simp[h])
  clear h hf he e;go_enter Tryz.func97,Tryz.ntmps97
  go_wp2_with fail;refine HS.out.mono ?_
  rintro r w1 ⟨rfl,rfl⟩;go_wp2;go_ret;exact⟨by rw[HE.out];rfl,rfl⟩
 ·have e:decide (W.lets g)=false:=decide_eq_false (fun hh=>he ((V1 W g).1 hh).1)
  rw[e];have ht:(W.en==0)=false:=by simpa using he
  generalize W.en=en at *;clear h hf he e HS;go_enter Tryz.func97,Tryz.ntmps97
  go_wp2;go_ret;exact⟨rfl,rfl⟩
structure Pv (W:Wd) (g:Nat):Prop where
 gk:g<W.gs.length
 gl:W.gs.length≤1000
 n:1≤(W.g g).n∧(W.g g).n≤16
 fn:0≤(W.g g).fn∧(W.g g).fn<(W.fs.length:Int)
 pc:0≤(W.g g).pc∧(W.g g).pc<1000
def LJ (x:Option zS):Value:=match x with
 | some x=>.agg #[.int .i64 x.1,.int .i64 x.2.1,.int .i64 x.2.2.1,.int .i64 x.2.2.2]
 | none=>.agg #[.int .i64 0,.int .i64 0,.int .i64 0,.int .i64 0]
theorem JE {w0 w:World}{p:Nat}{W:Wd}{D:Wa}{T:List Value}{Y:List zy}(h:Own w0 w (zh p W D T++Y))(hf:D.fits W)(k:Nat)(ok:Pv W k) :
  Calls Tryz.prog 98 #[.pointer (some ⟨p,0,none⟩),.int .i64 (k:Int)] w fun r w'=>r=.returned (.tuple #[LJ (W.ins k),.bool (W.ins k).isSome])∧Below w.heap.size w w':=by
 obtain⟨hk8,hgl,hm,hfn,hpc⟩:=ok;obtain⟨f,hfe,hf8⟩:=yI (n:=W.fs.length) hfn
 obtain⟨i,hie⟩:=Int.eq_ofNat_of_zero_le hpc.1;obtain⟨l,hl⟩:∃l,W.fs[f]?=some l:=⟨_,List.getElem?_eq_getElem hf8⟩
 have e:W.ins k=l[i]?:=by
  unfold Wd.ins Wd.xQ;rw[hfe,hie,if_neg (by omega),Int.toNat_natCast,Int.toNat_natCast,List.getD_eq_getElem?_getD,hl];rfl
 rw[e];obtain⟨m,hmm⟩:∃m,m=(W.g k).n-1:=⟨_,rfl⟩
 obtain⟨s,cap,hs⟩:=hf.Yn hk8;have hA:=h.alloc [.int .i64 0,.int .i64 0,.int .i64 0,.int .i64 0] 86 (b:=w.heap.size) rfl
 have hB:=hA.XW (L:=zh p W D T)
 obtain⟨b,off,haa,-,-,sl,-⟩:=Yx hB hk8 hs;have p2:=(hB.zo 0 rfl 2 _ rfl).1
 have p0:=(hB.zo 0 rfl 0 _ rfl).1
 obtain⟨z0,f0⟩:=hB.zo 10 rfl 0 _ rfl;obtain⟨z1,f1⟩:=hB.zo 10 rfl 1 _ rfl;obtain⟨z2,f2⟩:=hB.zo 10 rfl 2 _ rfl;obtain⟨z3,f3⟩:=hB.zo 10 rfl 3 _ rfl;have hS:=(YT hB hk8 hs).1
 have c0:=(hS.get (m*11) (by omega)).1
 have c1:=(hS.get (m*11+1) (by omega)).1
 have e0:(W.g k).z.getD (m*11) 0=(f:Int):=by rw[←hfe];unfold Gt.fn Gt.o;rw[←hmm]
 have e1:(W.g k).z.getD (m*11+1) 0=(i:Int):=by rw[←hie];unfold Gt.pc Gt.o;rw[←hmm]
 rw[e0] at c0;rw[e1] at c1;rw[haa] at p2;have Z8:∀w,Calls Tryz.prog 112 #[.slice (some ⟨s,0,none⟩) (W.g k).n cap] w fun e w'=>e=.returned (.pointer (some ⟨s,m*11,none⟩))∧w'=w:=fun w=>by
  have:=WL s m cap w (by omega)
  rw[show m+1=(W.g k).n by omega] at this
  exact this
 have HT:=Qq Z8;have k0:(0:Int)≤(k:Int):=by omega
 have k8:(k:Int)<(W.gs.length:Int):=by omega
 have f00:(0:Int)≤(f:Int):=by omega
 have f8:(f:Int)<(W.fs.length:Int):=by omega
 have hbl:=below_alloc1 w (.cells #[.int .i64 0,.int .i64 0,.int .i64 0,.int .i64 0] 86)
 have hblk:=World.block_lt_of_cell? _ _ z0
 have hfl:f<D.fr.length:=by rw[hf.f];exact hf8
 obtain⟨cb0,co0,hfa,y1⟩:∃b off,D.fa=some ⟨b,off,none⟩∧(w.alloc (.cells #[.int .i64 0,.int .i64 0,.int .i64 0,.int .i64 0] 86)).cell? ⟨b,off+f,none⟩=some (.slice (D.fr[f]).1 l.length (D.fr[f]).2):=by
  obtain⟨F,⟨-,⟨-,h2⟩,-,-⟩,-⟩:=hB.fact 1 rfl;exact h2 f _ (by unfold Ot;rw[List.getElem?_zipWith,List.getElem?_eq_getElem hfl,hl])
 rw[hfa] at p0;have HH:=Qq (fun w=>KC (D.fr[f]).1 l.length (D.fr[f]).2 (i:Int) w)
 have i0:(0:Int)≤(i:Int):=by omega
 obtain⟨N,hN⟩:∃N,N=W.gs.length:=⟨_,rfl⟩
 rw[←hN] at p2 k8;obtain⟨NF,hNF⟩:∃NF,NF=W.fs.length:=⟨_,rfl⟩
 rw[←hNF] at p0 f8;obtain⟨n,hn⟩:∃n,n=(W.g k).n:=⟨_,rfl⟩
 rw[←hn] at HT sl;have hi9:i<1000:=by omega
 by_cases hi:i<l.length
 ·have hx:=List.getElem?_eq_getElem hi
  obtain⟨b',off',c',bb,oo,q1,q2,q3,q4,q5,q6⟩:=P9 hB hf hl hx;rw[hfa] at q1;simp only[Option.some.injEq,Addr.mk.injEq,and_true] at q1;obtain⟨rfl,rfl⟩:=q1;rw[y1] at q2;simp only[Option.some.injEq,Value.slice.injEq,true_and] at q2;rw[q2.1] at y1 HH;have hd:decide (0≤(i:Int)∧(i:Int)<(l.length:Int))=true:=decide_eq_true ⟨i0,by omega⟩
  rw[hd] at HH;have i8:(i:Int)<(l.length:Int):=by omega
  rw[hx];generalize l[i]=x at *
  obtain⟨x1,x2,x3,x4⟩:=x;unfold LJ;simp only at *
  have HB:=Qq hbl;clear q2 hd hx hi hbl h hf hk8 hgl hm hfn hpc hfe hf8 hie hl e hmm hs hA hB haa hS e0 e1 Z8 hfa hN hNF hn;go_enter Tryz.func98,Tryz.ntmps98
  go_upto_region 1 with fail
  generalize w.alloc (.cells #[.int .i64 0,.int .i64 0,.int .i64 0,.int .i64 0] 86)=w1 at *
  generalize hsz:w.heap.size=bx at *
  have HSZ:=Qq hsz;clear hsz;go_upto_region 2 with(refine(HT.out _).mono ?_;rintro r w2 ⟨rfl,rfl⟩)
  refine zi (fun wx=>∃nq,wx=World.drewN (w2) nq) 11 0 (Array.replicate 11 false) (Qj 11 2047) (by kernel_rfl) (by kernel_rfl) ?_
  refine ze 0 11 _ (Qj 11 2047) 0 (by kernel_rfl) za (zE w2) (by kernel_rfl) ?_
  simp only[QX,QV,QJ];(repeat((first|refine Qx (h:=?_)|refine Qw (h:=?_));simp only[Act.put,QW,QY,QZ]));refine zb ?_;refine zm ?_;refine zD (by kernel_rfl) (NoPanic.normal ?_)
  go_wp2_with fail;refine(HH.out _).mono ?_
  rintro r w3 ⟨rfl,rfl⟩;go_wp2;have hfin:Below w.heap.size w (((((w2.setCell ⟨bx,0,none⟩ (.int .i64 x1)).setCell ⟨bx,1,none⟩ (.int .i64 x2)).setCell ⟨bx,2,none⟩ (.int .i64 x3)).setCell ⟨bx,3,none⟩ (.int .i64 x4)).drew):=by
   have:=HSZ.out
   refine Below.trans (((((HB.out.setCell (by simp) _).setCell (by simp) _).setCell (by simp) _).setCell (by simp) _).mono (by omega)) ((zg _).mono ?_)
   simp
   omega
  exact bodyPost_ret (v:=.tuple #[.agg #[.int .i64 x1,.int .i64 x2,.int .i64 x3,.int .i64 x4],.bool true]) (by simp[results,Tryz.results98,go_sem,z0,z1,z2,z3,hblk]) rfl ⟨rfl,hfin⟩
 ·have hx:l[i]?=none:=List.getElem?_eq_none (by omega)
  have hd:decide (0≤(i:Int)∧(i:Int)<(l.length:Int))=false:=decide_eq_false (by omega)
  rw[hd] at HH;rw[hx];unfold LJ;simp only at *
  have HB:=Qq hbl;clear hd hx hi hbl h hf hk8 hgl hm hfn hpc hfe hf8 hie hl e hmm hs hA hB haa hS e0 e1 Z8 hfa hN hNF hn;go_enter Tryz.func98,Tryz.ntmps98
  go_upto_region 1 with fail
  generalize w.alloc (.cells #[.int .i64 0,.int .i64 0,.int .i64 0,.int .i64 0] 86)=w1 at *
  generalize hsz:w.heap.size=bx at *
  have HSZ:=Qq hsz;clear hsz;go_upto_region 2 with(refine(HT.out _).mono ?_;rintro r w2 ⟨rfl,rfl⟩)
  refine zi (fun wx=>∃nq,wx=World.drewN (w2) nq) 11 0 (Array.replicate 11 false) (Qj 11 2047) (by kernel_rfl) (by kernel_rfl) ?_
  refine ze 0 11 _ (Qj 11 2047) 0 (by kernel_rfl) za (zE w2) (by kernel_rfl) ?_
  simp only[QX,QV,QJ];(repeat((first|refine Qx (h:=?_)|refine Qw (h:=?_));simp only[Act.put,QW,QY,QZ]));refine zb ?_;refine zm ?_;refine zD (by kernel_rfl) (NoPanic.normal ?_)
  go_wp2_with fail;refine(HH.out _).mono ?_
  rintro r w3 ⟨rfl,rfl⟩;go_wp2;have hfin:Below w.heap.size w (((((w2.setCell ⟨bx,0,none⟩ (.int .i64 0)).setCell ⟨bx,1,none⟩ (.int .i64 0)).setCell ⟨bx,2,none⟩ (.int .i64 0)).setCell ⟨bx,3,none⟩ (.int .i64 0)).drew):=by
   have:=HSZ.out
   refine Below.trans (((((HB.out.setCell (by simp) _).setCell (by simp) _).setCell (by simp) _).setCell (by simp) _).mono (by omega)) ((zg _).mono ?_)
   simp
   omega
  exact bodyPost_ret (v:=.tuple #[.agg #[.int .i64 0,.int .i64 0,.int .i64 0,.int .i64 0],.bool false]) (by simp[results,Tryz.results98,go_sem,z0,z1,z2,z3,hblk]) rfl ⟨rfl,hfin⟩
theorem MV {w0 w:World}{p:Nat}{T:List Value}{d:Dq}{W:Wd}{rd:List Int}{R:List zy}(h:yH w0 w p T d W rd R)(hg:d.g<W.gs.length)(hm:1≤(W.g d.g).n∧(W.g d.g).n≤16) :
  Calls Tryz.prog 101 #[.pointer (some ⟨d.q,0,none⟩)] w fun r w'=>r=.returned (.bool (YV W d.g d.x))∧∃k,w'=w.drewN k:=by
 obtain⟨D,ra,rc,hf,h⟩:=h;obtain⟨b,off,s,cap,F⟩:=ZI hf h hg hm;have q0:=F.top.d0;have q2:=(h.zo 10 rfl 2 _ rfl).1
 have p9:=(h.zo 0 rfl 9 _ rfl).1
 have st0:=F.st.1;have HM:=Qq (F.DC 0)
 have e:YV W d.g d.x=(decide (W.en=0)&&decide ((W.g d.g).st=1)&&!(decide (d.x.1=12)||decide (d.x.1=17))):=rfl
 rw[e];generalize W.en=en at *;generalize (W.g d.g).st=st at *
 generalize d.x.1=op at *;clear h hf hg hm F e;have ho:op=12∨op=17∨¬op=12∧¬op=17:=by omega
 have he:en=0∨¬en=0:=by omega
 have hs:st=1∨¬st=1:=by omega
 rcases ho with rfl|rfl|⟨ho1,ho2⟩
 case' inr.inr=>have o1:(op==12)=false:=by simpa using ho1
 case' inr.inr=>have o2:(op==17)=false:=by simpa using ho2
 case' inr.inr=>have d1:decide (op=12)=false:=decide_eq_false ho1
 case' inr.inr=>have d2:decide (op=17)=false:=decide_eq_false ho2
 case' inr.inr=>rw[d1,d2]
 case' inr.inr=>clear ho1 ho2 d1 d2
 all_goals
  rcases he with rfl|he
  ·rcases hs with rfl|hs
   ·go_enter Tryz.func101,Tryz.ntmps101
    go_wp2_with fail;refine HM.out.mono ?_
    rintro r w1 ⟨rfl,k,hw1⟩;have st1:w1.cell? ⟨b,off+d.g*2,none⟩=some (.int .i64 1):=by rw[hw1];exact st0
    have HW:=Qq hw1;clear hw1 HM st0;go_wp2;go_ret;exact⟨rfl,_,HW.out⟩
   ·have s1:(st==1)=false:=by simpa using hs
    have d3:decide (st=1)=false:=decide_eq_false hs
    rw[d3];clear hs d3;go_enter Tryz.func101,Tryz.ntmps101
    go_wp2_with fail;refine HM.out.mono ?_
    rintro r w1 ⟨rfl,k,hw1⟩;have st1:w1.cell? ⟨b,off+d.g*2,none⟩=some (.int .i64 st):=by rw[hw1];exact st0
    have HW:=Qq hw1;clear hw1 HM st0;go_wp2;go_ret;exact⟨rfl,_,HW.out⟩
  ·have e1:(en==0)=false:=by simpa using he
   have d4:decide (en=0)=false:=decide_eq_false he
   rw[d4];clear he d4 hs;go_enter Tryz.func101,Tryz.ntmps101
   go_wp2;go_ret;exact⟨rfl,0,rfl⟩
theorem Xq.more {w0:World}{p:Nat}{T:List Value}{W:Wd}{F:Nat}{fst cap:Array Value}{kind n:Int}{R:List zy}{Qd:Int→List zy→Prop}{Qp:Ending→List zy→Prop}(h:Xq w0 p T W F fst cap kind n R Qd Qp)(A:zy) :
  Xq w0 p T W F fst cap kind n (A::R) (fun v R2=>∃R1,R2=A::R1∧Qd v R1) (fun r R2=>∃R1,R2=A::R1∧Qp r R1):=by
 intro Z d w' hD;have e:∀X:List zy,Z++(A::X)=(Z++[A])++X:=fun X=>by simp
 rw[e] at hD;refine(h (Z++[A]) d w' hD).mono (fun r w2 hh=>?_)
 rcases hh with⟨v,R',h1,h2,h3⟩|⟨ch,R',h1,h2,h3⟩
 ·exact .inl ⟨v,_,h1,⟨R',rfl,h2⟩,by rw[e];exact h3⟩
 ·exact .inr ⟨ch,_,h1,⟨R',rfl,h2⟩,by rw[e];exact h3⟩
theorem yH.mk {w0 w:World}{p:Nat}{T:List Value}{W:Wd}{D:Wa}{R:List zy}{q:Nat}{A:zy}{g:Nat}{x:zS}{th:Bool}(h:Own w0 w (zf q (yn p (g:Int) x th 0 false none 0 0)::A::(zh p W D T++R)))(hf:D.fits W) :
  yH w0 w p T ⟨q,g,x,th,0,false⟩ W [] (A::R):=by
 refine⟨D,none,0,hf,?_⟩
 have h1:Own w0 w (zd 1 none 0 0 []::(zf q (yn p (g:Int) x th 0 false none 0 0)::A::(zh p W D T++R))) :=
  h.add (Below.refl _ _) (A:=zd 1 none 0 0 []) (F:=[]) ⟨rfl,zU.nil 1 w⟩ (fun x hx=>by simp at hx)
 refine h1.perm ?_
 have e:List.Perm ([zd 1 none 0 0 [],zf q (yn p (g:Int) x th 0 false none 0 0),A]++(zh p W D T++R)) (zh p W D T++([zf q (yn p (g:Int) x th 0 false none 0 0),zd 1 none 0 0 [],A]++R)):=by
  rw[←List.append_assoc,←List.append_assoc];refine List.Perm.append_right R ((List.perm_append_comm).trans (List.Perm.append_left _ ?_))
  exact List.Perm.swap _ _ _
 simpa [zr] using e
theorem P7 {w:World}{b:Nat}{k:Bool}{a:Option Addr}{n c:Nat}(e0:w.cell? ⟨b,0,none⟩=some (.bool k))(e1:w.cell? ⟨b,1,none⟩=some (.slice a n c)):(loadVar 210 ⟨b,0,none⟩).run Tryz.prog w=.ok (.agg #[.bool k,.slice a n c]) w:=by
 simp[go_sem,e0,e1]
theorem Ig {w0 w:World}{p:Nat}{T:List Value}{W:Wd}{D:Wa}{R:List zy}(h:Own w0 w (zh p W D T++R))(hf:D.fits W)(g:Int)(hl:¬W.lets g)(draw:Value) :
  Calls Tryz.prog 85 #[.pointer (some ⟨p,0,none⟩),.int .i64 g,draw] w fun r w'=>r=.returned (.agg #[.bool false,.slice none 0 0])∧Own w0 w' (zh p W D T++R):=by
 have HL:Hid (∀(wx:World) (Y:List zy),Own w0 wx (zh p W D T++Y)→Calls Tryz.prog 97 #[.pointer (some ⟨p,0,none⟩),.int .i64 g] wx fun r w'=>r=.returned (.bool false)∧w'=wx):=Qq (fun wx Y ho=>by
  refine(RF ho hf g).mono (fun r w' hh=>?_)
  rw[decide_eq_false hl] at hh;exact hh)
 have o1:=(h.alloc [.bool false,.slice none 0 0] 210 (b:=w.heap.size) rfl)
 have H1:=Qq o1;clear h hf hl o1;go_enter Tryz.func85,Tryz.ntmps85
 go_wp2_with fail;refine(HL.out _ _ H1.out.XW).mono ?_
 rintro r w2 ⟨rfl,rfl⟩;go_wp2;exact bodyPost_ret (zu Tryz.results85 _ ⟨w.heap.size,0,none⟩ rfl (P7 (H1.out.zo 0 rfl 0 _ rfl).1 (H1.out.zo 0 rfl 1 _ rfl).1)) rfl ⟨rfl,H1.out.drop⟩
theorem Own.CN {w0 w:World}{A B:zy}{L R:List zy}(h:Own w0 w (A::B::(L++R))):Own w0 w (L++(A::B::R)):=h.perm (by
 have e:List.Perm ([A,B]++(L++R)) (L++([A,B]++R)):=by
  rw[←List.append_assoc,←List.append_assoc];exact List.Perm.append_right R List.perm_append_comm
 simpa using e)
theorem yH.end_ {w0 w:World}{p:Nat}{T:List Value}{d:Dq}{W:Wd}{rd:List Int}{A:zy}{R:List zy}(h:yH w0 w p T d W rd (A::R)):∃D ra rc,D.fits W∧Own w0 w (zd 1 ra rc rd.length (zr rd)::(zh p W D T++R)):=by
 obtain⟨D,ra,rc,hf,h⟩:=h;exact⟨D,ra,rc,hf,Own.yB ((((h.pick 10 rfl).drop).pick 11 rfl).drop)⟩
def Yr (W:Wd)(q g:Nat):Dq:=⟨q,g,(W.ins g).getD (0,0,0,0),(W.ins g).isSome,0,false⟩
def Ja (w0:World)(p:Nat)(T:List Value)(W:Wd)(g:Nat)(Qa:Int→Bool→List zy→Prop)(Qp:Ending→List zy→Prop)(r:Ending)(w':World):Prop :=
 (∃v go R' D' ra rc,let m:=doM W g (W.ins g) v go
  r=.returned (.agg #[.bool (YV m.end_ g ((W.ins g).getD (0,0,0,0))),.slice ra m.rd.length rc])∧Qa v go R'∧D'.fits m.end_∧Own w0 w' (zd 1 ra rc m.rd.length (zr m.rd)::(zh p m.end_ D' T++R'))) ∨
 (∃D' chain R',r=.panicked chain∧Qp r R'∧D'.fits W∧Own w0 w' (zh p W D' T++R'))
theorem Kr {w0 w:World}{p:Nat}{T:List Value}{W:Wd}{D:Wa}{R:List zy}(h:Own w0 w (zh p W D T++R))(hf:D.fits W)(g:Nat)(hl:W.lets (g:Int))(ok:Pv W g)(draw:Value){Qa:Int→Bool→List zy→Prop}{Qp:Ending→List zy→Prop}
  (ha:∀q b w1,yH w0 w1 p T (Yr W q g) W [] (zf b [.bool false,.slice none 0 0]::R)→Calls Tryz.prog 99 #[.pointer (some ⟨q,0,none⟩),draw] w1 fun r w' =>
   (∃v go R',r=.returned (.tuple #[])∧Qa v go R'∧yH w0 w' p T ((Yr W q g).ask v go) W [] (zf b [.bool false,.slice none 0 0]::R'))∨(∃chain R',r=.panicked chain∧Qp r R'∧yH w0 w' p T (Yr W q g) W [] (zf b [.bool false,.slice none 0 0]::R')))
  (hd:∀q v go R' R2 w1,Qa v go R'→yH w0 w1 p T ((Yr W q g).ask v go) W [] R2→Calls Tryz.prog 100 #[.pointer (some ⟨q,0,none⟩)] w1 fun r w' =>
   r=.returned (.tuple #[])∧yH w0 w' p T ((Yr W q g).ask v go) (doM W g (W.ins g) v go).end_ (doM W g (W.ins g) v go).rd R2)
  (hk:∀v go R',Qa v go R'→g<(doM W g (W.ins g) v go).end_.gs.length∧1≤((doM W g (W.ins g) v go).end_.g g).n∧((doM W g (W.ins g) v go).end_.g g).n≤16) :
  Calls Tryz.prog 85 #[.pointer (some ⟨p,0,none⟩),.int .i64 (g:Int),draw] w fun r w'=>Ja w0 p T W g Qa Qp r w':=by
 have HL:Hid (∀(wx:World) (D':Wa) (Y:List zy),D'.fits W→Own w0 wx (zh p W D' T++Y)→Calls Tryz.prog 97 #[.pointer (some ⟨p,0,none⟩),.int .i64 (g:Int)] wx fun r w'=>r=.returned (.bool true)∧w'=wx):=Qq (fun wx D' Y hf' ho=>by
  refine(RF ho hf' (g:Int)).mono (fun r w' hh=>?_)
  rw[decide_eq_true hl] at hh;exact hh)
 have HN:=Qq (fun wx Y (ho:Own w0 wx (zh p W D T++Y))=>JE ho hf g ok)
 have HA:=Qq ha;have HD:=Qq hd;have HK:=Qq hk;have HF:=Qq hf;have H1:=Qq (h.alloc [.bool false,.slice none 0 0] 210 (b:=w.heap.size) rfl)
 have B1:Hid ((w.alloc (.cells #[.bool false,.slice none 0 0] 210)).heap.size=w.heap.size+1):=Qq (by simp)
 clear h hf hl ok ha hd hk;go_enter Tryz.func85,Tryz.ntmps85
 go_wp2_with fail;refine(HL.out _ _ _ HF.out H1.out.XW).mono ?_
 rintro r w2 ⟨rfl,rfl⟩;go_upto_region 4 with fail
 have H2:=Qq (H1.out.alloc [.pointer (some ⟨p,0,none⟩),.int .i64 (g:Int),.int .i64 0,.int .i64 0,.int .i64 0,.int .i64 0,.bool false,.int .i64 0,.bool false,.slice none 0 0] 232 (b:=w.heap.size+1) B1.out.symm)
 clear H1 B1;generalize ((w.alloc (.cells #[.bool false,.slice none 0 0] 210)).alloc (.cells #[.pointer (some ⟨p,0,none⟩),.int .i64 (g:Int),.int .i64 0,.int .i64 0,.int .i64 0,.int .i64 0,.bool false,.int .i64 0,.bool false,.slice none 0 0] 232))=w2 at *
 generalize w.heap.size+1=q at *
 generalize w.heap.size=b6 at *;obtain⟨x0,x1,x2,x3,th,hI1,hI2,hBx⟩:∃x0 x1 x2 x3 th,LJ (W.ins g)=.agg #[.int .i64 x0,.int .i64 x1,.int .i64 x2,.int .i64 x3]∧(W.ins g).isSome=th∧∀q,Yr W q g=⟨q,g,(x0,x1,x2,x3),th,0,false⟩:=by
  unfold Yr LJ;cases hI:W.ins g with
  | none=>exact⟨0,0,0,0,false,rfl,rfl,fun _=>rfl⟩
  | some x=>exact⟨x.1,x.2.1,x.2.2.1,x.2.2.2,true,rfl,rfl,fun _=>rfl⟩
 have HBx:=Qq hBx;clear hBx;have HN2:=Qq (HN.out _ _ H2.out.CN)
 rw[hI1,hI2] at HN2;clear HN hI1 hI2;go_wp2_with fail;refine HN2.out.mono ?_
 rintro r w3 ⟨rfl,b3⟩;have o3:=H2.out.step b3;clear H2 HN2 b3;obtain⟨z2,y2⟩:=o3.zo 0 rfl 2 _ rfl;obtain⟨z3,y3⟩:=o3.zo 0 rfl 3 _ rfl;obtain⟨z4,y4⟩:=o3.zo 0 rfl 4 _ rfl;obtain⟨z5,y5⟩:=o3.zo 0 rfl 5 _ rfl;obtain⟨z6,y6⟩:=o3.zo 0 rfl 6 _ rfl;have HA2:=Qq (HA.out q b6 _ (by rw[HBx.out q];exact yH.mk (x:=(x0,x1,x2,x3)) (th:=th) (((((o3.set 2 (.int .i64 x0)).set 3 (.int .i64 x1)).set 4 (.int .i64 x2)).set 5 (.int .i64 x3)).set 6 (.bool th)) HF.out))
 clear HA o3;go_wp2_with fail;refine HA2.out.mono ?_
 clear z2 y2 z3 y3 z4 y4 z5 y5 z6 y6 HA2;intro r w4 hp;rcases hp with⟨v,go,R',rfl,hq,h4⟩|⟨ch,R',rfl,hq,h4⟩
 ·have HQ:=Qq hq
  have HDo:=Qq (HD.out q v go R' _ w4 hq h4)
  have HKo:=Qq (HK.out v go R' hq)
  have HLo:Hid (Calls Tryz.prog 97 #[.pointer (some ⟨p,0,none⟩),.int .i64 (g:Int)] w4 fun r w'=>r=.returned (.bool true)∧w'=w4):=Qq (by
   obtain⟨D4,ra4,rc4,hf4,o4⟩:=h4;exact HL.out _ _ _ hf4 o4)
  clear hq h4 HD HK HL;go_wp2_with fail;refine HLo.out.mono ?_
  rintro r w5 ⟨rfl,rfl⟩;clear HLo;go_wp2_with fail;refine HDo.out.mono ?_
  rintro r w6 ⟨rfl,h6⟩;clear HDo;obtain⟨m,hm⟩:∃m,m=doM W g (W.ins g) v go:=⟨_,rfl⟩
  have HM:=Qq hm;rw[←hm] at h6 HKo;clear hm;have h7:=h6.step (zg w6)
  have HKp:=Qq (MV h7 HKo.out.1 HKo.out.2)
  obtain⟨D6,ra,rc,hf6,o6⟩:=h6;have SB:∀(wx:World) (Z:List zy),Own w0 wx (zh p m.end_ D6 T++(zf q (yn p (g:Int) (Yr W q g).x (Yr W q g).th v go ra m.rd.length rc)::Z))→wx.cell? ⟨q,9,none⟩=some (.slice ra m.rd.length rc):=by
   intro wx Z ho;exact(ho.zo 10 rfl 9 _ rfl).1
  have HSB:=Qq SB;have H6:=Qq o6;have HF6:=Qq hf6;clear h7 o6 hf6 SB HKo;go_upto_region 9 with fail
  have o7:=H6.out.step (zg w6)
  refine yd (fun wx=>wx.cell? ⟨q,9,none⟩=some (.slice ra m.rd.length rc)) 8 (Array.replicate 8 false) (by kernel_rfl) (by kernel_rfl) ?_
  refine zq 0 1 _ (Qj 8 1) 7 (by kernel_rfl) za (HSB.out _ _ o7) (by kernel_rfl) ?_
  simp only[QX,QV,QJ];(repeat((first|refine Qx (h:=?_)|refine Qv (h:=?_));simp only[Act.put,QW,QY,QZ]));refine zb ?_;refine zq 2 4 _ (Qj 8 61) 3 (by kernel_rfl) za (HSB.out _ _ o7) (by kernel_rfl) ?_
  simp only[QX,QV,QQ,QJ];(repeat((first|refine Qx (h:=?_)|refine Qv (h:=?_));simp only[Act.put,QW,QY,QZ]));refine zb ?_;refine zn 1 _ (Qj 8 63) 2 (by kernel_rfl) (fun K hK=>?_)
  have HKK:=Qq hK;clear hK;simp only[QQ,QJ];refine zc (by rfl) ?_;go_simp;refine HKp.out.mono ?_
  rintro r w8 ⟨rfl,k8,hw8⟩;have o8:=o7.q1 hw8;clear hw8 HKp;refine HKK.out _ _ (HSB.out _ _ o8) ?_
  clear HKK K;refine zq 6 1 _ (Qj 8 127) 1 (by kernel_rfl) za (HSB.out _ _ o8) (by kernel_rfl) ?_
  simp only[QX,QV,QQ,QJ];(repeat((first|refine Qx (h:=?_)|refine Qv (h:=?_));simp only[Act.put,QW,QY,QZ]));refine zb ?_;obtain⟨e0,f0⟩:=o8.zo 12 rfl 0 _ rfl;obtain⟨e1,f1⟩:=o8.zo 12 rfl 1 _ rfl;have o9:=((o8.pick 12 rfl).set 0 (.bool (YV m.end_ g (Yr W q g).x))).set 1 (.slice ra m.rd.length rc)
  have H9:=Qq o9;refine zn 7 _ (Qj 8 255) 0 (by kernel_rfl) (fun K hK=>?_)
  have HKK:=Qq hK;clear hK;simp only[QQ,QJ];refine zc (by rfl) ?_;go_simp;refine HKK.out _ _ ((H9.out.zo 11 rfl 9 _ rfl).1) ?_
  clear HKK K;refine wpAnyH_done (by kernel_rfl) (NoPanic.normal ?_) _
  clear o7 o8 o9 H6 HSB;go_wp2_with fail;refine bodyPost_ret (zu Tryz.results85 _ ⟨b6,0,none⟩ rfl (P7 (k:=YV m.end_ g (Yr W q g).x) (H9.out.zo 0 rfl 0 _ rfl).1 (H9.out.zo 0 rfl 1 _ rfl).1)) rfl (.inl ⟨v,go,R',D6,ra,rc,?_⟩)
  have HM2:=HM.out;clear HM;subst HM2;exact⟨rfl,HQ.out,HF6.out,Own.yB ((H9.out.drop.pick 10 rfl).drop)⟩
 ·obtain⟨D5,ra5,rc5,hf5,h5⟩:=h4.end_
  exact⟨rfl,.inr ⟨D5,ch,R',rfl,hq,hf5,h5.drop⟩⟩
theorem NI {w0 w:World}{p:Nat}{T:List Value}{d:Dq}{W:Wd}{R:List zy}(h:yH w0 w p T d W [] R)(hg:d.g<W.gs.length)(hm:1≤(W.g d.g).n∧(W.g d.g).n≤16)(ha:0≤d.x.2.1∧d.x.2.1<8)(ho:W.out.length≤1000) :
  Calls Tryz.prog 140 #[.pointer (some ⟨d.q,0,none⟩)] w fun r w'=>ZY w0 p T d R (ZE W [] d.g d.x) r w':=by
 obtain⟨D,ra,rc,hf,h⟩:=h;obtain⟨a,hA,ha8⟩:=yI (n:=8) ha
 obtain⟨b,off,s,cap,F⟩:=ZI hf h hg hm;have q0:=F.top.d0;have q3:=(h.zo 10 rfl 3 _ rfl).1
 have p8:=(h.zo 0 rfl 8 _ rfl).1
 rw[hA] at q3;by_cases hl:1000≤W.out.length
 ·have e:ZE W [] d.g d.x=⟨W,[],some (-6)⟩:=by unfold ZE;rw[if_pos hl]
  rw[e];have hd:decide ((1000:Int)≤(W.out.length:Int))=true:=by simpa using (by omega:(1000:Int)≤(W.out.length:Int))
  have H:=Qq (show yH w0 w p T d W [] R from⟨D,ra,rc,hf,h⟩)
  generalize W.out.length=n at *;clear h hf F q3 hl ho e;go_enter Tryz.func140,Tryz.ntmps140
  go_wp2;exact⟨rfl,rfl,H.out⟩
 ·have e:ZE W [] d.g d.x=⟨{ W with out:=W.out++[(W.g d.g).rg d.x.2.1] },[],none⟩:=by unfold ZE;rw[if_neg hl]
  rw[e];have hd:decide ((1000:Int)≤(W.out.length:Int))=false:=by simpa using (by omega:¬(1000:Int)≤(W.out.length:Int))
  have hone:d.x.2.1=(a:Int):=hA
  rw[hA];generalize hv:(W.g d.g).rg (a:Int)=v
  have hreg:=(ZV F.stk hm.1 a ha8).1
  rw[hv] at hreg;have a0:(0:Int)≤(a:Int):=by omega
  have a8:(a:Int)<8:=by omega
  have SCB:∀(wx:World) (A9:zy),Own w0 wx ((zh p W D T++(zf d.q (yn p (d.g:Int) d.x d.th d.dr d.go ra 0 rc)::zd 1 ra rc 0 (zr [])::R)).set 9 A9) →
    wx.cell? ⟨d.q,0,none⟩=some (.pointer (some ⟨p,0,none⟩))∧wx.cell? ⟨p,8,none⟩=some (.slice D.oa W.out.length D.oc)∧wx.cell? ⟨d.q,3,none⟩=some (.int .i64 (a:Int))∧wx.cell? ⟨s,((W.g d.g).n-1)*11+2+a,none⟩=some (.int .i64 v):=by
   intro wx A9 ho;obtain⟨Fx,⟨_,hk⟩,-⟩:=(ho.pick 3 rfl).WG (Yl F.sk (Wd.WS hg))
   have h3:=(ho.zo 10 rfl 3 _ rfl).1
   rw[hA] at h3;have hr:=(ZV hk hm.1 a ha8).1
   rw[hv] at hr;exact⟨(ho.zo 10 rfl 0 _ rfl).1,(ho.zo 0 rfl 8 _ rfl).1,h3,hr⟩
  have Z8:=Xo (F.top.drewN 1)
  have H:=Qq h;have HF:=Qq hf;obtain⟨i0,hi0,hz0,hz1,hz2⟩:=info_parts WA;have Hi:=Qq hi0;clear hi0
  have Hz0:=Qq hz0;clear hz0
  have Hz1:=Qq hz1;clear hz1
  have Hz2:=Qq hz2;clear hz2
  have HL:=Qq (show W.out.length≤1000 from ho)
  obtain⟨n,hn⟩:∃n,n=W.out.length:=⟨_,rfl⟩
  rw[←hn] at SCB hd p8 HL;obtain⟨m,hmm⟩:∃m,m=(W.g d.g).n-1:=⟨_,rfl⟩
  rw[←hmm] at SCB hreg Z8;have HT:=Qq Z8;have HN:=Qq hn;clear hn hl ho e hone F hf hA hv ha hm Z8 hmm;have h0:=H.out;clear h;go_enter Tryz.func140,Tryz.ntmps140
  go_upto_region 2 with fail
  have o1:=h0.step (zg w)
  refine xg (fun wx=>wx.cell? ⟨d.q,0,none⟩=some (.pointer (some ⟨p,0,none⟩))∧wx.cell? ⟨p,8,none⟩=some (.slice D.oa n D.oc)∧wx.cell? ⟨d.q,3,none⟩=some (.int .i64 (a:Int))∧wx.cell? ⟨s,m*11+2+a,none⟩=some (.int .i64 v)) 26 27 (Array.replicate 27 false) (by kernel_rfl) (by kernel_rfl) ?_
  refine yw 0 12 _ (Qj 27 4095) 15 (by kernel_rfl) za (SCB _ _ o1) (by kernel_rfl) ?_
  simp only[QX,QV,QJ];(repeat((first|refine Qx (h:=?_)|refine Qv (h:=?_));simp only[Act.put,QW,QY,QZ]));refine zb ?_;refine yw 13 5 _ (Qj 27 258047) 10 (by kernel_rfl) za (SCB _ _ o1) (by kernel_rfl) ?_
  simp only[QX,QV,QQ,QJ];(repeat((first|refine Qx (h:=?_)|refine Qv (h:=?_));simp only[Act.put,QW,QY,QZ]));refine zb ?_;refine yk 12 _ (Qj 27 262143) 9 (by kernel_rfl) (fun K hK=>?_)
  have HKK:=Qq hK;clear hK;simp only[QQ,QJ];refine zc (by rfl) ?_;go_simp;refine HT.out.mono ?_
  rintro r w1 ⟨rfl,k1,hw1⟩;have o2:=h0.q2 hw1;clear hw1;refine HKK.out _ _ (SCB _ _ o2) ?_
  clear HKK K;refine yw 18 4 _ (Qj 27 4194303) 5 (by kernel_rfl) za (SCB _ _ o2) (by kernel_rfl) ?_
  simp only[QX,QV,QQ,QJ];(repeat((first|refine Qx (h:=?_)|refine Qv (h:=?_));simp only[Act.put,QW,QY,QZ]));refine zb ?_;refine yk 22 _ (Qj 27 8388607) 4 (by kernel_rfl) (fun K hK=>?_)
  have HKK:=Qq hK;clear hK;simp only[QQ,QJ];refine zc (by rfl) ?_;go_simp;have o3:=o2.step (below_alloc1 _ (.cells #[.int .i64 v] 2))
  refine HKK.out _ _ (SCB _ _ o3) ?_
  clear HKK K;refine yk 23 _ (Qj 27 16777215) 3 (by kernel_rfl) (fun K hK=>?_)
  have HKK:=Qq hK;clear hK;simp only[QQ,QJ];refine zc (by rfl) ?_;have hrow:=o3.yZ 9 rfl;rw[←HN.out] at hrow;refine yP (n:=n) (m:=1) (cs:=zr W.out) (ds:=zr [v]) _ _ 39 (by rfl) 2 i0 _ Tryz.underlying39 Hi.out Hz0.out Hz1.out Hz2.out rfl (by omega) (by omega) (by rfl) (by rfl) hrow (zt.new _ (zr [v]) _ rfl) rfl (ZQ _) (by have:=HL.out;omega) ?_
  intro a9 c9 w9 k9 ch9 f9;have o4:=(Own.xj (o3.pick 9 rfl) k9 ch9 f9).back (i:=9) (As:=zh p W D T++(zf d.q (yn p (d.g:Int) d.x d.th d.dr d.go ra 0 rc)::zd 1 ra rc 0 (zr [])::R)) (by simp[zh])
  refine HKK.out _ _ (SCB _ _ o4) ?_
  clear HKK K;refine xF 24 1 _ (Qj 27 33554431) 2 (by kernel_rfl) za (by kernel_rfl) ?_
  simp only[QX,QV,QQ,QJ];(repeat((first|refine Qx (h:=?_)|refine Qv (h:=?_));simp only[Act.put,QW,QY,QZ]));refine zb ?_;refine yw 25 1 _ (Qj 27 67108863) 1 (by kernel_rfl) za (SCB _ _ o4) (by kernel_rfl) ?_
  simp only[QX,QV,QQ,QJ];(repeat((first|refine Qx (h:=?_)|refine Qv (h:=?_));simp only[Act.put,QW,QY,QZ]));refine zb ?_;have hf:=HF.out;obtain⟨z8,f8⟩:=o4.zo 0 rfl 8 _ rfl;have o5:=o4.setAt 0 rfl 8 (.slice a9 (n+1) c9)
  have e1:(W.out++[v]).length=n+1:=by rw[List.length_append,←HN.out];rfl
  have HR:Hid (yH w0 (w9.setCell ⟨p,8,none⟩ (.slice a9 (n+1) c9)) p T d { W with out:=W.out++[v] } [] R):=Qq ⟨{ D with oa:=a9,oc:=c9 },ra,rc,⟨hf.f,hf.g,hf.c,hf.n,hf.l,hf.k⟩,by
   simp only[zh,yD,e1,ZT];exact o5⟩
  clear o1 o2 o3 o4 o5 k9 ch9 f9 hf hrow SCB HT H HF;refine xH 26 _ (Qj 27 134217727) 0 (by kernel_rfl) (fun K hK=>?_)
  have HKK:=Qq hK;clear hK;simp only[QQ,QJ];refine zc (by rfl) ?_;go_simp;refine HKK.out _ _ ?_
  clear HKK K;refine xG (by kernel_rfl) (NoPanic.normal ?_) _
  go_wp2;go_end0
  exact⟨rfl,HR.out⟩
theorem MQ {w0 w:World}{p:Nat}{T:List Value}{d:Dq}{W:Wd}{R:List zy}(h:yH w0 w p T d W [] R)(hg:d.g<W.gs.length)(hm:1≤(W.g d.g).n∧(W.g d.g).n≤16)(ha:0≤d.x.2.1∧d.x.2.1<8) :
  Calls Tryz.prog 141 #[.pointer (some ⟨d.q,0,none⟩)] w fun r w'=>ZY w0 p T d R ⟨W.put d.g d.x.2.1 d.dr,[],none⟩ r w':=by
 obtain⟨D,ra,rc,hf,h⟩:=h;obtain⟨a,hA,ha8⟩:=yI (n:=8) ha
 obtain⟨b,off,s,cap,F⟩:=ZI hf h hg hm;have q0:=F.top.d0;have q3:=(h.zo 10 rfl 3 _ rfl).1
 have q7:=(h.zo 10 rfl 7 _ rfl).1
 rw[hA] at q3;rw[hA];obtain⟨m,hmm⟩:∃m,m=(W.g d.g).n-1:=⟨_,rfl⟩
 have hreg:=ZV F.stk hm.1 a ha8;have HT:=Qq (F.Z8 hmm 1)
 have HP:Hid (∀w1 k,w1=(w.drewN 1).drewN k→yH w0 (w1.setCell ⟨s,m*11+2+a,none⟩ (.int .i64 d.dr)) p T d (W.put d.g (a:Int) d.dr) [] R):=Qq (fun w1 k e=>by
  rw[hmm];exact⟨D,ra,rc,hf.ye _ _,VE (h.q2 e) hg F.sk a d.dr⟩)
 rw[←hmm] at hreg;have a0:(0:Int)≤(a:Int):=by omega
 have a8:(a:Int)<8:=by omega
 obtain⟨r0,r1⟩:=hreg;clear h hf F hA ha hm hmm;go_enter Tryz.func141,Tryz.ntmps141
 refine zi (fun wx=>∃nq,wx=World.drewN (w) nq) 14 1 (Array.replicate 15 false) (Qj 15 16383) (by kernel_rfl) (by kernel_rfl) ?_
 refine ze 0 1 _ (Qj 15 1) 13 (by kernel_rfl) za (zE w) (by kernel_rfl) ?_
 simp only[QX,QV,QJ];(repeat((first|refine Qx (h:=?_)|refine Qw (h:=?_));simp only[Act.put,QW,QY,QZ]));refine zb ?_;refine ze 2 9 _ (Qj 15 2045) 4 (by kernel_rfl) za (zE w) (by kernel_rfl) ?_
 simp only[QX,QV,QQ,QJ];(repeat((first|refine Qx (h:=?_)|refine Qw (h:=?_));simp only[Act.put,QW,QY,QZ]));refine zb ?_;refine zB 1 _ (Qj 15 2047) 3 (by kernel_rfl) (fun K hK=>?_)
 have HKK:=Qq hK;clear hK;simp only[QQ,QJ];refine zc (by rfl) ?_;go_simp;refine HT.out.mono ?_
 rintro r w1 ⟨rfl,k1,hw1⟩;refine HKK.out _ _ (VX hw1) ?_
 clear HKK K;refine ze 11 3 _ (Qj 15 16383) 0 (by kernel_rfl) za (VX hw1) (by kernel_rfl) ?_
 simp only[QX,QV,QQ,QJ];(repeat((first|refine Qx (h:=?_)|refine Qw (h:=?_));simp only[Act.put,QW,QY,QZ]));refine zb ?_;refine zm ?_;refine zP 14 (by kernel_rfl) ?_
 simp only[QQ,QJ];have hfin:=HP.out _ _ hw1;have HF:=Qq hfin;have s0:w1.cell? ⟨s,m*11+2+a,none⟩=some (.int .i64 ((W.g d.g).rg (a:Int))):=by rw[hw1];exact r0
 have s1:w1.frozen? ⟨s,m*11+2+a,none⟩=false:=by rw[hw1];exact r1
 clear hfin hw1 HP HT;go_wp2;go_end0
 exact⟨rfl,HF.out⟩
theorem MJ {w0 w:World}{p:Nat}{T:List Value}{d:Dq}{W:Wd}{R:List zy}(h:yH w0 w p T d W [] R)(hg:d.g<W.gs.length)(hm:1≤(W.g d.g).n∧(W.g d.g).n≤16)(ha:0≤d.x.2.1∧d.x.2.1<(W.Ls.length:Int))(hl:∀L∈W.Ls,L.length≤1000000)(hk:W.Ls.length≤1000) :
  Calls Tryz.prog 138 #[.pointer (some ⟨d.q,0,none⟩)] w fun r w'=>ZY w0 p T d R (ZR W [] d.g d.x) r w':=by
 obtain⟨D,ra,rc,hf,h⟩:=h;obtain⟨a,hA,ha8⟩:=yI (n:=W.Ls.length) ha
 obtain⟨b,off,s,cap,F⟩:=ZI hf h hg hm;have q0:=F.top.d0;have q1:=F.top.d1;have q3:=(h.zo 10 rfl 3 _ rfl).1
 have p4:=(h.zo 0 rfl 4 _ rfl).1
 rw[hA] at q3;obtain⟨pt,lb,lo,R',hla,l0,k1,k2⟩:=SK h hf ha8;rw[hla] at p4;have a0:(0:Int)≤(a:Int):=by omega
 have a8:(a:Int)<(W.Ls.length:Int):=by omega
 have hLl:=hl _ (List.mem_of_getElem? (Wd.SF ha8))
 have e:ZR W [] d.g d.x=if(W.lk (a:Int)).isEmpty=true then⟨{ W with Ls:=W.Ls.set a (W.lk (a:Int)++[(d.g:Int)]) },[],none⟩ else⟨({ W with Ls:=W.Ls.set a (W.lk (a:Int)++[(d.g:Int)]) }:Wd).zQ d.g 2,[],none⟩:=by
  unfold ZR;rw[hA];cases hL:W.lk (a:Int)<;>simp[hL]
 rw[e];have K2:=Qq k2;have HC:Hid (∀k,Calls Tryz.prog 164 #[.pointer (some ⟨pt,0,none⟩),.int .i64 (d.g:Int)] (w.drewN k) fun r w'=>r=.returned (.bool (W.lk (a:Int)).isEmpty)∧Own w0 w' (zh p { W with Ls:=W.Ls.set a (W.lk (a:Int)++[(d.g:Int)]) } D T++(zf d.q (yn p (d.g:Int) d.x d.th d.dr d.go ra 0 rc)::zd 1 ra rc 0 (zr [])::R))∧D.fits { W with Ls:=W.Ls.set a (W.lk (a:Int)++[(d.g:Int)]) }) :=
  Qq (fun k=>(Hr (k1.step (zv w k)) (d.g:Int) hLl).mono (fun r w' hh=>⟨hh.1,k2 _ _ hh.2⟩))
 generalize hem:(W.lk (a:Int)).isEmpty=em at *
 generalize hW1:({ W with Ls:=W.Ls.set a (W.lk (a:Int)++[(d.g:Int)]) }:Wd)=W1 at *
 have hg1:d.g<W1.gs.length:=by rw[←hW1];exact hg
 have hm1:1≤(W1.g d.g).n∧(W1.g d.g).n≤16:=by rw[←hW1];exact hm
 generalize W.Ls.length=N at *;clear k1 k2 h F hf hA ha hl hem hW1 hLl hm e K2;go_enter Tryz.func138,Tryz.ntmps138
 go_upto_region 0 with fail
 refine zi (fun wx=>∃nq,wx=World.drewN (w) nq) 18 2 (Array.replicate 20 false) (Qj 20 262143) (by kernel_rfl) (by kernel_rfl) ?_
 refine ze 0 18 _ (Qj 20 262143) 0 (by kernel_rfl) za (zE w) (by kernel_rfl) ?_
 simp only[QX,QV,QJ];(repeat((first|refine Qx (h:=?_)|refine Qw (h:=?_));simp only[Act.put,QW,QY,QZ]));refine zb ?_;refine zm ?_;refine zP 18 (by kernel_rfl) ?_
 simp only[QQ,QJ];go_wp2_with fail;refine(HC.out 1).mono ?_
 rintro r w1 ⟨rfl,h1,hf1⟩;have H1:=Qq (show yH w0 w1 p T d W1 [] R from⟨D,ra,rc,hf1,h1⟩)
 obtain⟨b1,off1,s1,cap1,F1⟩:=ZI hf1 h1 hg1 hm1;have HM:=Qq (F1.DC 0)
 have HP:Hid (∀w2 k,w2=(w1.drewN 0).drewN k→yH w0 (w2.setCell ⟨b1,off1+d.g*2,none⟩ (.int .i64 2)) p T d (W1.zQ d.g 2) [] R):=Qq (fun w2 k e=>⟨D,ra,rc,hf1.ye _ _,Va (h1.q2 e) hf1 hg1 F1.aa 2⟩)
 obtain⟨c0,c1⟩:=F1.st;clear HC h1 hf1 F1;go_wp2_with fail;refine NoPanic.normal ?_
 cases em with
 | true =>
  go_wp2;go_end0
  exact⟨rfl,H1.out⟩
 | false =>
  go_wp2_with fail;refine(HM.out).mono ?_
  rintro r w2 ⟨rfl,k,hw2⟩;have HF:=Qq (HP.out _ _ hw2)
  have c0':w2.cell? ⟨b1,off1+d.g*2,none⟩=some (.int .i64 ((W1.g d.g).st)):=by rw[hw2];exact c0
  have c1':w2.frozen? ⟨b1,off1+d.g*2,none⟩=false:=by rw[hw2];exact c1
  clear hw2 HP HM c0 c1;go_wp2;go_end0
  exact⟨rfl,HF.out⟩
theorem XX {w0 w w1:World}{R:List zy}{g n cap:Nat}{z:List Int}(h:Own w0 w R)(hb:Below w.heap.size w w1)(hs:zR w1 g n cap z)(hg:w.heap.size≤g):Own w0 w1 (Yp g n cap z::R) :=
 h.add hb (F:=[g]) ⟨rfl,hs⟩ (fun x hx=>by simp at hx;omega)
theorem yH.LZ {w0 w:World}{p:Nat}{T:List Value}{d:Dq}{W:Wd}{D:Wa}{rd:List Int}{ra:Option Addr}{rc:Nat}{R:List zy}{s' n' cap':Nat}{z':List Int}(hf:D.fits W)(hg:d.g<W.gs.length)(hm:1≤(W.g d.g).n∧(W.g d.g).n≤16)
  (h:Own w0 w (Yp s' n' cap' z'::(zh p W D T++(zf d.q (yn p (d.g:Int) d.x d.th d.dr d.go ra rd.length rc)::zd 1 ra rc rd.length (zr rd)::R)))) :
  ∃b off,(Calls Tryz.prog 121 #[.pointer (some ⟨d.q,0,none⟩)] w fun r w'=>r=.returned (.pointer (some ⟨b,off+d.g*2,none⟩))∧∃j,w'=w.drewN j) ∧
   (∃v,w.cell? ⟨b,off+d.g*2+1,none⟩=some v)∧w.frozen? ⟨b,off+d.g*2+1,none⟩=false ∧
   ∀w2 j,w2=w.drewN j→yH w0 (w2.setCell ⟨b,off+d.g*2+1,none⟩ (.slice (some ⟨s',0,none⟩) n' cap')) p T d (W.ye d.g ⟨(W.g d.g).st,n',z'⟩) rd R:=by
 obtain⟨b,off,s,cap,F⟩:=ZI hf h.drop hg hm;refine⟨b,off,?_,⟨_,F.top.k⟩,F.sl,fun w2 j e=>?_⟩
 ·exact QF F.top
 ·obtain⟨k1,k2⟩:=J2 (h.q1 e) hf hg F.aa
  exact⟨_,ra,rc,k2,k1⟩
theorem MU {w0 w:World}{p:Nat}{T:List Value}{d:Dq}{W:Wd}{R:List zy}(h:yH w0 w p T d W [] R)(hg:d.g<W.gs.length)(hm:1≤(W.g d.g).n∧(W.g d.g).n≤16)(ha:0≤d.x.2.2.1∧d.x.2.2.1<8) :
  Calls Tryz.prog 130 #[.pointer (some ⟨d.q,0,none⟩)] w fun r w'=>ZY w0 p T d R (ZD W [] d.g d.x) r w':=by
 obtain⟨D,ra,rc,hf,h⟩:=h;obtain⟨a,hA,ha8⟩:=yI (n:=8) ha
 obtain⟨b,off,s,cap,F⟩:=ZI hf h hg hm;have q0:=F.top.d0;have q3:=(h.zo 10 rfl 3 _ rfl).1
 have q4:=(h.zo 10 rfl 4 _ rfl).1
 have q5:=(h.zo 10 rfl 5 _ rfl).1
 rw[hA] at q4;have sl:=F.top.k;obtain⟨m,hmm⟩:∃m,m=(W.g d.g).n-1:=⟨_,rfl⟩
 have hreg:=(ZV F.stk hm.1 a ha8).1
 have HT:=fun k=>Qq (F.Z8 hmm k)
 have HM:=fun k=>Qq (F.DC k)
 have a0:(0:Int)≤(a:Int):=by omega
 have a8:(a:Int)<8:=by omega
 by_cases h16:(W.g d.g).n=16
 ·have e:ZD W [] d.g d.x=⟨W,[],some (-4)⟩:=by unfold ZD;rw[if_pos (by omega)]
  rw[e];have hs:=F.stk;rw[h16] at hs sl;have HC:Hid (∀k,Calls Tryz.prog 155 #[.slice (some ⟨s,0,none⟩) 16 cap,.int .i64 d.x.2.1,.int .i64 ((W.g d.g).rg (a:Int)),.int .i64 d.x.2.2.2] (w.drewN k) fun e w'=>∃g' cap',e=.returned (.tuple #[.slice (some ⟨g',0,none⟩) 16 cap',.bool false])∧yH w0 w' p T d W [] R) :=
   Qq (fun k=>(MC s cap _ d.x.2.1 ((W.g d.g).rg (a:Int)) d.x.2.2.2 (w.drewN k) (hs.below (zv w k))).mono (fun r w' ⟨g',c',h1,h2⟩=>⟨g',c',h1,D,ra,rc,hf,(h.step (zv w k)).step h2⟩))
  rw[←hmm] at hreg;generalize (W.g d.g).rg (a:Int)=v at *
  clear h hf F hA ha hm hs h16 e hmm hg;go_enter Tryz.func130,Tryz.ntmps130
  go_upto_region 0 with fail
  refine zi (fun wx=>∃nq,wx=World.drewN (w) nq) 26 6 (Array.replicate 32 false) (Qj 32 67108863) (by kernel_rfl) (by kernel_rfl) ?_
  refine ze 0 1 _ (Qj 32 1) 25 (by kernel_rfl) za (zE w) (by kernel_rfl) ?_
  simp only[QX,QV,QJ];(repeat((first|refine Qx (h:=?_)|refine Qw (h:=?_));simp only[Act.put,QW,QY,QZ]));refine zb ?_;refine ze 5 6 _ (Qj 32 2017) 19 (by kernel_rfl) za (zE w) (by kernel_rfl) ?_
  simp only[QX,QV,QQ,QJ];(repeat((first|refine Qx (h:=?_)|refine Qw (h:=?_));simp only[Act.put,QW,QY,QZ]));refine zb ?_;refine ze 12 5 _ (Qj 32 128993) 14 (by kernel_rfl) za (zE w) (by kernel_rfl) ?_
  simp only[QX,QV,QQ,QJ];(repeat((first|refine Qx (h:=?_)|refine Qw (h:=?_));simp only[Act.put,QW,QY,QZ]));refine zb ?_;refine ze 21 5 _ (Qj 32 65140705) 9 (by kernel_rfl) za (zE w) (by kernel_rfl) ?_
  simp only[QX,QV,QQ,QJ];(repeat((first|refine Qx (h:=?_)|refine Qw (h:=?_));simp only[Act.put,QW,QY,QZ]));refine zb ?_;refine zB 1 _ (Qj 32 65140707) 8 (by kernel_rfl) (fun K hK=>?_)
  have HKK:=Qq hK;clear hK;simp only[QQ,QJ];refine zc (by rfl) ?_;go_simp;refine(HM 1).out.mono ?_
  rintro r w1 ⟨rfl,k1,rfl⟩;refine HKK.out _ _ ((by first|exact⟨_,rfl⟩|exact⟨_,World.drewN_drewN _ _ _⟩)) ?_
  clear HKK K;refine ze 2 3 _ (Qj 32 65140735) 5 (by kernel_rfl) za ((by first|exact⟨_,rfl⟩|exact⟨_,World.drewN_drewN _ _ _⟩)) (by kernel_rfl) ?_
  simp only[QX,QV,QQ,QJ];(repeat((first|refine Qx (h:=?_)|refine Qw (h:=?_));simp only[Act.put,QW,QY,QZ]));refine zb ?_;refine zB 11 _ (Qj 32 65142783) 4 (by kernel_rfl) (fun K hK=>?_)
  have HKK:=Qq hK;clear hK;simp only[QQ,QJ];refine zc (by rfl) ?_;go_simp;refine(HT _).out.mono ?_
  rintro r w2 ⟨rfl,k2,rfl⟩;refine HKK.out _ _ ((by first|exact⟨_,rfl⟩|exact⟨_,World.drewN_drewN _ _ _⟩)) ?_
  clear HKK K;refine ze 17 4 _ (Qj 32 67108863) 0 (by kernel_rfl) za ((by first|exact⟨_,rfl⟩|exact⟨_,World.drewN_drewN _ _ _⟩)) (by kernel_rfl) ?_
  simp only[QX,QV,QQ,QJ];(repeat((first|refine Qx (h:=?_)|refine Qw (h:=?_));simp only[Act.put,QW,QY,QZ]));refine zb ?_;refine zm ?_;refine yz (fun _=>True) 6 0 (Qj 32 4294967295) ?_
  refine zB 26 _ (Qj 32 134217727) 5 (by kernel_rfl) (fun K hK=>?_)
  have HKK:=Qq hK;clear hK;simp only[QQ,QJ];refine zc (by rfl) ?_;go_simp;refine(HC.out _).mono ?_
  rintro r w3 ⟨g',c',rfl,h3⟩;have H3:=Qq h3;clear h3;refine HKK.out _ _ (trivial) ?_
  clear HKK K;refine ze 27 2 _ (Qj 32 536870911) 3 (by kernel_rfl) za (trivial) (by kernel_rfl) ?_
  simp only[QX,QV,QQ,QJ];(repeat((first|refine Qx (h:=?_)|refine Qv (h:=?_));simp only[Act.put,QW,QY,QZ]));refine zb ?_;refine ze 30 1 _ (Qj 32 1610612735) 2 (by kernel_rfl) za (trivial) (by kernel_rfl) ?_
  simp only[QX,QV,QQ,QJ];(repeat((first|refine Qx (h:=?_)|refine Qv (h:=?_));simp only[Act.put,QW,QY,QZ]));refine zb ?_;refine ze 29 1 _ (Qj 32 2147483647) 1 (by kernel_rfl) za (trivial) (by kernel_rfl) ?_
  simp only[QX,QV,QQ,QJ];(repeat((first|refine Qx (h:=?_)|refine Qv (h:=?_));simp only[Act.put,QW,QY,QZ]));refine zb ?_;refine ze 31 1 _ (Qj 32 4294967295) 0 (by kernel_rfl) za (trivial) (by kernel_rfl) ?_
  simp only[QX,QV,QQ,QJ];(repeat((first|refine Qx (h:=?_)|refine Qv (h:=?_));simp only[Act.put,QW,QY,QZ]));refine zb ?_;refine zm ?_;refine zD (by kernel_rfl) (NoPanic.normal ?_)
  clear HC HT HM;go_wp2;exact⟨rfl,rfl,H3.out⟩
 ·have e:ZD W [] d.g d.x=⟨W.ye d.g ⟨(W.g d.g).st,(W.g d.g).n+1,(W.g d.g).z++ZM d.x.2.1 ((W.g d.g).rg (a:Int)) d.x.2.2.2⟩,[],none⟩:=by unfold ZD;rw[if_neg (by omega),hA]
  rw[e];have hs:=F.stk;have HC:Hid (∀k,Calls Tryz.prog 155 #[.slice (some ⟨s,0,none⟩) (W.g d.g).n cap,.int .i64 d.x.2.1,.int .i64 ((W.g d.g).rg (a:Int)),.int .i64 d.x.2.2.2] (w.drewN k) fun e w'=>∃g' cap',e=.returned (.tuple #[.slice (some ⟨g',0,none⟩) ((W.g d.g).n+1) cap',.bool true])∧Own w0 w' (Yp g' ((W.g d.g).n+1) cap' ((W.g d.g).z++ZM d.x.2.1 ((W.g d.g).rg (a:Int)) d.x.2.2.2)::(zh p W D T++(zf d.q (yn p (d.g:Int) d.x d.th d.dr d.go ra 0 rc)::zd 1 ra rc 0 (zr [])::R)))) :=
   Qq (fun k=>(Jw s _ cap _ d.x.2.1 ((W.g d.g).rg (a:Int)) d.x.2.2.2 (w.drewN k) (hs.below (zv w k)) hm.1 (by omega)).mono (fun r w' ⟨g',c',h1,h2,h3,h4⟩=>⟨g',c',h1,XX (h.step (zv w k)) h4 h3 h2⟩))
  have HN:=Qq (fun w g' c' h=>yH.LZ (w0:=w0) (w:=w) (T:=T) (R:=R) (rd:=[]) (s':=g') (cap':=c') (n':=(W.g d.g).n+1) (z':=(W.g d.g).z++ZM d.x.2.1 ((W.g d.g).rg (a:Int)) d.x.2.2.2) (p:=p) (ra:=ra) (rc:=rc) hf hg hm h)
  rw[←hmm] at hreg;generalize (W.g d.g).rg (a:Int)=v at *
  obtain⟨n,hn⟩:∃n,n=(W.g d.g).n:=⟨_,rfl⟩
  rw[←hn] at sl HC HN ⊢;clear h hf F hA ha hm hs h16 e hmm hg hn;go_enter Tryz.func130,Tryz.ntmps130
  go_upto_region 0 with fail
  refine zi (fun wx=>∃nq,wx=World.drewN (w) nq) 26 6 (Array.replicate 32 false) (Qj 32 67108863) (by kernel_rfl) (by kernel_rfl) ?_
  refine ze 0 1 _ (Qj 32 1) 25 (by kernel_rfl) za (zE w) (by kernel_rfl) ?_
  simp only[QX,QV,QJ];(repeat((first|refine Qx (h:=?_)|refine Qw (h:=?_));simp only[Act.put,QW,QY,QZ]));refine zb ?_;refine ze 5 6 _ (Qj 32 2017) 19 (by kernel_rfl) za (zE w) (by kernel_rfl) ?_
  simp only[QX,QV,QQ,QJ];(repeat((first|refine Qx (h:=?_)|refine Qw (h:=?_));simp only[Act.put,QW,QY,QZ]));refine zb ?_;refine ze 12 5 _ (Qj 32 128993) 14 (by kernel_rfl) za (zE w) (by kernel_rfl) ?_
  simp only[QX,QV,QQ,QJ];(repeat((first|refine Qx (h:=?_)|refine Qw (h:=?_));simp only[Act.put,QW,QY,QZ]));refine zb ?_;refine ze 21 5 _ (Qj 32 65140705) 9 (by kernel_rfl) za (zE w) (by kernel_rfl) ?_
  simp only[QX,QV,QQ,QJ];(repeat((first|refine Qx (h:=?_)|refine Qw (h:=?_));simp only[Act.put,QW,QY,QZ]));refine zb ?_;refine zB 1 _ (Qj 32 65140707) 8 (by kernel_rfl) (fun K hK=>?_)
  have HKK:=Qq hK;clear hK;simp only[QQ,QJ];refine zc (by rfl) ?_;go_simp;refine(HM 1).out.mono ?_
  rintro r w1 ⟨rfl,k1,rfl⟩;refine HKK.out _ _ ((by first|exact⟨_,rfl⟩|exact⟨_,World.drewN_drewN _ _ _⟩)) ?_
  clear HKK K;refine ze 2 3 _ (Qj 32 65140735) 5 (by kernel_rfl) za ((by first|exact⟨_,rfl⟩|exact⟨_,World.drewN_drewN _ _ _⟩)) (by kernel_rfl) ?_
  simp only[QX,QV,QQ,QJ];(repeat((first|refine Qx (h:=?_)|refine Qw (h:=?_));simp only[Act.put,QW,QY,QZ]));refine zb ?_;refine zB 11 _ (Qj 32 65142783) 4 (by kernel_rfl) (fun K hK=>?_)
  have HKK:=Qq hK;clear hK;simp only[QQ,QJ];refine zc (by rfl) ?_;go_simp;refine(HT _).out.mono ?_
  rintro r w2 ⟨rfl,k2,rfl⟩;refine HKK.out _ _ ((by first|exact⟨_,rfl⟩|exact⟨_,World.drewN_drewN _ _ _⟩)) ?_
  clear HKK K;refine ze 17 4 _ (Qj 32 67108863) 0 (by kernel_rfl) za ((by first|exact⟨_,rfl⟩|exact⟨_,World.drewN_drewN _ _ _⟩)) (by kernel_rfl) ?_
  simp only[QX,QV,QQ,QJ];(repeat((first|refine Qx (h:=?_)|refine Qw (h:=?_));simp only[Act.put,QW,QY,QZ]));refine zb ?_;refine zm ?_;refine yz (fun _=>True) 6 0 (Qj 32 4294967295) ?_
  refine zB 26 _ (Qj 32 134217727) 5 (by kernel_rfl) (fun K hK=>?_)
  have HKK:=Qq hK;clear hK;simp only[QQ,QJ];refine zc (by rfl) ?_;go_simp;refine(HC.out _).mono ?_
  rintro r w3 ⟨g',c',rfl,h3⟩;obtain⟨b',off',m1,⟨v1,m2⟩,m3,m4⟩:=HN.out w3 g' c' h3;have HM':=Qq m1;have H4:=Qq m4;clear h3 m1 m4;refine HKK.out _ _ (trivial) ?_
  clear HKK K;refine ze 27 2 _ (Qj 32 536870911) 3 (by kernel_rfl) za (trivial) (by kernel_rfl) ?_
  simp only[QX,QV,QQ,QJ];(repeat((first|refine Qx (h:=?_)|refine Qv (h:=?_));simp only[Act.put,QW,QY,QZ]));refine zb ?_;refine ze 30 1 _ (Qj 32 1610612735) 2 (by kernel_rfl) za (trivial) (by kernel_rfl) ?_
  simp only[QX,QV,QQ,QJ];(repeat((first|refine Qx (h:=?_)|refine Qv (h:=?_));simp only[Act.put,QW,QY,QZ]));refine zb ?_;refine ze 29 1 _ (Qj 32 2147483647) 1 (by kernel_rfl) za (trivial) (by kernel_rfl) ?_
  simp only[QX,QV,QQ,QJ];(repeat((first|refine Qx (h:=?_)|refine Qv (h:=?_));simp only[Act.put,QW,QY,QZ]));refine zb ?_;refine ze 31 1 _ (Qj 32 4294967295) 0 (by kernel_rfl) za (trivial) (by kernel_rfl) ?_
  simp only[QX,QV,QQ,QJ];(repeat((first|refine Qx (h:=?_)|refine Qv (h:=?_));simp only[Act.put,QW,QY,QZ]));refine zb ?_;refine zm ?_;refine zD (by kernel_rfl) (NoPanic.normal ?_)
  clear HC HT HM HN;go_wp2_with fail;refine HM'.out.mono ?_
  rintro r w4 ⟨rfl,j,hw4⟩;have HF:=Qq (H4.out w4 j hw4)
  have m2':w4.cell? ⟨b',off'+d.g*2+1,none⟩=some v1:=by rw[hw4];exact m2
  have m3':w4.frozen? ⟨b',off'+d.g*2+1,none⟩=false:=by rw[hw4];exact m3
  clear H4 HM' hw4 m2 m3;go_wp2;go_end0
  exact⟨rfl,HF.out⟩
theorem Lc {w0 w:World}{p:Nat}{T:List Value}{d:Dq}{W:Wd}{R:List zy}(h:yH w0 w p T d W [] R)(hg:d.g<W.gs.length)(hm:1≤(W.g d.g).n∧(W.g d.g).n≤16)(ha:0≤d.x.2.1∧d.x.2.1<8)
  (hi:2≤(W.g d.g).n→0≤(W.g d.g).z.getD ((W.g d.g).o+10) 0∧(W.g d.g).z.getD ((W.g d.g).o+10) 0<8) :
  Calls Tryz.prog 131 #[.pointer (some ⟨d.q,0,none⟩)] w fun r w'=>ZY w0 p T d R (Y6 W [] d.g d.x) r w':=by
 obtain⟨D,ra,rc,hf,h⟩:=h;obtain⟨a,hA,ha8⟩:=yI (n:=8) ha
 obtain⟨b,off,s,cap,F⟩:=ZI hf h hg hm;have q0:=F.top.d0;have q3:=(h.zo 10 rfl 3 _ rfl).1
 rw[hA] at q3;have sl:=F.top.k;obtain⟨m,hmm⟩:∃m,m=(W.g d.g).n-1:=⟨_,rfl⟩
 have hreg:=(ZV F.stk hm.1 a ha8).1
 have HT:=fun k=>Qq (F.Z8 hmm k)
 have HM:=fun k=>Qq (F.DC k)
 have a0:(0:Int)≤(a:Int):=by omega
 have a8:(a:Int)<8:=by omega
 have hs:=F.stk;by_cases h1:(W.g d.g).n=1
 ·have e:Y6 W [] d.g d.x=⟨{ W.zQ d.g 4 with en:=if d.g=0 then 1 else W.en },[],none⟩:=by unfold Y6;rw[if_pos (by omega)]
  rw[e];rw[h1] at hs sl;have HC:Hid (∀v k,Calls Tryz.prog 156 #[.slice (some ⟨s,0,none⟩) 1 cap,.int .i64 v] (w.drewN k) fun e w'=>e=.returned (.tuple #[.slice none 0 0,.bool false])∧w.drewN k=w'):=Qq (fun v k=>SY s cap v _)
  rw[←hmm] at hreg;generalize (W.g d.g).rg (a:Int)=v at *
  have c0:=F.st;have HP:Hid (∀k,Own w0 ((w.drewN k).setCell ⟨b,off+d.g*2,none⟩ (.int .i64 4)) (zh p (W.zQ d.g 4) D T++(zf d.q (yn p (d.g:Int) d.x d.th d.dr d.go ra 0 rc)::zd 1 ra rc 0 (zr [])::R))):=Qq (fun k=>Va (h.q1 rfl) hf hg F.aa 4)
  have hf1:D.fits (W.zQ d.g 4):=hf.ye _ _
  have HF:=Qq hf1;obtain⟨c0,c1⟩:=c0;have q1:=F.top.d1;have hpne:∀k,(w.drewN k).cell? ⟨d.q,0,none⟩=some (.pointer (some ⟨p,0,none⟩)):=fun k=>q0
  generalize hW:({ W.zQ d.g 4 with en:=if d.g=0 then 1 else W.en }:Wd)=W'
  have HW:=Qq hW;clear hf F hA ha hm hs h1 e hmm hf1 hi hW;have H:=Qq h;clear h;go_enter Tryz.func131,Tryz.ntmps131
  go_upto_region 0 with fail
  refine zi (fun wx=>∃nq,wx=World.drewN (w) nq) 16 6 (Array.replicate 22 false) (Qj 22 65535) (by kernel_rfl) (by kernel_rfl) ?_
  refine ze 0 1 _ (Qj 22 1) 15 (by kernel_rfl) za (zE w) (by kernel_rfl) ?_
  simp only[QX,QV,QJ];(repeat((first|refine Qx (h:=?_)|refine Qw (h:=?_));simp only[Act.put,QW,QY,QZ]));refine zb ?_;refine ze 5 1 _ (Qj 22 33) 14 (by kernel_rfl) za (zE w) (by kernel_rfl) ?_
  simp only[QX,QV,QQ,QJ];(repeat((first|refine Qx (h:=?_)|refine Qw (h:=?_));simp only[Act.put,QW,QY,QZ]));refine zb ?_;refine ze 7 5 _ (Qj 22 4001) 9 (by kernel_rfl) za (zE w) (by kernel_rfl) ?_
  simp only[QX,QV,QQ,QJ];(repeat((first|refine Qx (h:=?_)|refine Qw (h:=?_));simp only[Act.put,QW,QY,QZ]));refine zb ?_;refine zB 1 _ (Qj 22 4003) 8 (by kernel_rfl) (fun K hK=>?_)
  have HKK:=Qq hK;clear hK;simp only[QQ,QJ];refine zc (by rfl) ?_;go_simp;refine(HM 1).out.mono ?_
  rintro r w1 ⟨rfl,k1,rfl⟩;refine HKK.out _ _ ((by first|exact⟨_,rfl⟩|exact⟨_,World.drewN_drewN _ _ _⟩)) ?_
  clear HKK K;refine ze 2 3 _ (Qj 22 4031) 5 (by kernel_rfl) za ((by first|exact⟨_,rfl⟩|exact⟨_,World.drewN_drewN _ _ _⟩)) (by kernel_rfl) ?_
  simp only[QX,QV,QQ,QJ];(repeat((first|refine Qx (h:=?_)|refine Qw (h:=?_));simp only[Act.put,QW,QY,QZ]));refine zb ?_;refine zB 6 _ (Qj 22 4095) 4 (by kernel_rfl) (fun K hK=>?_)
  have HKK:=Qq hK;clear hK;simp only[QQ,QJ];refine zc (by rfl) ?_;go_simp;refine(HT _).out.mono ?_
  rintro r w2 ⟨rfl,k2,rfl⟩;refine HKK.out _ _ ((by first|exact⟨_,rfl⟩|exact⟨_,World.drewN_drewN _ _ _⟩)) ?_
  clear HKK K;refine ze 12 4 _ (Qj 22 65535) 0 (by kernel_rfl) za ((by first|exact⟨_,rfl⟩|exact⟨_,World.drewN_drewN _ _ _⟩)) (by kernel_rfl) ?_
  simp only[QX,QV,QQ,QJ];(repeat((first|refine Qx (h:=?_)|refine Qw (h:=?_));simp only[Act.put,QW,QY,QZ]));refine zb ?_;refine zm ?_;refine yz (fun _=>True) 6 0 (Qj 22 4194303) ?_
  refine zB 16 _ (Qj 22 131071) 5 (by kernel_rfl) (fun K hK=>?_)
  have HKK:=Qq hK;clear hK;simp only[QQ,QJ];refine zc (by rfl) ?_;go_simp;refine(HC.out _ _).mono ?_
  rintro r w3 ⟨rfl,rfl⟩;refine HKK.out _ _ (trivial) ?_
  clear HKK K;refine ze 17 2 _ (Qj 22 524287) 3 (by kernel_rfl) za (trivial) (by kernel_rfl) ?_
  simp only[QX,QV,QQ,QJ];(repeat((first|refine Qx (h:=?_)|refine Qv (h:=?_));simp only[Act.put,QW,QY,QZ]));refine zb ?_;refine ze 20 1 _ (Qj 22 1572863) 2 (by kernel_rfl) za (trivial) (by kernel_rfl) ?_
  simp only[QX,QV,QQ,QJ];(repeat((first|refine Qx (h:=?_)|refine Qv (h:=?_));simp only[Act.put,QW,QY,QZ]));refine zb ?_;refine ze 19 1 _ (Qj 22 2097151) 1 (by kernel_rfl) za (trivial) (by kernel_rfl) ?_
  simp only[QX,QV,QQ,QJ];(repeat((first|refine Qx (h:=?_)|refine Qv (h:=?_));simp only[Act.put,QW,QY,QZ]));refine zb ?_;refine ze 21 1 _ (Qj 22 4194303) 0 (by kernel_rfl) za (trivial) (by kernel_rfl) ?_
  simp only[QX,QV,QQ,QJ];(repeat((first|refine Qx (h:=?_)|refine Qv (h:=?_));simp only[Act.put,QW,QY,QZ]));refine zb ?_;refine zm ?_;refine zD (by kernel_rfl) (NoPanic.normal ?_)
  go_wp2_with fail;refine(HM _).out.mono ?_
  rintro r w4 ⟨rfl,j0,hw0⟩;obtain⟨j,hw4⟩:=VX hw0;clear hw0;have ho:=HP.out j;rw[←hw4] at ho;have c0':w4.cell? ⟨b,off+d.g*2,none⟩=some (.int .i64 ((W.g d.g).st)):=by rw[hw4];exact c0
  have c1':w4.frozen? ⟨b,off+d.g*2,none⟩=false:=by rw[hw4];exact c1
  have q0':=(ho.zo 10 rfl 0 _ rfl).1
  have q1':=(ho.zo 10 rfl 1 _ rfl).1
  obtain⟨e0,e1⟩:=ho.zo 0 rfl 9 _ rfl;have ho2:=ho.setAt 0 rfl 9 (.int .i64 1)
  have HO:=Qq ho;have HO2:=Qq ho2;clear ho ho2 hw4 HP HM HT HC c0 c1;by_cases hz:d.g=0
  ·have hz':((d.g:Int)==0)=true:=by simp[hz]
   have HF2:Hid (yH w0 ((w4.setCell ⟨b,off+d.g*2,none⟩ (.int .i64 4)).setCell ⟨p,9,none⟩ (.int .i64 1)) p T d W' [] R):=Qq (by rw[←HW.out];exact⟨D,ra,rc,⟨HF.out.f,HF.out.g,HF.out.c,HF.out.n,HF.out.l,HF.out.k⟩,by rw[if_pos hz];exact HO2.out⟩)
   clear HO HO2 hz;go_upto_region 4 with fail
   generalize w4.setCell ⟨b,off+d.g*2,none⟩ (.int .i64 4)=w5 at *
   go_wp2;go_end0
   exact⟨rfl,HF2.out⟩
  ·have hz':((d.g:Int)==0)=false:=by simp;omega
   have HF2:Hid (yH w0 (w4.setCell ⟨b,off+d.g*2,none⟩ (.int .i64 4)) p T d W' [] R):=Qq (by rw[←HW.out];exact⟨D,ra,rc,⟨HF.out.f,HF.out.g,HF.out.c,HF.out.n,HF.out.l,HF.out.k⟩,by rw[if_neg hz];exact HO.out⟩)
   clear HO HO2 hz;go_upto_region 4 with fail
   generalize w4.setCell ⟨b,off+d.g*2,none⟩ (.int .i64 4)=w5 at *
   go_wp2;go_end0
   exact⟨rfl,HF2.out⟩
 ·obtain⟨k,hk,hk8⟩:=yI (n:=8) (hi (by omega))
  obtain⟨n,hn⟩:∃n,(W.g d.g).n=n+2:=⟨(W.g d.g).n-2,by omega⟩
  have e:Y6 W [] d.g d.x=⟨W.ye d.g ⟨(W.g d.g).st,n+1,((W.g d.g).z.take ((n+1)*11)).set (n*11+2+k) ((W.g d.g).rg (a:Int))⟩,[],none⟩:=by
   unfold Y6;rw[if_neg (by omega),hA,hk,hn]
   rfl
  rw[e];have hk2:(W.g d.g).z[n*11+21]?=some (k:Int):=by
   unfold Gt.o at hk;rw[hn,List.getD_eq_getElem?_getD] at hk
   have hl:=hs.len;rw[hn] at hl;have hlt:n*11+21<(W.g d.g).z.length:=by omega
   rw[show(n+2-1)*11+10=n*11+21 by omega,List.getElem?_eq_getElem hlt] at hk
   rw[List.getElem?_eq_getElem hlt]
   simpa using hk
  rw[hn] at hs sl;have HC:Hid (∀k',Calls Tryz.prog 156 #[.slice (some ⟨s,0,none⟩) (n+2) cap,.int .i64 ((W.g d.g).rg (a:Int))] (w.drewN k') fun e w'=>∃g' cap',e=.returned (.tuple #[.slice (some ⟨g',0,none⟩) (n+1) cap',.bool true])∧Own w0 w' (Yp g' (n+1) cap' (((W.g d.g).z.take ((n+1)*11)).set (n*11+2+k) ((W.g d.g).rg (a:Int)))::(zh p W D T++(zf d.q (yn p (d.g:Int) d.x d.th d.dr d.go ra 0 rc)::zd 1 ra rc 0 (zr [])::R)))) :=
   Qq (fun k'=>(Q8 s n cap _ ((W.g d.g).rg (a:Int)) k (w.drewN k') (hs.below (zv w k')) (by omega) hk2 hk8).mono (fun r w' ⟨g',c',h1,h2,h3,h4⟩=>⟨g',c',h1,XX (h.step (zv w k')) h4 h3 h2⟩))
  have HN:=Qq (fun w g' c' h=>yH.LZ (w0:=w0) (w:=w) (T:=T) (R:=R) (rd:=[]) (s':=g') (cap':=c') (n':=n+1) (z':=((W.g d.g).z.take ((n+1)*11)).set (n*11+2+k) ((W.g d.g).rg (a:Int))) (p:=p) (ra:=ra) (rc:=rc) hf hg hm h)
  rw[←hmm] at hreg;generalize (W.g d.g).rg (a:Int)=v at *
  clear h hf F hA ha hm hs h1 e hmm hg hn hk hk2 hi;go_enter Tryz.func131,Tryz.ntmps131
  go_upto_region 0 with fail
  refine zi (fun wx=>∃nq,wx=World.drewN (w) nq) 16 6 (Array.replicate 22 false) (Qj 22 65535) (by kernel_rfl) (by kernel_rfl) ?_
  refine ze 0 1 _ (Qj 22 1) 15 (by kernel_rfl) za (zE w) (by kernel_rfl) ?_
  simp only[QX,QV,QJ];(repeat((first|refine Qx (h:=?_)|refine Qw (h:=?_));simp only[Act.put,QW,QY,QZ]));refine zb ?_;refine ze 5 1 _ (Qj 22 33) 14 (by kernel_rfl) za (zE w) (by kernel_rfl) ?_
  simp only[QX,QV,QQ,QJ];(repeat((first|refine Qx (h:=?_)|refine Qw (h:=?_));simp only[Act.put,QW,QY,QZ]));refine zb ?_;refine ze 7 5 _ (Qj 22 4001) 9 (by kernel_rfl) za (zE w) (by kernel_rfl) ?_
  simp only[QX,QV,QQ,QJ];(repeat((first|refine Qx (h:=?_)|refine Qw (h:=?_));simp only[Act.put,QW,QY,QZ]));refine zb ?_;refine zB 1 _ (Qj 22 4003) 8 (by kernel_rfl) (fun K hK=>?_)
  have HKK:=Qq hK;clear hK;simp only[QQ,QJ];refine zc (by rfl) ?_;go_simp;refine(HM 1).out.mono ?_
  rintro r w1 ⟨rfl,k1,rfl⟩;refine HKK.out _ _ ((by first|exact⟨_,rfl⟩|exact⟨_,World.drewN_drewN _ _ _⟩)) ?_
  clear HKK K;refine ze 2 3 _ (Qj 22 4031) 5 (by kernel_rfl) za ((by first|exact⟨_,rfl⟩|exact⟨_,World.drewN_drewN _ _ _⟩)) (by kernel_rfl) ?_
  simp only[QX,QV,QQ,QJ];(repeat((first|refine Qx (h:=?_)|refine Qw (h:=?_));simp only[Act.put,QW,QY,QZ]));refine zb ?_;refine zB 6 _ (Qj 22 4095) 4 (by kernel_rfl) (fun K hK=>?_)
  have HKK:=Qq hK;clear hK;simp only[QQ,QJ];refine zc (by rfl) ?_;go_simp;refine(HT _).out.mono ?_
  rintro r w2 ⟨rfl,k2,rfl⟩;refine HKK.out _ _ ((by first|exact⟨_,rfl⟩|exact⟨_,World.drewN_drewN _ _ _⟩)) ?_
  clear HKK K;refine ze 12 4 _ (Qj 22 65535) 0 (by kernel_rfl) za ((by first|exact⟨_,rfl⟩|exact⟨_,World.drewN_drewN _ _ _⟩)) (by kernel_rfl) ?_
  simp only[QX,QV,QQ,QJ];(repeat((first|refine Qx (h:=?_)|refine Qw (h:=?_));simp only[Act.put,QW,QY,QZ]));refine zb ?_;refine zm ?_;refine yz (fun _=>True) 6 0 (Qj 22 4194303) ?_
  refine zB 16 _ (Qj 22 131071) 5 (by kernel_rfl) (fun K hK=>?_)
  have HKK:=Qq hK;clear hK;simp only[QQ,QJ];refine zc (by rfl) ?_;go_simp;refine(HC.out _).mono ?_
  rintro r w3 ⟨g',c',rfl,h3⟩;obtain⟨b',off',m1,⟨v1,m2⟩,m3,m4⟩:=HN.out w3 g' c' h3;have HM':=Qq m1;have H4:=Qq m4;clear h3 m1 m4;refine HKK.out _ _ (trivial) ?_
  clear HKK K;refine ze 17 2 _ (Qj 22 524287) 3 (by kernel_rfl) za (trivial) (by kernel_rfl) ?_
  simp only[QX,QV,QQ,QJ];(repeat((first|refine Qx (h:=?_)|refine Qv (h:=?_));simp only[Act.put,QW,QY,QZ]));refine zb ?_;refine ze 20 1 _ (Qj 22 1572863) 2 (by kernel_rfl) za (trivial) (by kernel_rfl) ?_
  simp only[QX,QV,QQ,QJ];(repeat((first|refine Qx (h:=?_)|refine Qv (h:=?_));simp only[Act.put,QW,QY,QZ]));refine zb ?_;refine ze 19 1 _ (Qj 22 2097151) 1 (by kernel_rfl) za (trivial) (by kernel_rfl) ?_
  simp only[QX,QV,QQ,QJ];(repeat((first|refine Qx (h:=?_)|refine Qv (h:=?_));simp only[Act.put,QW,QY,QZ]));refine zb ?_;refine ze 21 1 _ (Qj 22 4194303) 0 (by kernel_rfl) za (trivial) (by kernel_rfl) ?_
  simp only[QX,QV,QQ,QJ];(repeat((first|refine Qx (h:=?_)|refine Qv (h:=?_));simp only[Act.put,QW,QY,QZ]));refine zb ?_;refine zm ?_;refine zD (by kernel_rfl) (NoPanic.normal ?_)
  clear HC HT HM HN;go_wp2_with fail;refine HM'.out.mono ?_
  rintro r w4 ⟨rfl,j,hw4⟩;have HF:=Qq (H4.out w4 j hw4)
  have m2':w4.cell? ⟨b',off'+d.g*2+1,none⟩=some v1:=by rw[hw4];exact m2
  have m3':w4.frozen? ⟨b',off'+d.g*2+1,none⟩=false:=by rw[hw4];exact m3
  clear H4 HM' hw4 m2 m3;go_wp2;go_end0
  exact⟨rfl,HF.out⟩
theorem UE (fn arg:Int)(w:World):Calls Tryz.prog 63 #[.int .i64 fn,.int .i64 arg] w fun e w'=>∃g,e=.returned (.agg #[.int .i64 1,.slice (some ⟨g,0,none⟩) 1 1])∧w.heap.size≤g∧zR w' g 1 1 (ZM fn arg 0)∧Below w.heap.size w w':=by
 have hb:=Qq (fun w=>OX fn arg w)
 go_enter Tryz.func63,Tryz.ntmps63
 go_wp2_with fail;refine(hb.out _).mono ?_
 rintro r w1 ⟨g,rfl,h1,h2,h3⟩;obtain⟨x0,y0⟩:=(zF.mk w [.int .i64 0,.slice none 0 0] 159 w.heap.size rfl).below h3 0 _ rfl
 obtain⟨x1,y1⟩:=(zF.mk w [.int .i64 0,.slice none 0 0] 159 w.heap.size rfl).below h3 1 _ rfl
 have hlt:=World.block_lt_of_cell? w1 _ x0
 have hgs:w.heap.size<g:=by have:=h1;simp at this;omega
 have hB:=zA (below_alloc1 w (.cells #[.int .i64 0,.slice none 0 0] 159)) h3
 have HS:=Qq h2;have HB:=Qq hB;clear h1 h2 h3 hB hb;obtain⟨b,hbe⟩:∃b,b=w.heap.size:=⟨_,rfl⟩
 rw[←hbe] at x0 y0 x1 y1 hlt hgs;have HFin:Hid (zR ((w1.setCell ⟨b,0,none⟩ (.int .i64 1)).setCell ⟨b,1,none⟩ (.slice (some ⟨g,0,none⟩) 1 1)) g 1 1 (ZM fn arg 0)∧Below w.heap.size w ((w1.setCell ⟨b,0,none⟩ (.int .i64 1)).setCell ⟨b,1,none⟩ (.slice (some ⟨g,0,none⟩) 1 1))):=Qq
  ⟨(HS.out.yC ((zI.refl (F:=[b]) _).setCell _ (.inl (by simp))) (by simp;omega)).yC ((zI.refl (F:=[b]) _).setCell _ (.inl (by simp))) (by simp;omega),(HB.out.setCell (by simp[hbe]) _).setCell (by simp[hbe]) _⟩
 have HBE:=Qq hbe;have hgb:=HBE.out;generalize hsz:w.heap.size=sz at *
 have HSZ:=Qq hsz;clear hsz;subst hgb;clear HS HB hbe HBE;go_wp2;refine bodyPost_ret (v:=.agg #[.int .i64 1,.slice (some ⟨g,0,none⟩) 1 1]) (by simp[results,Tryz.results63,go_sem,x0,x1,hlt]) rfl ⟨g,rfl,by have:=HSZ.out;omega,?_,?_⟩
 ·exact HFin.out.1
 ·rw[HSZ.out];exact HFin.out.2
theorem E7:(Tryz.prog.info? 159).map (fun i=>(i.zero,i.size,i.bytes))=some (some (.agg #[.int .i64 0,.slice none 0 0]),2,32):=by kernel_rfl
theorem Lg (sk:List (Nat×Nat))(gs:List Gt)(s:Nat×Nat)(G:Gt)(h:sk.length=gs.length):YE (sk++[s]) (gs++[G])=YE sk gs++[.int .i64 G.st,.slice (some ⟨s.1,0,none⟩) G.n s.2]:=by
 unfold YE;rw[List.zip_append h];simp
theorem NM (sk:List (Nat×Nat))(gs:List Gt)(s:Nat×Nat)(G:Gt)(h:sk.length=gs.length):YZ (sk++[s]) (gs++[G])=YZ sk gs++[Yp s.1 G.n s.2 G.z]:=by
 unfold YZ;rw[List.zipWith_append h];rfl
theorem Wd.QI (W:Wd)(i:Nat)(s:Int)(h:(W.g i).st=s)(hi:i<W.gs.length):W.zQ i s=W:=by
 unfold Wd.zQ Wd.ye;have:({ W.g i with st:=s }:Gt)=W.g i:=by rw[←h]
 rw[this,yt _ _ _ (Wd.WS hi)]
theorem Nm {w0 w:World}{p:Nat}{W:Wd}{D:Wa}{T:List Value}{Y:List zy}{g' n:Nat}{a9:Option Addr}{c9:Nat}{z:List Int}(hf:D.fits W)(hn:n=W.gs.length)
  (h:Own w0 w ((((zh p W D T++Y)++[Yp g' 1 1 z]).set 2 (zd 2 a9 c9 (n+1) (YE D.sk W.gs++[.int .i64 1,.slice (some ⟨g',0,none⟩) 1 1]))).set 0 (zf p ((yD W D++T).set 2 (.slice a9 (n+1) c9))))) :
  Own w0 w (zh p { W with gs:=W.gs++[⟨1,1,z⟩] } { D with aa:=a9,ac:=c9,sk:=D.sk++[(g',1)] } T++Y)∧({ D with aa:=a9,ac:=c9,sk:=D.sk++[(g',1)] }:Wa).fits { W with gs:=W.gs++[⟨1,1,z⟩] }:=by
 refine⟨?_,⟨hf.f,by simp[hf.g],hf.c,hf.n,hf.l,hf.k⟩⟩
 have h1:Own w0 w ((((zh p W D T++Y).set 2 (zd 2 a9 c9 (n+1) (YE D.sk W.gs++[.int .i64 1,.slice (some ⟨g',0,none⟩) 1 1]))).set 0 (zf p ((yD W D++T).set 2 (.slice a9 (n+1) c9))))++[Yp g' 1 1 z]):=h
 have h2:=h1.perm (List.perm_append_singleton _ _)
 have h3:=((h2.pick 4 rfl).pick 1 rfl).UF
 have h4:=h3.back (i:=3) (As:=(((zh p W D T++Y).set 2 (zd 2 a9 c9 (n+1) (YE D.sk W.gs++[.int .i64 1,.slice (some ⟨g',0,none⟩) 1 1]))).set 0 (zf p ((yD W D++T).set 2 (.slice a9 (n+1) c9))))) (by simp[zh])
 have e1:(W.gs++[(⟨1,1,z⟩:Gt)]).length=n+1:=by rw[List.length_append,←hn];rfl
 simp only[zh,yD,Lg _ _ _ _ hf.g,NM _ _ _ _ hf.g,e1];exact h4
theorem Qc {w0 w:World}{p:Nat}{T:List Value}{d:Dq}{W:Wd}{R:List zy}(h:yH w0 w p T d W [] R)(hg:d.g<W.gs.length)(hm:1≤(W.g d.g).n∧(W.g d.g).n≤16)(ha:0≤d.x.2.2.1∧d.x.2.2.1<8)(hc:0≤d.x.2.2.2∧d.x.2.2.2<8)(hgs:W.gs.length≤100) :
  Calls Tryz.prog 132 #[.pointer (some ⟨d.q,0,none⟩)] w fun r w'=>ZY w0 p T d R (ZK W [] d.g d.x) r w':=by
 obtain⟨D,ra,rc,hf,h⟩:=h;obtain⟨a,hA,ha8⟩:=yI (n:=8) ha
 obtain⟨c,hC,hc8⟩:=yI (n:=8) hc
 obtain⟨b,off,s,cap,F⟩:=ZI hf h hg hm;have q0:=F.top.d0;have q3:=(h.zo 10 rfl 3 _ rfl).1
 have q4:=(h.zo 10 rfl 4 _ rfl).1
 have p2:=(h.zo 0 rfl 2 _ rfl).1
 rw[hA] at q4;by_cases hl:100≤W.gs.length
 ·have e:ZK W [] d.g d.x=⟨W,[],some (-5)⟩:=by unfold ZK;rw[if_pos hl]
  rw[e];have hd:decide ((100:Int)≤(W.gs.length:Int))=true:=by simpa using (by omega:(100:Int)≤(W.gs.length:Int))
  have H:=Qq (show yH w0 w p T d W [] R from⟨D,ra,rc,hf,h⟩)
  clear F h hg;generalize W.gs.length=n at *;clear hf q3 q4 hl e;go_enter Tryz.func132,Tryz.ntmps132
  go_wp2;exact⟨rfl,rfl,H.out⟩
 ·have e:ZK W [] d.g d.x=⟨({ W with gs:=W.gs++[⟨1,1,ZM d.x.2.1 ((W.g d.g).rg (a:Int)) 0⟩] }:Wd).put d.g (c:Int) (W.gs.length:Int),[(W.gs.length:Int)],none⟩:=by unfold ZK;rw[if_neg hl,hA,hC];rfl
  rw[e];have hd:decide ((100:Int)≤(W.gs.length:Int))=false:=by simpa using (by omega:¬(100:Int)≤(W.gs.length:Int))
  generalize hv:(W.g d.g).rg (a:Int)=v
  have hreg:=(ZV F.stk hm.1 a ha8).1
  rw[hv] at hreg;have a0:(0:Int)≤(a:Int):=by omega
  have a8:(a:Int)<8:=by omega
  have SCB:∀(wx:World) (A2:zy) (Y:List zy),Own w0 wx ((zh p W D T++(zf d.q (yn p (d.g:Int) d.x d.th d.dr d.go ra 0 rc)::zd 1 ra rc 0 (zr [])::R)).set 2 A2++Y) →
    wx.cell? ⟨d.q,0,none⟩=some (.pointer (some ⟨p,0,none⟩))∧wx.cell? ⟨p,2,none⟩=some (.slice D.aa W.gs.length D.ac)∧wx.cell? ⟨d.q,3,none⟩=some (.int .i64 d.x.2.1)∧wx.cell? ⟨d.q,4,none⟩=some (.int .i64 (a:Int))∧wx.cell? ⟨s,((W.g d.g).n-1)*11+2+a,none⟩=some (.int .i64 v):=by
   intro wx A2 Y ho;obtain⟨Fx,⟨_,hk⟩,-⟩:=(ho.pick 3 rfl).WG (Yl F.sk (Wd.WS hg))
   have h4:=(ho.zo 10 rfl 4 _ rfl).1
   rw[hA] at h4;have hr:=(ZV hk hm.1 a ha8).1
   rw[hv] at hr;exact⟨(ho.zo 10 rfl 0 _ rfl).1,(ho.zo 0 rfl 2 _ rfl).1,(ho.zo 10 rfl 3 _ rfl).1,h4,hr⟩
  have Z8:=Xo (F.top.drewN 1)
  have H:=Qq h;have HF:=Qq hf;obtain⟨i0,hi0,hz0,hz1,hz2⟩:=info_parts E7;have Hi:=Qq hi0;clear hi0
  have Hz0:=Qq hz0;clear hz0
  have Hz1:=Qq hz1;clear hz1
  have Hz2:=Qq hz2;clear hz2
  have HL:=Qq (show W.gs.length≤100 from hgs)
  have HG:=Qq hg;have HM:=Qq hm;have HC:=Qq hC;obtain⟨n,hn⟩:∃n,n=W.gs.length:=⟨_,rfl⟩
  rw[←hn] at SCB hd p2 HL;obtain⟨m,hmm⟩:∃m,m=(W.g d.g).n-1:=⟨_,rfl⟩
  rw[←hmm] at SCB hreg Z8;have HT:=Qq Z8;have HN:=Qq hn;have h0:=H.out;rw[←hn];clear hl e F hf hA hv ha hm Z8 hmm h hn hg hgs hc hC;go_enter Tryz.func132,Tryz.ntmps132
  go_upto_region 3 with fail
  have o1:=h0.step (zg w)
  refine xg (fun wx=>wx.cell? ⟨d.q,0,none⟩=some (.pointer (some ⟨p,0,none⟩))∧wx.cell? ⟨p,2,none⟩=some (.slice D.aa n D.ac)∧wx.cell? ⟨d.q,3,none⟩=some (.int .i64 d.x.2.1)∧wx.cell? ⟨d.q,4,none⟩=some (.int .i64 (a:Int))∧wx.cell? ⟨s,m*11+2+a,none⟩=some (.int .i64 v)) 32 33 (Array.replicate 33 false) (by kernel_rfl) (by kernel_rfl) ?_
  have SC0:=Qq (fun wx (ho:Own w0 wx (zh p W D T++(zf d.q (yn p (d.g:Int) d.x d.th d.dr d.go ra 0 rc)::zd 1 ra rc 0 (zr [])::R)))=>SCB wx (zd 2 D.aa D.ac W.gs.length (YE D.sk W.gs)) [] (by rw[List.append_nil];exact ho))
  refine yw 0 17 _ (Qj 33 131071) 16 (by kernel_rfl) za (SC0.out _ o1) (by kernel_rfl) ?_
  simp only[QX,QV,QJ];(repeat((first|refine Qx (h:=?_)|refine Qv (h:=?_));simp only[Act.put,QW,QY,QZ]));refine zb ?_;refine yw 18 5 _ (Qj 33 8257535) 11 (by kernel_rfl) za (SC0.out _ o1) (by kernel_rfl) ?_
  simp only[QX,QV,QQ,QJ];(repeat((first|refine Qx (h:=?_)|refine Qv (h:=?_));simp only[Act.put,QW,QY,QZ]));refine zb ?_;refine yk 17 _ (Qj 33 8388607) 10 (by kernel_rfl) (fun K hK=>?_)
  have HKK:=Qq hK;clear hK;simp only[QQ,QJ];refine zc (by rfl) ?_;go_simp;refine HT.out.mono ?_
  rintro r w1 ⟨rfl,k1,hw1⟩;have o2:=h0.q2 hw1;clear hw1;refine HKK.out _ _ (SC0.out _ o2) ?_
  clear HKK K;refine yw 23 4 _ (Qj 33 134217727) 6 (by kernel_rfl) za (SC0.out _ o2) (by kernel_rfl) ?_
  simp only[QX,QV,QQ,QJ];(repeat((first|refine Qx (h:=?_)|refine Qv (h:=?_));simp only[Act.put,QW,QY,QZ]));refine zb ?_;refine yk 27 _ (Qj 33 268435455) 5 (by kernel_rfl) (fun K hK=>?_)
  have HKK:=Qq hK;clear hK;simp only[QQ,QJ];refine zc (by rfl) ?_;go_simp;refine(UE _ _ _).mono ?_
  rintro r w2 ⟨g',rfl,hg',hs',hb'⟩;have o3:=(XX o2 hb' hs' hg').Bc
  refine HKK.out _ _ (SCB _ (zd 2 D.aa D.ac W.gs.length (YE D.sk W.gs)) _ o3) ?_
  clear HKK K;refine yk 28 _ (Qj 33 536870911) 4 (by kernel_rfl) (fun K hK=>?_)
  have HKK:=Qq hK;clear hK;simp only[QQ,QJ];refine zc (by rfl) ?_;go_simp;have o4:=o3.step (below_alloc1 _ (.cells #[.int .i64 1,.slice (some ⟨g',0,none⟩) 1 1] 159))
  refine HKK.out _ _ (SCB _ (zd 2 D.aa D.ac W.gs.length (YE D.sk W.gs)) _ o4) ?_
  clear HKK K;refine yk 29 _ (Qj 33 1073741823) 3 (by kernel_rfl) (fun K hK=>?_)
  have HKK:=Qq hK;clear hK;simp only[QQ,QJ];refine zc (by rfl) ?_;have hrow:=o4.yZ 2 rfl;rw[←HN.out] at hrow;refine yP (n:=n) (m:=1) (cs:=YE D.sk W.gs) (ds:=[.int .i64 1,.slice (some ⟨g',0,none⟩) 1 1]) _ _ 108 (by rfl) 159 i0 _ Tryz.underlying108 Hi.out Hz0.out Hz1.out Hz2.out rfl (by omega) (by omega) (by rfl) (by rfl) hrow (zt.new _ [.int .i64 1,.slice (some ⟨g',0,none⟩) 1 1] _ rfl) rfl (by simp[Value.oneCell']) (by have:=HL.out;omega) ?_
  intro a9 c9 w9 k9 ch9 f9;have o5:=(Own.xj (o4.pick 2 rfl) k9 ch9 f9).back (i:=2) (As:=zh p W D T++(zf d.q (yn p (d.g:Int) d.x d.th d.dr d.go ra 0 rc)::zd 1 ra rc 0 (zr [])::R)++[Yp g' 1 1 (ZM d.x.2.1 v 0)]) (by simp[zh])
  refine HKK.out _ _ (SCB _ _ _ o5) ?_
  clear HKK K;refine xF 30 1 _ (Qj 33 2147483647) 2 (by kernel_rfl) za (by kernel_rfl) ?_
  simp only[QX,QV,QQ,QJ];(repeat((first|refine Qx (h:=?_)|refine Qv (h:=?_));simp only[Act.put,QW,QY,QZ]));refine zb ?_;refine yw 31 1 _ (Qj 33 4294967295) 1 (by kernel_rfl) za (SCB _ _ _ o5) (by kernel_rfl) ?_
  simp only[QX,QV,QQ,QJ];(repeat((first|refine Qx (h:=?_)|refine Qv (h:=?_));simp only[Act.put,QW,QY,QZ]));refine zb ?_;obtain⟨z8,f8⟩:=o5.zo 0 rfl 2 _ rfl;obtain⟨o6,hf6⟩:=Nm HF.out HN.out (o5.setAt 0 rfl 2 (.slice a9 (n+1) c9))
  have H6:=Qq o6;have HF6:=Qq hf6;clear o1 o2 o3 o4 o5 o6 hf6 k9 ch9 f9 hrow SCB SC0 HT H HF hs' hb' hg' h0 hreg;refine xH 32 _ (Qj 33 8589934591) 0 (by kernel_rfl) (fun K hK=>?_)
  have HKK:=Qq hK;clear hK;simp only[QQ,QJ];refine zc (by rfl) ?_;go_simp;refine HKK.out _ _ ?_
  clear HKK K;refine xG (by kernel_rfl) (NoPanic.normal ?_) _
  generalize w9.setCell ⟨p,2,none⟩ (.slice a9 (n+1) c9)=w5 at *
  generalize hW5:({ W with gs:=W.gs++[⟨1,1,ZM d.x.2.1 v 0⟩] }:Wd)=W5 at *
  have hg5:d.g<W5.gs.length:=by rw[←hW5];simp;have:=HG.out;omega
  have hl5:W5.gs.length=n+1:=by rw[←hW5,HN.out];simp
  have hm5:1≤(W5.g d.g).n∧(W5.g d.g).n≤16:=by
   have:W5.g d.g=W.g d.g:=by rw[←hW5];unfold Wd.g;rw[List.getD_eq_getElem?_getD,List.getD_eq_getElem?_getD,List.getElem?_append_left HG.out]
   rw[this];exact HM.out
  have hst5:(W5.g n).st=1∧n<W5.gs.length:=by
   rw[←hW5,HN.out];refine⟨?_,by simp⟩
   unfold Wd.g;rw[List.getD_eq_getElem?_getD,List.getElem?_append_right (Nat.le_refl _)]
   simp
  obtain⟨b,off,s,cap,F⟩:=ZI HF6.out H6.out hg5 hm5;have q0:=F.top.d0;have q5:=(H6.out.zo 10 rfl 5 _ rfl).1
  rw[HC.out] at q5;obtain⟨m,hmm⟩:∃m,m=(W5.g d.g).n-1:=⟨_,rfl⟩
  have hreg:=ZV F.stk hm5.1 c hc8;have HT:=Qq (F.Z8 hmm 1)
  have HP:Hid (∀w1 k,w1=(w5.drewN 1).drewN k→yH w0 (w1.setCell ⟨s,m*11+2+c,none⟩ (.int .i64 (n:Int))) p T d (W5.put d.g (c:Int) (n:Int)) [] R):=Qq (fun w1 k e=>by
   rw[hmm];exact⟨_,ra,rc,HF6.out.ye _ _,VE (H6.out.q2 e) hg5 F.sk c (n:Int)⟩)
  rw[←hmm] at hreg;have c0:(0:Int)≤(c:Int):=by omega
  have c8:(c:Int)<8:=by omega
  obtain⟨r0,r1⟩:=hreg;have hgp:n<(W5.put d.g (c:Int) (n:Int)).gs.length:=by unfold Wd.put Wd.ye;rw[List.length_set];exact hst5.2
  have hgl:(W5.put d.g (c:Int) (n:Int)).gs.length≤1000:=by unfold Wd.put Wd.ye;rw[List.length_set,hl5];have:=HL.out;omega
  have hsame:(W5.put d.g (c:Int) (n:Int)).zQ n 1=W5.put d.g (c:Int) (n:Int):=by
   refine Wd.QI _ _ _ ?_ hgp
   unfold Wd.put;rw[Wd.Yt _ _ _ _ hg5];by_cases e:d.g=n
   ·rw[if_pos e];unfold Gt.put;simp only;rw[e];exact hst5.1
   ·rw[if_neg e];exact hst5.1
  have HWk:Hid (∀w',yH w0 w' p T d (W5.put d.g (c:Int) (n:Int)) [] R→Calls Tryz.prog 157 #[.pointer (some ⟨d.q,0,none⟩),.int .i64 (n:Int)] w' fun r w''=>r=.returned (.tuple #[])∧yH w0 w'' p T d (W5.put d.g (c:Int) (n:Int)) [(n:Int)] R) :=
   Qq (fun w' h'=>(WQ (rd:=[]) h' n hgp hgl (by simp)).mono (fun r w'' hh=>⟨hh.1,by have:=hh.2;rw[hsame] at this;exact this⟩))
  generalize hW6:W5.put d.g (c:Int) (n:Int)=W6 at *
  have HW5:=Qq hW5;have HW6:=Qq hW6;clear F hmm H6 HF6 HG HM HC HN hst5 hm5 hl5 hg5 hW5 hgp hgl hsame hW6;go_upto_region 4 with fail
  refine zi (fun wx=>∃nq,wx=World.drewN (w5) nq) 11 1 (Array.replicate 12 false) (Qj 12 2047) (by kernel_rfl) (by kernel_rfl) ?_
  refine ze 0 1 _ (Qj 12 1) 10 (by kernel_rfl) za (zE w5) (by kernel_rfl) ?_
  simp only[QX,QV,QJ];(repeat((first|refine Qx (h:=?_)|refine Qw (h:=?_));simp only[Act.put,QW,QY,QZ]));refine zb ?_;refine ze 2 6 _ (Qj 12 253) 4 (by kernel_rfl) za (zE w5) (by kernel_rfl) ?_
  simp only[QX,QV,QQ,QJ];(repeat((first|refine Qx (h:=?_)|refine Qw (h:=?_));simp only[Act.put,QW,QY,QZ]));refine zb ?_;refine zB 1 _ (Qj 12 255) 3 (by kernel_rfl) (fun K hK=>?_)
  have HKK:=Qq hK;clear hK;simp only[QQ,QJ];refine zc (by rfl) ?_;go_simp;refine HT.out.mono ?_
  rintro r w1 ⟨rfl,k1,hw1⟩;refine HKK.out _ _ (VX hw1) ?_
  clear HKK K;refine ze 8 3 _ (Qj 12 2047) 0 (by kernel_rfl) za (VX hw1) (by kernel_rfl) ?_
  simp only[QX,QV,QQ,QJ];(repeat((first|refine Qx (h:=?_)|refine Qw (h:=?_));simp only[Act.put,QW,QY,QZ]));refine zb ?_;refine zm ?_;refine zP 11 (by kernel_rfl) ?_
  simp only[QQ,QJ];have H7:=Qq (HP.out _ _ hw1)
  have s0:w1.cell? ⟨s,m*11+2+c,none⟩=some (.int .i64 ((W5.g d.g).rg (c:Int))):=by rw[hw1];exact r0
  have s1:w1.frozen? ⟨s,m*11+2+c,none⟩=false:=by rw[hw1];exact r1
  clear hw1 HP HT r0 r1;go_wp2_with fail;refine NoPanic.normal ?_
  go_wp2_with fail;refine(HWk.out _ H7.out).mono ?_
  rintro r w7 ⟨rfl,h7⟩;have H8:=Qq h7;clear h7 H7 HWk;go_wp2;go_end0
  exact⟨rfl,by simp only[HW5.out,HW6.out];exact H8.out⟩
theorem Tp {w0 w:World}{p:Nat}{T:List Value}{d:Dq}{W:Wd}{R:List zy}(h:yH w0 w p T d W [] R)(hg:d.g<W.gs.length)(hm:1≤(W.g d.g).n∧(W.g d.g).n≤16)(ok:Tm W [] d.g d.x 0)(okw:Vb W d.x) :
  Calls Tryz.prog 134 #[.pointer (some ⟨d.q,0,none⟩)] w fun r w'=>ZY w0 p T d R (xW W [] d.g d.x) r w':=by
 have HT:=Qq (SH h hg hm 0 ok (by simp))
 have HW:=Qq (fun w (h:yH w0 w p T d W [] R)=>To h hg hm okw)
 unfold xW;generalize Zw W [] d.g d.x 0=o at *
 clear h ok okw hg hm;go_enter Tryz.func134,Tryz.ntmps134
 go_wp2_with fail;refine HT.out.mono ?_
 intro r w4 hp;unfold VQ at hp;cases o with
 | none =>
  obtain⟨rfl,h2⟩:=hp;have HC:=Qq (HW.out _ h2)
  clear h2 HT HW;go_wp2_with fail;refine HC.out.mono ?_
  rintro r w5 ⟨rfl,h5⟩;have H5:=Qq h5;clear h5 HC;go_wp2;go_end0
  exact⟨rfl,H5.out⟩
 | some m =>
  obtain⟨Wm,rm,tm⟩:=m;cases tm with
  | none =>
   obtain⟨rfl,h2⟩:=hp;have H2:=Qq h2;clear h2 HT HW;go_wp2;go_end0
   exact⟨rfl,H2.out⟩
  | some k =>
   obtain⟨rfl,h2⟩:=hp;have H2:=Qq h2;clear h2 HT HW;unfold Wz;go_wp2;exact⟨rfl,rfl,H2.out⟩
structure Ug (W:Wd) (g:Nat) (x:zS) (dr:Int) (go:Bool):Prop where
 ix:R9 W x
 k:W.ks.length≤1000
 t:go=true→Tm W [] g x dr
 w:go=false→Vb W x
 r:0≤x.2.2.2∧x.2.2.2<8
theorem SJ {w0 w:World}{p:Nat}{T:List Value}{d:Dq}{W:Wd}{R:List zy}(h:yH w0 w p T d W [] R)(hg:d.g<W.gs.length)(hm:1≤(W.g d.g).n∧(W.g d.g).n≤16)(ok:Ug W d.g d.x d.dr d.go) :
  Calls Tryz.prog 136 #[.pointer (some ⟨d.q,0,none⟩)] w fun r w'=>ZY w0 p T d R (Zv W [] d.g d.x d.dr d.go) r w':=by
 have H:=Qq h;obtain⟨hx,hk,ht,hw,hr⟩:=ok;obtain⟨D,ra,rc,hf,h⟩:=h;have q0:=(h.zo 10 rfl 0 _ rfl).1
 have q7:=(h.zo 10 rfl 7 _ rfl).1
 have q8:=(h.zo 10 rfl 8 _ rfl).1
 unfold Zv;cases hgo:d.go with
 | true =>
  have HT:=Qq (SH H.out hg hm d.dr (ht hgo) (by simp))
  rw[hgo] at q8;rw[if_pos rfl];generalize Zw W [] d.g d.x d.dr=o at *
  clear h ht hw hg hm hgo hf hx hk hr H;go_enter Tryz.func136,Tryz.ntmps136
  go_wp2_with fail;refine HT.out.mono ?_
  intro r w4 hp;unfold VQ at hp;cases o with
  | none =>
   obtain⟨rfl,h2⟩:=hp;have H2:=Qq h2;clear h2 HT;go_wp2;exact bodyPost_ret (v:=.tuple #[]) (by simp[results,Tryz.results136]) rfl ⟨rfl,H2.out⟩
  | some m =>
   obtain⟨Wm,rm,tm⟩:=m;cases tm with
   | none =>
    obtain⟨rfl,h2⟩:=hp;have H2:=Qq h2;clear h2 HT;go_wp2;exact bodyPost_ret (v:=.tuple #[]) (by simp[results,Tryz.results136]) rfl ⟨rfl,H2.out⟩
   | some k =>
    obtain⟨rfl,h2⟩:=hp;have H2:=Qq h2;clear h2 HT;unfold Wz;go_wp2;exact⟨rfl,rfl,H2.out⟩
 | false =>
  rw[hgo] at q8;rw[if_neg (by simp)]
  generalize hrr:(if UO 0 (W.yA d.x)<0 then(Dd.mk (Ww W d.g d.x) [] none) else Dd.mk (W.put d.g d.x.2.2.2 (UO 0 (W.yA d.x))) [] none)=rr
  have HRR:=Qq hrr;clear hrr;have HW:=Qq (fun w (h:yH w0 w p T d W [] R)=>To h hg hm (hw hgo))
  have hc:=(h.zo 10 rfl)
  have q2:=(hc 2 _ rfl).1
  have q3:=(hc 3 _ rfl).1
  have q4:=(hc 4 _ rfl).1
  have q5:=(hc 5 _ rfl).1
  have HCa:=Qq (fun j=>Z0 (h.step (zv w j)) hf d.x hx hk)
  obtain⟨c,hC,hc8⟩:=yI (n:=8) hr
  have HD:Hid (∀(w':World) Z,Own w0 w' (Z::(zh p W D T++(zf d.q (yn p (d.g:Int) d.x d.th d.dr d.go ra 0 rc)::zd 1 ra rc 0 (zr [])::R)))→yH w0 w' p T d W [] R):=Qq (fun w' Z h'=>⟨D,ra,rc,hf,h'.drop⟩)
  obtain⟨m,hmm⟩:∃m,m=(W.g d.g).n-1:=⟨_,rfl⟩
  obtain⟨s,cap,hs⟩:=hf.Yn hg;have HPut:Hid (∀(w':World),Own w0 w' (zh p W D T++(zf d.q (yn p (d.g:Int) d.x d.th d.dr d.go ra 0 rc)::zd 1 ra rc 0 (zr [])::R))→∀v:Int,
    w'.cell? ⟨d.q,0,none⟩=some (.pointer (some ⟨p,0,none⟩))∧w'.cell? ⟨d.q,5,none⟩=some (.int .i64 (c:Int)) ∧
    (∀j,Calls Tryz.prog 118 #[.pointer (some ⟨d.q,0,none⟩)] (w'.drewN j) fun r w''=>r=.returned (.pointer (some ⟨s,m*11,none⟩))∧∃k,w''=(w'.drewN j).drewN k) ∧
    (∃v0,w'.cell? ⟨s,m*11+2+c,none⟩=some v0)∧w'.frozen? ⟨s,m*11+2+c,none⟩=false∧∀w'' j,w''=w'.drewN j→yH w0 (w''.setCell ⟨s,m*11+2+c,none⟩ (.int .i64 v)) p T d (W.put d.g d.x.2.2.2 v) [] R):=Qq (fun w' h' v=>by
   have q5:=(h'.zo 10 rfl 5 _ rfl).1
   rw[hC] at q5;obtain⟨r0,r1⟩:=ZV (YT h' hg hs).1 hm.1 c hc8
   refine⟨(h'.zo 10 rfl 0 _ rfl).1,q5,fun j=>?_,⟨_,by rw[hmm];exact r0⟩,by rw[hmm];exact r1,fun w'' j e=>?_⟩
   ·rw[hmm];exact VG (h'.step (zv w' j)) ((h'.step (zv w' j)).zo 10 rfl) hg hs hm
   ·rw[hmm,hC]
    exact⟨D,ra,rc,hf.ye _ _,VE (h'.q1 e) hg hs c v⟩)
  clear h ht hw hg hm hgo hf hx hk hr hc hmm hs hC;go_enter Tryz.func136,Tryz.ntmps136
  obtain⟨e1,he1⟩:∃e1,e1=(if UO 0 (W.yA d.x)<0 then 0 else UO 0 (W.yA d.x)):=⟨_,rfl⟩
  obtain⟨b1,hb1⟩:∃b1,b1=(!decide (UO 0 (W.yA d.x)<0)):=⟨_,rfl⟩
  have HE1:=Qq he1;have HB1:=Qq hb1;clear he1 hb1;go_upto_region 2 with fail
  refine zi (fun wx=>∃nq,wx=World.drewN (w) nq) 8 7 (Array.replicate 15 false) (Qj 15 255) (by kernel_rfl) (by kernel_rfl) ?_
  refine ze 0 8 _ (Qj 15 255) 0 (by kernel_rfl) za (zE w) (by kernel_rfl) ?_
  simp only[QX,QV,QJ];(repeat((first|refine Qx (h:=?_)|refine Qw (h:=?_));simp only[Act.put,QW,QY,QZ]));refine zb ?_;refine zm ?_;refine yz (fun _=>True) 7 0 (Qj 15 32767) ?_
  refine zB 8 _ (Qj 15 511) 6 (by kernel_rfl) (fun K hK=>?_)
  have HKK:=Qq hK;clear hK;simp only[QQ,QJ];refine zc (by rfl) ?_;go_simp;refine(HCa.out 1).mono ?_
  rintro r w3 ⟨a,ca,Z,rfl,hP,hl,o3,-⟩
  have hcell:=hP.cells o3 2 0 rfl rfl;refine HKK.out _ _ (trivial) ?_
  clear HKK K;refine zB 9 _ (Qj 15 1023) 5 (by kernel_rfl) (fun K hK=>?_)
  have HKK:=Qq hK;clear hK;simp only[QQ,QJ];refine zc (by rfl) ?_;go_simp;have hels:=Qq (KQ w3 a (W.yA d.x).length ca (W.yA d.x) hcell rfl (by omega))
  clear hcell;rw[←HE1.out,←HB1.out] at hels;refine hels.out.mono ?_
  rintro r w4 ⟨rfl,b4⟩;have o4:=(o3.drop).step b4
  refine HKK.out _ _ (trivial) ?_
  clear HKK K;refine ze 10 5 _ (Qj 15 32767) 0 (by kernel_rfl) za (trivial) (by kernel_rfl) ?_
  simp only[QX,QV,QQ,QJ];(repeat((first|refine Qx (h:=?_)|refine Qv (h:=?_));simp only[Act.put,QW,QY,QZ]));refine zb ?_;refine zm ?_;refine zD (by kernel_rfl) (NoPanic.normal ?_)
  clear hP hl o3 b4 HCa hels;have HD4:=Qq (show yH w0 w4 p T d W [] R from HD.out w4 Cp (o4.add (Below.refl _ _) (F:=[]) rfl (fun x hx=>by simp at hx)))
  by_cases hel:UO 0 (W.yA d.x)<0
  ·have hb:b1=false:=by rw[HB1.out];simp[hel]
   subst hb;have HEL:=Qq hel;have HC:=Qq (HW.out w4 HD4.out)
   clear hel HW HPut o4 HD;go_wp2_with fail;refine HC.out.mono ?_
   rintro r w5 ⟨rfl,h5⟩;have H5:=Qq h5;clear h5 HC;go_wp2;go_end0
   have er:rr=Dd.mk (Ww W d.g d.x) [] none:=by rw[←HRR.out,if_pos HEL.out]
   rw[er];exact⟨rfl,H5.out⟩
  ·have hb:b1=true:=by rw[HB1.out];simp[hel]
   subst hb;have HEL:=Qq hel;obtain⟨p0,p5,ptop,⟨v0,r0⟩,r1,pfin⟩:=HPut.out w4 o4 (UO 0 (W.yA d.x))
   have HTp:=Qq ptop;have HFn:=Qq pfin;have e2:UO 0 (W.yA d.x)=e1:=by rw[HE1.out,if_neg hel]
   rw[e2] at HFn;have E2:=Qq e2;have c0:(0:Int)≤(c:Int):=by omega
   have c8:(c:Int)<8:=by omega
   clear hel HW HPut o4 HD ptop pfin e2;go_upto_region 4 with fail
   refine zi (fun wx=>∃nq,wx=World.drewN (w4) nq) 11 1 (Array.replicate 12 false) (Qj 12 2047) (by kernel_rfl) (by kernel_rfl) ?_
   refine ze 0 1 _ (Qj 12 1) 10 (by kernel_rfl) za (zE w4) (by kernel_rfl) ?_
   simp only[QX,QV,QJ];(repeat((first|refine Qx (h:=?_)|refine Qw (h:=?_));simp only[Act.put,QW,QY,QZ]));refine zb ?_;refine ze 2 6 _ (Qj 12 253) 4 (by kernel_rfl) za (zE w4) (by kernel_rfl) ?_
   simp only[QX,QV,QQ,QJ];(repeat((first|refine Qx (h:=?_)|refine Qw (h:=?_));simp only[Act.put,QW,QY,QZ]));refine zb ?_;refine zB 1 _ (Qj 12 255) 3 (by kernel_rfl) (fun K hK=>?_)
   have HKK:=Qq hK;clear hK;simp only[QQ,QJ];refine zc (by rfl) ?_;go_simp;refine(HTp.out 1).mono ?_
   rintro r w5 ⟨rfl,k5,hw5⟩;refine HKK.out _ _ (VX hw5) ?_
   clear HKK K;refine ze 8 3 _ (Qj 12 2047) 0 (by kernel_rfl) za (VX hw5) (by kernel_rfl) ?_
   simp only[QX,QV,QQ,QJ];(repeat((first|refine Qx (h:=?_)|refine Qw (h:=?_));simp only[Act.put,QW,QY,QZ]));refine zb ?_;refine zm ?_;refine zP 11 (by kernel_rfl) ?_
   simp only[QQ,QJ];obtain⟨j5,hw6⟩:=VX hw5;have H6:=Qq (HFn.out w5 j5 hw6)
   have s0:w5.cell? ⟨s,m*11+2+c,none⟩=some v0:=by rw[hw6];exact r0
   have s1:w5.frozen? ⟨s,m*11+2+c,none⟩=false:=by rw[hw6];exact r1
   clear hw5 hw6 HFn HTp r0 r1;go_wp2_with fail;refine NoPanic.normal ?_
   go_wp2;refine bodyPost_ret (v:=.tuple #[]) (by simp[results,Tryz.results136]) rfl ?_
   have er:rr=Dd.mk (W.put d.g d.x.2.2.2 e1) [] none:=by rw[←HRR.out,if_neg (by have:=HEL.out;omega),E2.out]
   rw[er];exact⟨rfl,H6.out⟩
end Go.Proofs.YtlkjheheofgdgaaGreat
