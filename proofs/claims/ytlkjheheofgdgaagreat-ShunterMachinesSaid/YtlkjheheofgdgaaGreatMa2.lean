/-
  Texts put together: WCh4, WCh5, WCh6, WCh7, WCh8, PkF, CodeF, HeapF, WHp1, WHp2, WHp3, WHp4, WHp5, WFr1, WFr2, WLk1, WLk2, WWld1, WPk1, WPk3, WdM, SdM, WdA, WdTop, WdB, SegZ.
-/
import Derived.Test.YtlkjheheofgdgaaGreatMa1
import Init.Data.List.Perm
import Init.Omega
import Derived.Test.YtlkjheheofgdgaaGreatRows
import Derived.Deep.QuietTactic
import Derived.BigQuiet
import Derived.WalkSmall
import Derived.Deep.DeepCutAuto
import Derived.RegionTactic
import Derived.Deep.RegionHeld3
import Derived.Deep.RegionWith
import Derived.Deep.RegionLaw
import Derived.Deep.AppendLies
import Derived.MapKept
import Derived.WideMake
import Derived.Deep.RegionLawGrows
import Derived.StillTailTactics
import Derived.Deep.WholeRow
import Derived.Laws.EntriesVeiled
set_option maxRecDepth 100000
set_option maxHeartbeats 16000000
set_option linter.unusedSimpArgs false
set_option linter.unusedVariables false
open Go Go.RowKit
namespace Go.Proofs.YtlkjheheofgdgaaGreat
theorem Nr {w0 w:World}{R:List zy}{p N:Nat}{C:Ch}(h:Own w0 w (yv p N C::R))(hb:C.buf.length≤100000)(hs:C.S.length≤100000) :
  Calls Tryz.prog 180 #[.pointer (some ⟨p,0,none⟩)] w fun r w'=>r=.returned (.tuple #[TO (mRecv C).2.1.1 (mRecv C).2.1.2.1 (mRecv C).2.1.2.2.1 (mRecv C).2.1.2.2.2,.int .i64 (mRecv C).2.2])∧Own w0 w' (yv p N (mRecv C).1::R):=by
 obtain⟨buf,S,Rv,cl⟩:=C;simp only at hb hs
 cases S with
 | cons x t =>
  cases hbv:buf++[x.2.2] with
  | nil=>simp at hbv
  | cons y b =>
   have e:mRecv ⟨buf,x::t,Rv,cl⟩=(⟨b,t,Rv,cl⟩,(y,true,x,true),0):=by simp only[mRecv,hbv]
   rw[e];exact Pz h hbv hb (by simp at hs;omega)
 | nil =>
  cases buf with
  | nil=>exact QC h
  | cons y b=>exact Nn h (by simp at hb;omega)
theorem RQ {w0 w:World}{R:List zy}{p N:Nat}{buf:List Int}{S Rv:List Wt}(h:Own w0 w (yv p N ⟨buf,S,Rv,true⟩::R)) :
  Calls Tryz.prog 160 #[.pointer (some ⟨p,0,none⟩)] w fun r w'=>r=.returned (.tuple #[.slice none 0 0,.slice none 0 0,.int .i64 10])∧w=w':=by
 obtain⟨ba,bc,sa,sc,ra,rc,h1⟩:=h.chan;obtain⟨g4,-⟩:=h1.zo 0 rfl 4 _ rfl;simp only at g4
 clear h h1;go_enter Tryz.func160,Tryz.ntmps160
 go_wp2;refine bodyPost_ret (v:=.tuple #[.slice none 0 0,.slice none 0 0,.int .i64 10]) (by simp[results,Tryz.results160,go_sem]) rfl ⟨rfl,rfl⟩
theorem QG {w0 w:World}{R:List zy}{p N:Nat}{buf:List Int}{S Rv:List Wt}(h:Own w0 w (yv p N ⟨buf,S,Rv,false⟩::R)) :
  Calls Tryz.prog 160 #[.pointer (some ⟨p,0,none⟩)] w fun r w'=>∃ra rc sa sc,r=.returned (.tuple #[.slice ra Rv.length rc,.slice sa S.length sc,.int .i64 0]) ∧
   Own w0 w' (yv p N ⟨buf,[],[],true⟩::zd 3 ra rc Rv.length (xe Rv)::zd 3 sa sc S.length (xe S)::R):=by
 obtain⟨ba,bc,sa,sc,ra,rc,h1⟩:=h.chan;obtain⟨g2,f2⟩:=h1.zo 0 rfl 2 _ rfl;obtain⟨g3,f3⟩:=h1.zo 0 rfl 3 _ rfl;obtain⟨g4,f4⟩:=h1.zo 0 rfl 4 _ rfl;simp only at g2 g3 g4
 have hf:∀wf,zI [] (((w.setCell ⟨p,3,none⟩ (.slice none 0 0)).setCell ⟨p,2,none⟩ (.slice none 0 0)).setCell ⟨p,4,none⟩ (.bool true)) wf→Own w0 wf (yv p N ⟨buf,[],[],true⟩::zd 3 ra rc Rv.length (xe Rv)::zd 3 sa sc S.length (xe S)::R):=fun wf cf=>by
  have h2:=((h1.setAt 0 rfl 3 (.slice none 0 0)).setAt 0 rfl 2 (.slice none 0 0)).setAt 0 rfl 4 (.bool true)
  have h3:=h2.step cf.YB;have h4:=(h3.add (Below.refl _ _) (A:=zd 3 none 0 0 (xe [])) (F:=[]) ⟨rfl,zU.nil _ _⟩ (fun x hx=>by simp at hx)).add (Below.refl _ _) (A:=zd 3 none 0 0 (xe [])) (F:=[]) ⟨rfl,zU.nil _ _⟩ (fun x hx=>by simp at hx)
  have h5:Own w0 wf (zd 3 none 0 0 (xe [])::zd 3 none 0 0 (xe [])::zf p (yK N ⟨buf,[],[],true⟩ ba bc none 0 none 0)::zd 1 ba bc buf.length (zr buf)::zd 3 sa sc S.length (xe S)::zd 3 ra rc Rv.length (xe Rv)::R):=h4
  have h6:=(((((h5.pick 4 rfl).pick 5 rfl).pick 2 rfl).pick 3 rfl).pick 5 rfl).pick 5 rfl
  exact Own.Zi h6
 have HF:=Qq hf;clear h h1 hf;go_enter Tryz.func160,Tryz.ntmps160
 go_wp2_with fail;go_quiet (fail)
 go_wp2;refine bodyPost_ret (v:=.tuple #[.slice ra Rv.length rc,.slice sa S.length sc,.int .i64 0]) (by simp[results,Tryz.results160,go_sem]) rfl ⟨ra,rc,sa,sc,rfl,HF.out _ ?_⟩
 exact zI.drewN (zI.refl [] _) nq
theorem QA {w0 w:World}{R:List zy}{p N:Nat}{buf:List Int}{S Rv:List Wt}{cl:Bool}(h:Own w0 w (yv p N ⟨buf,S,Rv,cl⟩::R))(x:Wt)(hl:S.length≤100000) :
  Calls Tryz.prog 182 #[.pointer (some ⟨p,0,none⟩),wv x] w fun r w'=>r=.returned (.tuple #[])∧Own w0 w' (yv p N ⟨buf,S++[x],Rv,cl⟩::R):=by
 obtain⟨ba,bc,sa,sc,ra,rc,h1⟩:=h.chan;obtain⟨n,hn⟩:∃n,n=S.length:=⟨_,rfl⟩
 obtain⟨x1,x2,x3⟩:=x;have hA:=h1.alloc [.int .i64 x1,.int .i64 x2,.int .i64 x3] 270 (b:=w.heap.size) rfl
 have hpl:p<w.heap.size:=World.block_lt_of_cell? w _ (h1.zo 0 rfl 0 _ rfl).1
 obtain⟨p1,q1⟩:=hA.zo 1 rfl 2 _ rfl;simp only at p1
 rw[←hn] at p1 hl;have HN:=Qq hn;obtain⟨z0,-⟩:=hA.zo 0 rfl 0 _ rfl;obtain⟨z1,-⟩:=hA.zo 0 rfl 1 _ rfl;obtain⟨z2,-⟩:=hA.zo 0 rfl 2 _ rfl;have hrow:=hA.yZ 3 rfl;simp only at hrow
 rw[←hn] at hrow;have HR:=Qq hrow;have H5:=Qq hA;clear hn h h1 hA hrow;unfold wv;simp only
 obtain⟨i0,hi0,hz0,hz1,hz2⟩:=info_parts T1;have Hi:=Qq hi0;clear hi0
 have Hz0:=Qq hz0;clear hz0
 have Hz1:=Qq hz1;clear hz1
 have Hz2:=Qq hz2;clear hz2
 go_enter Tryz.func182,Tryz.ntmps182
 go_upto_region 1 with fail
 obtain⟨s0,hs0⟩:∃s0,s0=w.heap.size:=⟨_,rfl⟩
 rw[←hs0] at z0 z1 z2 H5 ⊢;have hps:p≠s0:=by omega
 clear hs0 hpl;generalize w.alloc (.cells #[.int .i64 x1,.int .i64 x2,.int .i64 x3] 270)=W at *
 have hpl3:=World.block_lt_of_cell? W _ p1
 have hsl3:=World.block_lt_of_cell? W _ z0
 go_wp2_with fail;go_region_law (first
  | (refine ZH (m:=1) (ds:=xe [(x1,x2,x3)]) (by rfl) _ _ 191 (by rfl) 270 i0 _ Tryz.underlying191 Hi.out Hz0.out Hz1.out Hz2.out rfl (by omega) (by omega) (by rfl) (by rfl) (HR.out.below (by repeat(first|exact Below.refl _ _|refine Below.drew ?_|refine Below.alloc ?_ (by simp) _))) (by first|exact zt.new _ (xe [(x1,x2,x3)]) _ rfl|exact(zt.new _ (xe [(x1,x2,x3)]) _ rfl).below (zg _)) rfl (Ox _) (by omega) ?_;intro a1 c1 w4 k1 ch1 f1
     have h6:=Own.Uw ch1 k1 (fun x hx=>by have:=f1 x hx;simpa using this) ((H5.out.step (by repeat(first|exact Below.refl _ _|refine Below.drew ?_|refine Below.alloc ?_ (by simp) _))).pick 3 rfl)
     obtain⟨p1',q1'⟩:=h6.zo 2 rfl 2 _ rfl))
 all_goals
  have hE:Own w0 (w4.setCell ⟨p,2,none⟩ (.slice a1 (n+1) c1)) (yv p N ⟨buf,S++[(x1,x2,x3)],Rv,cl⟩::R):=by
   have e:(S++[(x1,x2,x3)]).length=n+1:=by rw[HN.out];simp
   have e2:xe (S++[(x1,x2,x3)])=xe S++xe [(x1,x2,x3)]:=OL _ _
   have h7:Own w0 (w4.setCell ⟨p,2,none⟩ (.slice a1 (n+1) c1)) (zd 3 a1 c1 (S++[(x1,x2,x3)]).length (xe (S++[(x1,x2,x3)]))::zf s0 [.int .i64 x1,.int .i64 x2,.int .i64 x3]::zf p (yK N ⟨buf,S++[(x1,x2,x3)],Rv,cl⟩ ba bc a1 c1 ra rc)::zd 1 ba bc buf.length (zr buf)::zd 3 ra rc Rv.length (xe Rv)::R):=by
    simp only[yK];rw[e,e2];exact h6.setAt 2 rfl 2 (.slice a1 (n+1) c1)
   have h8:=(h7.pick 1 rfl).drop
   exact Own.Zi ((((h8.pick 3 rfl).pick 1 rfl).pick 3 rfl).pick 3 rfl)
  have HE:=Qq hE;clear hE h6 k1 ch1 f1 p1 q1 z0 z1 z2 H5;go_wp2;go_end0
  exact⟨rfl,HE.out⟩
theorem Ql {w0 w:World}{R:List zy}{p N:Nat}{buf:List Int}{S Rv:List Wt}{cl:Bool}(h:Own w0 w (yv p N ⟨buf,S,Rv,cl⟩::R))(x:Wt)(hl:Rv.length≤100000) :
  Calls Tryz.prog 181 #[.pointer (some ⟨p,0,none⟩),wv x] w fun r w'=>r=.returned (.tuple #[])∧Own w0 w' (yv p N ⟨buf,S,Rv++[x],cl⟩::R):=by
 obtain⟨ba,bc,sa,sc,ra,rc,h1⟩:=h.chan;obtain⟨n,hn⟩:∃n,n=Rv.length:=⟨_,rfl⟩
 obtain⟨x1,x2,x3⟩:=x;have hA:=h1.alloc [.int .i64 x1,.int .i64 x2,.int .i64 x3] 270 (b:=w.heap.size) rfl
 have hpl:p<w.heap.size:=World.block_lt_of_cell? w _ (h1.zo 0 rfl 0 _ rfl).1
 obtain⟨p1,q1⟩:=hA.zo 1 rfl 3 _ rfl;simp only at p1
 rw[←hn] at p1 hl;have HN:=Qq hn;obtain⟨z0,-⟩:=hA.zo 0 rfl 0 _ rfl;obtain⟨z1,-⟩:=hA.zo 0 rfl 1 _ rfl;obtain⟨z2,-⟩:=hA.zo 0 rfl 2 _ rfl;have hrow:=hA.yZ 4 rfl;simp only at hrow
 rw[←hn] at hrow;have HR:=Qq hrow;have H5:=Qq hA;clear hn h h1 hA hrow;unfold wv;simp only
 obtain⟨i0,hi0,hz0,hz1,hz2⟩:=info_parts T1;have Hi:=Qq hi0;clear hi0
 have Hz0:=Qq hz0;clear hz0
 have Hz1:=Qq hz1;clear hz1
 have Hz2:=Qq hz2;clear hz2
 go_enter Tryz.func181,Tryz.ntmps181
 go_upto_region 1 with fail
 obtain⟨s0,hs0⟩:∃s0,s0=w.heap.size:=⟨_,rfl⟩
 rw[←hs0] at z0 z1 z2 H5 ⊢;have hps:p≠s0:=by omega
 clear hs0 hpl;generalize w.alloc (.cells #[.int .i64 x1,.int .i64 x2,.int .i64 x3] 270)=W at *
 have hpl3:=World.block_lt_of_cell? W _ p1
 have hsl3:=World.block_lt_of_cell? W _ z0
 go_wp2_with fail;go_region_law (first
  | (refine ZH (m:=1) (ds:=xe [(x1,x2,x3)]) (by rfl) _ _ 191 (by rfl) 270 i0 _ Tryz.underlying191 Hi.out Hz0.out Hz1.out Hz2.out rfl (by omega) (by omega) (by rfl) (by rfl) (HR.out.below (by repeat(first|exact Below.refl _ _|refine Below.drew ?_|refine Below.alloc ?_ (by simp) _))) (by first|exact zt.new _ (xe [(x1,x2,x3)]) _ rfl|exact(zt.new _ (xe [(x1,x2,x3)]) _ rfl).below (zg _)) rfl (Ox _) (by omega) ?_;intro a1 c1 w4 k1 ch1 f1
     have h6:=Own.Uw ch1 k1 (fun x hx=>by have:=f1 x hx;simpa using this) ((H5.out.step (by repeat(first|exact Below.refl _ _|refine Below.drew ?_|refine Below.alloc ?_ (by simp) _))).pick 4 rfl)
     obtain⟨p1',q1'⟩:=h6.zo 2 rfl 3 _ rfl))
 all_goals
  have hE:Own w0 (w4.setCell ⟨p,3,none⟩ (.slice a1 (n+1) c1)) (yv p N ⟨buf,S,Rv++[(x1,x2,x3)],cl⟩::R):=by
   have e:(Rv++[(x1,x2,x3)]).length=n+1:=by rw[HN.out];simp
   have e2:xe (Rv++[(x1,x2,x3)])=xe Rv++xe [(x1,x2,x3)]:=OL _ _
   have h7:Own w0 (w4.setCell ⟨p,3,none⟩ (.slice a1 (n+1) c1)) (zd 3 a1 c1 (Rv++[(x1,x2,x3)]).length (xe (Rv++[(x1,x2,x3)]))::zf s0 [.int .i64 x1,.int .i64 x2,.int .i64 x3]::zf p (yK N ⟨buf,S,Rv++[(x1,x2,x3)],cl⟩ ba bc sa sc a1 c1)::zd 1 ba bc buf.length (zr buf)::zd 3 sa sc S.length (xe S)::R):=by
    simp only[yK];rw[e,e2];exact h6.setAt 2 rfl 3 (.slice a1 (n+1) c1)
   have h8:=(h7.pick 1 rfl).drop
   exact Own.Zi ((((h8.pick 3 rfl).pick 3 rfl).pick 3 rfl))
  have HE:=Qq hE;clear hE h6 k1 ch1 f1 p1 q1 z0 z1 z2 H5;go_wp2;go_end0
  exact⟨rfl,HE.out⟩
theorem S4 {w:World}{s cap n:Nat}{cs:List Value}(hs:0<s)(h:zU s w none cap n cs):cap=0∧n=0∧cs=[]:=by
 obtain⟨h1,h2,h3,h4⟩:=h;rcases h4 with⟨_,h0⟩|⟨_,_,h,_⟩
 ·have hn:n=0:=by omega
  subst hn;exact⟨h0,rfl,List.length_eq_zero_iff.1 (by simpa using h1)⟩
 ·cases h
theorem Qo (w:World)(a:Option Addr)(n c:Nat)(cs:List Value)(h:zU 1 w a c n cs)(hone:∀u∈cs,u.oneCell'=true)(hl:n≤1000000) :
  Calls Tryz.prog 43 #[.slice a n c] w fun r w'=>∃a' c',r=.returned (.slice a' n c')∧zU 1 w' a' c' n cs∧(∀x∈yf a',w.heap.size≤x)∧Below w.heap.size w w':=by
 cases a with
 | none =>
  obtain⟨rfl,rfl,rfl⟩:=S4 (by omega) h
  clear h hone;have he:∀w:World,(binOp .eql 39 (.slice none 0 0) (.slice none 0 0)).run Tryz.prog w=.ok (.bool true) w:=fun _=>rfl
  go_enter Tryz.func43,Tryz.ntmps43
  go_wp2;go_ret;exact⟨none,0,rfl,zU.nil _ _,fun x hx=>by simp[yf] at hx,Below.refl _ _⟩
 | some ad =>
  obtain⟨i0,hi0,hz0,hz1,hz2⟩:=info_parts WA;have Hi:=Qq hi0;clear hi0
  have Hz0:=Qq hz0;clear hz0
  have Hz1:=Qq hz1;clear hz1
  have Hz2:=Qq hz2;clear hz2
  have H:=Qq h;have HO:=Qq hone;clear h hone;have he:∀w:World,(binOp .eql 39 (.slice (some ad) n c) (.slice none 0 0)).run Tryz.prog w=.ok (.bool false) w:=fun _=>rfl
  go_enter Tryz.func43,Tryz.ntmps43
  go_wp2_with (at_builtin;refine yr (m:=n) (n:=0) (cs:=[]) (ds:=cs) rfl _ _ 39 rfl 2 i0 _ Tryz.underlying39 Hi.out Hz0.out Hz1.out Hz2.out rfl (by omega) (by omega) rfl rfl (zU.zero (by simp)) ((H.out.below (below_alloc1 _ _)).cells) H.out.1 HO.out (by omega) ?_)
  intro a1 c1 w1 k1 ch1 f1;have hf:zU 1 w1 a1 c1 n cs∧(∀x∈yf a1,w.heap.size≤x)∧Below w.heap.size w w1:=by
   refine⟨by simpa using k1,fun x hx=>?_,zI.below (below_alloc1 _ _) ch1 (fun x hx=>by simp[yf] at hx;omega)⟩
   rcases f1 x hx with h|h
   ·simp[yf] at h;omega
   ·first|omega|(simp at h;omega)
  have HF:=Qq hf;clear hf k1 ch1 f1;go_wp2;go_ret;exact⟨a1,c1,by simp,HF.out⟩
def Pj (N:Nat)(C:Ch):Bool:=C.cl||(decide (0<C.R.length)||decide (C.buf.length<N))
def SE (C:Ch):Bool:=C.cl||(decide (0<C.S.length)||decide (0<C.buf.length))
theorem Ny {w0 w:World}{R:List zy}{p N:Nat}{C:Ch}(h:Own w0 w (yv p N C::R)) :
  Calls Tryz.prog 145 #[.pointer (some ⟨p,0,none⟩)] w fun r w'=>r=.returned (.bool (Pj N C))∧∃m,w'=w.drewN m:=by
 have hh:=RO h;have HH:=Qq hh;obtain⟨ba,bc,sa,sc,ra,rc,h1⟩:=h.chan;obtain⟨g3,-⟩:=h1.zo 0 rfl 3 _ rfl;obtain⟨g4,-⟩:=h1.zo 0 rfl 4 _ rfl;obtain⟨buf,S,Rv,cl⟩:=C;simp only[yK] at g3 g4;clear h h1 hh;cases cl with
 | true =>
  unfold Pj;simp only[Bool.true_or];go_enter Tryz.func145,Tryz.ntmps145
  go_wp2;go_ret;exact⟨rfl,0,rfl⟩
 | false =>
  cases Rv with
  | cons x t =>
   unfold Pj;simp only[Bool.false_or,List.length_cons,Nat.zero_lt_succ,decide_true,Bool.true_or] at g3 ⊢
   have hp:0<t.length+1:=by omega
   go_enter Tryz.func145,Tryz.ntmps145
   go_wp2;go_ret;exact⟨rfl,0,rfl⟩
  | nil =>
   unfold Pj;simp only[Bool.false_or,List.length_nil,Nat.lt_irrefl,decide_false] at g3 HH ⊢
   generalize decide (buf.length<N)=bb at *
   go_enter Tryz.func145,Tryz.ntmps145
   go_wp2_with fail;refine HH.out.mono ?_
   rintro r w1 ⟨rfl,m,rfl⟩;go_wp2;go_ret;exact⟨rfl,m,rfl⟩
theorem OU {w0 w:World}{R:List zy}{p N:Nat}{C:Ch}(h:Own w0 w (yv p N C::R)) :
  Calls Tryz.prog 144 #[.pointer (some ⟨p,0,none⟩)] w fun r w'=>r=.returned (.bool (SE C))∧w=w':=by
 obtain⟨ba,bc,sa,sc,ra,rc,h1⟩:=h.chan;obtain⟨g1,-⟩:=h1.zo 0 rfl 1 _ rfl;obtain⟨g2,-⟩:=h1.zo 0 rfl 2 _ rfl;obtain⟨g4,-⟩:=h1.zo 0 rfl 4 _ rfl;obtain⟨buf,S,Rv,cl⟩:=C;simp only[yK] at g1 g2 g4;clear h h1;cases cl with
 | true =>
  unfold SE;simp only[Bool.true_or];go_enter Tryz.func144,Tryz.ntmps144
  go_wp2;go_ret;exact⟨rfl,rfl⟩
 | false =>
  cases S with
  | cons x t =>
   unfold SE;simp only[Bool.false_or,List.length_cons,Nat.zero_lt_succ,decide_true,Bool.true_or] at g2 ⊢
   have hp:0<t.length+1:=by omega
   go_enter Tryz.func144,Tryz.ntmps144
   go_wp2;go_ret;exact⟨rfl,rfl⟩
  | nil =>
   cases buf with
   | cons y b =>
    unfold SE;simp only[Bool.false_or,List.length_nil,List.length_cons,Nat.zero_lt_succ,decide_true,Nat.lt_irrefl,decide_false] at g1 g2 ⊢
    have hp:0<b.length+1:=by omega
    go_enter Tryz.func144,Tryz.ntmps144
    go_wp2;go_ret;exact⟨rfl,rfl⟩
   | nil =>
    unfold SE;simp only[Bool.false_or,List.length_nil,Nat.lt_irrefl,decide_false] at g1 g2 ⊢
    go_enter Tryz.func144,Tryz.ntmps144
    go_wp2;go_ret;exact⟨rfl,rfl⟩
def yL (g:Int)(l:List Wt):List Wt:=l.filter fun x=>!(x.1==g)
theorem XN (g:Int)(l:List Wt)(x:Wt):yL g (l++[x])=if x.1=g then yL g l else yL g l++[x]:=by
 unfold yL;rw[List.filter_append];by_cases h:x.1=g<;>simp[h]
theorem Tz (g:Int)(l:List Wt):(yL g l).length≤l.length:=List.length_filter_le _ _
theorem UB (g:Int)(l:List Wt)(h:∀j (hj:j<l.length),l[j].1≠g):yL g l=l:=by
 unfold yL;rw[List.filter_eq_self];intro x hx;obtain⟨j,hj,rfl⟩:=List.getElem_of_mem hx;simpa using h j hj
theorem Xb (l:List Wt)(k:Nat)(h:k<l.length):l.take (k+1)=l.take k++[l[k]]:=by rw[List.take_add_one,List.getElem?_eq_getElem h];rfl
theorem G8 (l:List Wt):∀(i:Nat) (x:Wt),i<l.length→(((xe l).set (i*3) (.int .i64 x.1)).set (i*3+1) (.int .i64 x.2.1)).set (i*3+2) (.int .i64 x.2.2)=xe (l.set i x):=by
 induction l with
 | nil=>intro i y h;simp at h
 | cons x l ih =>
  intro i y h;cases i with
  | zero=>rfl
  | succ i =>
   have:=ih i y (by simpa using h)
   rw[Yc,QZ,Yc,show(i+1)*3=i*3+1+1+1 by omega]
   simp only[QZ];rw[this]
theorem UP {P:Program}{w:World}{ops:Array Oper}{rest:List Oper}{o:Oper}{ac:Act}{Q:Exit→Act→World→Prop}(hgd:o.guard=none)(x:Operand)(t:TypeId)
  (ho:o.op=.call { callee:=.builtin .clear,args:=#[x],argTypes:=#[t] }) {v:Value} {w':World} (hx:ac.eval x=v) (hr:(Builtin.clear_ #[t] o.type #[v]).run P w=.ok (.tuple #[]) w')
  (h:wpList P ops Q rest (ac.put o.dst (.tuple #[])) w'):wpList P ops Q (o::rest) ac w:=by
 refine wpList_plain hgd fun K hK=>?_
 unfold Oper.wp execOp;simp only[ho,resolve,invoke,builtin,Sem.run_bind,Sem.run_pure,Result.andThen_ok,List.map_toArray,List.map_cons,List.map_nil,hx,hr];exact hK _ _ h
theorem S6 (x:Wt)(q:Nat)(g:Int)(w:World)(hq:w.cell? ⟨q,0,none⟩=some (.int .i64 g)) :
  Calls Tryz.prog 187 #[wv x,.pointer (some ⟨q,0,none⟩)] w fun r w'=>r=.returned (.bool (x.1==g))∧Below w.heap.size w w':=by
 obtain⟨x1,x2,x3⟩:=x;unfold wv;simp only
 have hql:=World.block_lt_of_cell? w _ hq
 go_enter Tryz.func187,Tryz.ntmps187
 go_wp2;go_ret;exact⟨rfl,below_alloc1 _ _⟩
def Dg (l:List Wt)(g:Int)(w:World)(r:Ending)(w':World):Prop:=Below w.heap.size w w'∧((∃i,∃h:i<l.length,r=.returned (.int .i64 (i:Int))∧l[i].1=g∧∀j (hj:j<i),(l[j]'(by omega)).1≠g)∨(r=.returned (.int .i64 (-1))∧∀j (hj:j<l.length),l[j].1≠g))
def DQ (q:Nat):Value:=.func (.func 187) #[] #[.pointer (some ⟨q,0,none⟩)]
theorem Na (w:World)(a:Option Addr)(n c:Nat)(l:List Wt)(q:Nat)(g:Int)(h:zt w a (xe l))(hn:n=l.length)(hl:n≤100000)(hq:w.cell? ⟨q,0,none⟩=some (.int .i64 g)) :
  Calls Tryz.prog 189 #[.slice a n c,DQ q] w fun r w'=>Dg l g w r w':=by
 have H:=Qq h;have HN:=Qq hn;have HQ:=Qq hq;clear h hn hq;unfold DQ;go_enter Tryz.func189,Tryz.ntmps189
 go_wp2_with fail;go_loopw [8] (fun s wr=>∃i:Nat,i≤n∧s=.int .i64 i∧Hid (Below w.heap.size w wr∧∀j (hj:j<i) (hj2:j<l.length),l[j].1≠g)) (fun s _=>n-(intOf s).toNat)
 case atStart=>exact⟨0,by omega,rfl,Qq ⟨Below.refl _ _,fun j hj=>by omega⟩⟩
 case round =>
  obtain⟨i,hi,rfl,hr⟩:=hrel;by_cases hlt:i<n
  ·have hil:i<l.length:=by have:=HN.out;omega
   obtain⟨b,off,rfl,e1,e2,e3⟩:=(H.out.below hr.out.1).wt i hil
   have hp:=S6 l[i] q g wr (zj HQ.out hr.out.1)
   have HP:=Qq hp;have hli:(i:Int)<(n:Int):=by omega
   have HI:Hid (l[i]'hil=l[i]'hil):=Qq rfl
   clear hp;obtain⟨y,hy⟩:∃y,y=l[i]'hil:=⟨_,rfl⟩
   rw[←hy] at e1 e2 e3 HP;have HY:=Qq hy;clear hy HI;obtain⟨y1,y2,y3⟩:=y;unfold wv at HP;simp only at e1 e2 e3 HP
   by_cases hyg:y1=g
   ·have hb:(y1==g)=true:=by rw[beq_iff_eq];exact hyg
    rw[hb] at HP;have HF:Hid (∀w',Below wr.heap.size wr w'→Dg l g w (.returned (.int .i64 (i:Int))) w'):=Qq fun w' hb=>⟨zA hr.out.1 hb,.inl ⟨i,hil,rfl,by rw[←HY.out];exact hyg,fun j hj=>hr.out.2 j hj (by omega)⟩⟩
    clear hb hyg hr;go_wp2_with fail;refine HP.out.mono ?_
    rintro r w3 ⟨rfl,b3⟩;have HZ:=Qq (HF.out _ b3)
    clear b3;go_wp2;go_ret;exact HZ.out
   ·have hb:(y1==g)=false:=by rw[beq_eq_false_iff_ne];exact hyg
    rw[hb] at HP;have HF:Hid (∀w',Below wr.heap.size wr w'→Below w.heap.size w w'∧∀j (hj:j<i+1) (hj2:j<l.length),l[j].1≠g):=Qq fun w' hb=>⟨zA hr.out.1 hb,fun j hj hj2=>by
     by_cases e:j=i
     ·subst e;rw[←HY.out];exact hyg
     ·exact hr.out.2 j (by omega) hj2⟩
    clear hb hyg hr;go_wp2_with fail;refine HP.out.mono ?_
    rintro r w3 ⟨rfl,b3⟩;have HZ:=Qq (HF.out _ b3)
    clear b3;go_wp2;exact⟨⟨i+1,by omega,by go_num,HZ⟩,by simp[intOf];omega⟩
  ·have hge:¬(i:Int)<(n:Int):=by omega
   have HF:Hid (Dg l g w (.returned (.int .i64 (-1))) wr):=Qq ⟨hr.out.1,.inr ⟨rfl,fun j hj=>hr.out.2 j (by have:=HN.out;omega) hj⟩⟩
   clear hr;go_wp2;go_ret;exact HF.out
theorem UM {z:Value}(h1:∀u∈z.cells.toList,u.oneCell'=true)(n:Nat):∀u∈(Builtin.zeroCells z.cells n).toList,u.oneCell'=true:=fun u hu=>by
 unfold Builtin.zeroCells at hu;rw[Array.mem_toList_iff,Array.mem_map] at hu;obtain⟨i,hi,rfl⟩:=hu;have hp:0<z.cells.size:=by
  rw[Array.mem_range] at hi;rcases Nat.eq_zero_or_pos z.cells.size with e|e
  ·rw[e] at hi;omega
  ·exact e
 have hlt2:=Nat.mod_lt i hp;rw[getElem!_pos z.cells _ hlt2]
 exact h1 _ (Array.mem_toList_iff.2 (Array.getElem_mem hlt2))
theorem Q0 {P:Program}{t:TypeId}{s:Nat}(z:Value)(ht:P.underlying t=some (.slice (P.elem t)))(hs:∀w,(sizeOf (P.elem t)).run P w=.ok s w)(hv:∀w,(zeroValue (P.elem t)).run P w=.ok z w)(hzs:z.cells.size=s)(h1:∀u∈z.cells.toList,u.oneCell'=true)
  {w:World} {a:Option Addr} {cap n:Nat} {cs:List Value} (h:zU s w a cap n cs) (m:Nat) (hm:m≤n) :
  ∃a',(∀w,(Instr.slice t (.slice a n cap) (some (.int .i64 (m:Int))) none none).run P w=.ok (.slice a' (n-m) (cap-m)) w) ∧
   ∃w',(∀ty c,(Builtin.clear_ #[t] ty #[.slice a' (n-m) c]).run P w=.ok (.tuple #[]) w')∧zU s w' a cap m (cs.take (m*s))∧zI (yf a) w w':=by
 obtain⟨a',hsl,hrow,hbl⟩:=Xh ht hs h m hm;refine⟨a',hsl,?_⟩
 have hnm:∀k,k=0→(∀ty c,(Builtin.clear_ #[t] ty #[.slice a' k c]).run P w=.ok (.tuple #[]) w):=fun k hk ty c=>by
  subst hk;cases a'<;>simp[Builtin.clear_,run_underlying ht]
 rcases Nat.eq_zero_or_pos (n-m) with h0|hpos
 ·exact⟨w,hnm _ h0,h.take m hm,zI.refl _ _⟩
 ·have hh:=h
  obtain⟨k1,k2,k3,k4⟩:=h;rcases k4 with⟨rfl,hc⟩|⟨b,off,rfl,hlt,h5,h6⟩
  ·omega
  ·have hne:¬cap=m:=by omega
   have ha':a'=some ⟨b,off+m*s,none⟩:=by
    have e1:=hsl w;rw[run_slice_l (P:=P) (t:=t) (ht:=ht) (kl:=.i64) (l:=(m:Int)) (h0:=by omega) (h1:=by omega),hs] at e1
    by_cases hm0:m=0
    ·subst hm0
     simp[Result.andThen,sliced,hne,Addr.add] at e1
     rw[←e1];simp
    ·simp[Result.andThen,sliced,hne,Addr.add] at e1
     rw[e1.symm];by_cases hz:m*s=0
     ·rw[if_pos hz,hz];rfl
     ·rw[if_neg hz]
   subst ha';have hlen:(Builtin.zeroCells z.cells (n-m)).toList.length=(n-m)*s:=by rw[Array.length_toList,size_zeroCells,hzs]
   have hcm:cap*s=m*s+(n-m)*s+(cap-n)*s:=by rw[←Nat.add_mul,←Nat.add_mul];congr 1;omega
   have hms:n*s=m*s+(n-m)*s:=by rw[←Nat.add_mul];congr 1;omega
   have hst:=run_storeCells_cells (P:=P) b (off+m*s) (Builtin.zeroCells z.cells (n-m)).toList 0 w (fun j hj=>by rw[hlen] at hj;have:=(h5 (m*s+j) (by omega)).1;simpa [Nat.add_assoc] using this) (fun j hj=>by rw[hlen] at hj;have:=(h5 (m*s+j) (by omega)).2;simpa [Nat.add_assoc] using this) (UM h1 _)
   simp only[Nat.add_zero] at hst;refine⟨w.setCells b (off+m*s) (Builtin.zeroCells z.cells (n-m)).toList,fun ty c=>?_,?_,(zI.refl _ _).setCells _ _ (.inl (by simp[yf]))⟩
   ·obtain⟨q,hq⟩:∃q,n-m=q+1:=⟨n-m-1,by omega⟩
    rw[hq] at hst ⊢;generalize hzl:(Builtin.zeroCells z.cells (q+1)).toList=zl at *
    simp[Builtin.clear_,run_underlying ht,hv,hzl,hst]
   ·have hin:=World.cell?_setCells_in b (Builtin.zeroCells z.cells (n-m)).toList (off+m*s) w (fun j hj=>by rw[hlen] at hj;have:=(h5 (m*s+j) (by omega)).1;simpa [Nat.add_assoc] using this)
    generalize (Builtin.zeroCells z.cells (n-m)).toList=zl at *
    refine⟨by rw[List.length_take];omega,by omega,k3,.inr ⟨b,off,rfl,Nat.lt_of_lt_of_le hlt ((zI.refl [b] w).setCells zl (off+m*s) (.inl (by simp))).size,fun j hj=>⟨?_,by rw[World.frozen?_setCells];exact(h5 j hj).2⟩,fun j v hj=>?_⟩⟩
    ·by_cases hj2:m*s≤j∧j<m*s+(n-m)*s
     ·have:=hin (j-m*s) (by omega)
      rw[show off+m*s+(j-m*s)=off+j by omega] at this
      rw[this];rfl
     ·rw[World.cell?_setCells_out b zl _ w _ (fun _ _=>by simp only;omega)]
      exact(h5 j hj).1
    ·rw[List.getElem?_take] at hj
     split at hj
     ·rw[World.cell?_setCells_out b zl _ w _ (fun _ _=>by simp only;omega)]
      exact h6 j v hj
     ·cases hj
theorem IP (w:World):(zeroValue (Tryz.prog.elem 191)).run Tryz.prog w=.ok (.agg #[.int .i64 0,.int .i64 0,.int .i64 0]) w:=by kernel_rfl
def MX (g:Int)(l l':List Wt)(i j:Nat):Prop:=l'.length=l.length∧i≤j∧l'.take i=yL g (l.take j)∧l'.drop j=l.drop j
theorem MX.skip {g:Int}{l l':List Wt}{i j:Nat}(h:MX g l l' i j)(hj:j<l.length)(hx:l[j].1=g):MX g l l' i (j+1):=by
 obtain⟨h1,h2,h3,h4⟩:=h;refine⟨h1,by omega,?_,?_⟩
 ·rw[Xb l j hj,XN,if_pos hx];exact h3
 ·rw[←List.drop_drop,←List.drop_drop,h4]
theorem MX.CW {g:Int}{l l':List Wt}{i j:Nat}(h:MX g l l' i j)(hj:j<l.length)(hx:¬l[j].1=g):MX g l (l'.set i l[j]) (i+1) (j+1):=by
 obtain⟨h1,h2,h3,h4⟩:=h;refine⟨by rw[List.length_set];exact h1,by omega,?_,?_⟩
 ·rw[Xb l j hj,XN,if_neg hx,←h3,xK _ _ _ (by omega)]
 ·rw[List.drop_set_of_lt (by omega),←List.drop_drop,←List.drop_drop,h4]
theorem MX.at {g:Int}{l l':List Wt}{i j:Nat}(h:MX g l l' i j)(hj:j<l.length)(hj':j<l'.length):l'[j]=l[j]:=by
 obtain⟨h1,h2,h3,h4⟩:=h;have:=congrArg List.head? h4
 rw[List.head?_drop,List.head?_drop,List.getElem?_eq_getElem hj',List.getElem?_eq_getElem hj] at this
 simpa using this
theorem Uz {w0 w:World}{R:List zy}{a:Option Addr}{c n q:Nat}{g:Int}{l:List Wt}(h:Own w0 w (zd 3 a c n (xe l)::zf q [.int .i64 g]::R))(hn:n=l.length)(hl:n≤100000) :
  Calls Tryz.prog 188 #[.slice a n c,DQ q] w fun r w'=>r=.returned (.slice a (yL g l).length c)∧Own w0 w' (zd 3 a c (yL g l).length (xe (yL g l))::zf q [.int .i64 g]::R):=by
 have hi:=Na w a n c l q g (h.yZ 0 rfl).cells hn hl (h.zo 1 rfl 0 _ rfl).1
 have HI:=Qq hi;have HO:=Qq h;have HN:=Qq hn;have hcn:n≤c:=(h.yZ 0 rfl).2.1
 clear hi h hn;have hclo:DQ q=.func (.func 187) #[] #[.pointer (some ⟨q,0,none⟩)]:=rfl
 rw[hclo];rw[hclo] at HI;clear hclo;go_enter Tryz.func188,Tryz.ntmps188
 go_wp2_with fail;refine HI.out.mono ?_
 rintro r w1 ⟨b1,hr⟩;rcases hr with⟨i,hil,rfl,hx,hpre⟩|⟨rfl,hno⟩
 ·have hst:∃l',MX g l l' i (i+1)∧Own w0 w1 (zd 3 a c n (xe l')::zf q [.int .i64 g]::R):=by
   refine⟨l,⟨rfl,by omega,?_,rfl⟩,HO.out.step b1⟩
   rw[Xb l i hil,XN,if_pos hx,UB];intro j hj;rw[List.length_take] at hj;rw[List.getElem_take];exact hpre j (by omega)
  have HST:=Qq hst;have hin:i<n:=by have:=HN.out;omega
  have hne:((i:Int) == -1)=false:=by rw[beq_eq_false_iff_ne];omega
  clear hst hx hpre b1 HI HO hil;go_wp2_with fail;go_loopw [5,6] (fun s5 s6 wr=>∃i j:Nat,i<j∧j≤n∧s5=.int .i64 i∧s6=.int .i64 j∧Hid (∃l',MX g l l' i j∧Own w0 wr (zd 3 a c n (xe l')::zf q [.int .i64 g]::R))) (fun _ s6 _=>n-(intOf s6).toNat)
  case atStart=>exact⟨i,i+1,by omega,by omega,rfl,by go_num,HST⟩
  case round =>
   obtain⟨i,j,hij,hj,rfl,rfl,hr⟩:=hrel;obtain⟨l',hm,ho⟩:=hr.out;by_cases hlt:j<n
   ·have hjl:j<l.length:=by have:=HN.out;omega
    have hjl':j<l'.length:=by rw[hm.1];exact hjl
    obtain⟨b,off,rfl,e1,e2,e3⟩:=(ho.yZ 0 rfl).cells.wt j hjl'
    rw[hm.at hjl hjl'] at e1 e2 e3
    have hp:=S6 l[j] q g (wr.alloc (.cells #[.int .i64 l[j].1,.int .i64 l[j].2.1,.int .i64 l[j].2.2] 270)) (zj (ho.zo 1 rfl 0 _ rfl).1 (below_alloc1 _ _))
    have HP:=Qq hp;have hji:(j:Int)<(n:Int):=by omega
    have hii:(i:Int)<(n:Int):=by omega
    have HM:=Qq hm;have HO:=Qq ho;have HJ:Hid (j<l.length):=Qq hjl
    obtain⟨y,hy⟩:∃y,y=l[j]'hjl:=⟨_,rfl⟩
    rw[←hy] at e1 e2 e3 HP;have HY:Hid (∀h:j<l.length,y=l[j]'h):=Qq fun _=>hy
    clear hp hy hjl hjl' hm ho hr HST;obtain⟨y1,y2,y3⟩:=y;unfold wv at HP;simp only at e1 e2 e3 HP
    by_cases hyg:y1=g
    ·have hb:(y1==g)=true:=by rw[beq_iff_eq];exact hyg
     rw[hb] at HP;have HG:=Qq hyg;clear hb hyg;go_wp2_with fail;refine HP.out.mono ?_
     rintro r w3 ⟨rfl,b3⟩;have HZ:Hid (∃l',MX g l l' i (j+1)∧Own w0 w3 (zd 3 (some ⟨b,off,none⟩) c n (xe l')::zf q [.int .i64 g]::R)):=Qq ⟨l',HM.out.skip HJ.out (by rw[←HY.out HJ.out];exact HG.out),(HO.out.step (below_alloc1 _ _)).step b3⟩
     clear b3 HP;go_wp2;exact⟨⟨i,j+1,by omega,by omega,rfl,by go_num,HZ⟩,by simp[intOf];omega⟩
    ·have hb:(y1==g)=false:=by rw[beq_eq_false_iff_ne];exact hyg
     rw[hb] at HP;have HG:=Qq hyg;clear hb hyg;go_wp2_with fail;refine HP.out.mono ?_
     rintro r w3 ⟨rfl,b3⟩;have o3:=(HO.out.step (below_alloc1 _ (.cells #[.int .i64 y1,.int .i64 y2,.int .i64 y3] 270))).step b3
     have hlen:i*3+2<(xe l').length:=by rw[P5,HM.out.1];have:=HN.out;omega
     have o4:=((o3.ZG (i*3) (.int .i64 y1) (by omega)).ZG (i*3+1) (.int .i64 y2) (by rw[List.length_set];omega)).ZG (i*3+2) (.int .i64 y3) (by rw[List.length_set,List.length_set];exact hlen)
     rw[G8 l' i (y1,y2,y3) (by rw[HM.out.1];have:=HN.out;omega)] at o4
     have hmk:=HM.out.CW HJ.out (by rw[←HY.out HJ.out];exact HG.out)
     rw[←HY.out HJ.out] at hmk;rw[←Nat.add_assoc,←Nat.add_assoc] at o4;have HZ:Hid (∃l',MX g l l' (i+1) (j+1)∧Own w0 (((w3.setCell ⟨b,off+i*3,none⟩ (.int .i64 y1)).setCell ⟨b,off+i*3+1,none⟩ (.int .i64 y2)).setCell ⟨b,off+i*3+2,none⟩ (.int .i64 y3)) (zd 3 (some ⟨b,off,none⟩) c n (xe l')::zf q [.int .i64 g]::R)):=Qq ⟨_,hmk,o4⟩
     have v9:=zj (zF.mk wr [.int .i64 y1,.int .i64 y2,.int .i64 y3] 270 _ rfl 0 _ rfl).1 b3
     have v10:=zj (zF.mk wr [.int .i64 y1,.int .i64 y2,.int .i64 y3] 270 _ rfl 1 _ rfl).1 b3
     have v11:=zj (zF.mk wr [.int .i64 y1,.int .i64 y2,.int .i64 y3] 270 _ rfl 2 _ rfl).1 b3
     obtain⟨u0,s1,s2⟩:=(o3.yZ 0 rfl).spot (i*3) (by omega)
     obtain⟨u1,s3,s4⟩:=(o3.yZ 0 rfl).spot (i*3+1) (by omega)
     obtain⟨u2,s5,s6⟩:=(o3.yZ 0 rfl).spot (i*3+2) (by omega)
     rw[←Nat.add_assoc] at s3 s4 s5 s6;clear b3 HP o4 o3 hmk hlen e1 e2 e3;go_wp2;exact⟨⟨i+1,j+1,by omega,by omega,by go_num,by go_num,HZ⟩,by simp[intOf];omega⟩
   ·have hge:¬(j:Int)<(n:Int):=by omega
    have hjn:j=n:=by omega
    have hi:i≤n:=by omega
    obtain⟨z1,z2,z3,z4⟩:=hm;have hdl:yL g l=l'.take i:=by rw[z3,List.take_of_length_le (by have:=HN.out;omega)]
    have hlen:(yL g l).length=i:=by rw[hdl,List.length_take,z1];have:=HN.out;omega
    obtain⟨a',hsl,w2,hclr,hrow,hchg⟩:=Q0 (.agg #[.int .i64 0,.int .i64 0,.int .i64 0]) V3 Sp IP rfl (by simp[Value.cells,Value.oneCell']) (ho.yZ 0 rfl) i hi
    have hsh:∀w',(Instr.slice 191 (.slice a n c) none (some (.int .i64 (i:Int))) none).run Tryz.prog w'=.ok (.slice a i c) w':=fun w'=>xS w' V3 Sp a n c i (by omega)
    have hfin:Own w0 w2 (zd 3 a c (yL g l).length (xe (yL g l))::zf q [.int .i64 g]::R):=by
     rw[hlen,hdl,Rj];exact Own.xj ho hrow hchg (fun x hx=>.inl hx)
    have HF:=Qq hfin;have HCLR:=Qq hclr;have HLEN:=Qq hlen;clear hr ho hrow hchg hfin hclr z1 z2 z3 z4 hdl hlen HST hlt hj hij;go_wp2_with (with_reducible refine UP rfl _ _ rfl rfl (HCLR.out _ _) ?_)
    go_ret;exact⟨by rw[HLEN.out];rfl,HF.out⟩
 ·have hd:yL g l=l:=UB g l hno
  have HF:Hid (Own w0 w1 (zd 3 a c (yL g l).length (xe (yL g l))::zf q [.int .i64 g]::R)):=Qq (by rw[hd,←HN.out];exact HO.out.step b1)
  have HL:Hid ((yL g l).length=n):=Qq (by rw[hd];exact HN.out.symm)
  clear hno hd b1 HI HO;go_wp2;go_ret;exact⟨by rw[HL.out];rfl,HF.out⟩
theorem NB {w0 w:World}{R:List zy}{p N:Nat}{C:Ch}(h:Own w0 w (yv p N C::R))(g:Int)(hs:C.S.length≤100000)(hr:C.R.length≤100000) :
  Calls Tryz.prog 183 #[.pointer (some ⟨p,0,none⟩),.int .i64 g] w fun r w'=>r=.returned (.tuple #[])∧Own w0 w' (yv p N ⟨C.buf,yL g C.S,yL g C.R,C.cl⟩::R):=by
 obtain⟨buf,S,Rv,cl⟩:=C;simp only at hs hr ⊢
 obtain⟨ba,bc,sa,sc,ra,rc,h1⟩:=h.chan;have hpl:p<w.heap.size:=World.block_lt_of_cell? w _ (h1.zo 0 rfl 0 _ rfl).1
 have hA:=h1.alloc [.int .i64 g] 3 (b:=w.heap.size) rfl
 have hmk:∀q,(DQ q)=.func (.func 187) #[] #[.pointer (some ⟨q,0,none⟩)]:=fun _=>rfl
 have hB:Own w0 (w.alloc (.cells #[.int .i64 g] 3)) (zd 3 sa sc S.length (xe S)::zf w.heap.size [.int .i64 g]::zf p (yK N ⟨buf,S,Rv,cl⟩ ba bc sa sc ra rc)::zd 1 ba bc buf.length (zr buf)::zd 3 ra rc Rv.length (xe Rv)::R):=hA.pick 3 rfl
 have hd:=Uz hB rfl hs;rw[hmk] at hd;obtain⟨g2,-⟩:=hB.zo 2 rfl 2 _ rfl;have HD:=Qq hd;simp only[yK] at g2;obtain⟨n,hn⟩:∃n,n=S.length:=⟨_,rfl⟩
 rw[←hn] at g2 HD;have HN:=Qq hn;clear h h1 hA hB hd hn;go_enter Tryz.func183,Tryz.ntmps183
 go_wp2_with fail;refine HD.out.mono ?_
 rintro r w2 ⟨rfl,h2⟩;have h3:Own w0 w2 (zd 3 sa sc (yL g S).length (xe (yL g S))::zf w.heap.size [.int .i64 g]::zf p (yK N ⟨buf,S,Rv,cl⟩ ba bc sa sc ra rc)::zd 1 ba bc buf.length (zr buf)::zd 3 ra rc Rv.length (xe Rv)::R):=h2
 have h4:=h3.setAt 2 rfl 2 (.slice sa (yL g S).length sc)
 obtain⟨p2,q2⟩:=h3.zo 2 rfl 2 _ rfl;have hC:Own w0 (w2.setCell ⟨p,2,none⟩ (.slice sa (yL g S).length sc)) (zd 3 ra rc Rv.length (xe Rv)::zf w.heap.size [.int .i64 g]::zd 3 sa sc (yL g S).length (xe (yL g S))::zf p (yK N ⟨buf,yL g S,Rv,cl⟩ ba bc sa sc ra rc)::zd 1 ba bc buf.length (zr buf)::R):=(h4.pick 1 rfl).pick 4 rfl
 have hd:=Uz hC rfl hr;rw[hmk] at hd;have HD2:=Qq hd;obtain⟨g3,-⟩:=hC.zo 3 rfl 3 _ rfl;simp only[yK] at g3;clear h2 h3 h4 hC hd g2 HD;obtain⟨n3,hn3⟩:∃n,n=Rv.length:=⟨_,rfl⟩
 rw[←hn3] at g3 HD2;have HN3:=Qq hn3;clear hn3;go_wp2_with fail;refine HD2.out.mono ?_
 rintro r w3 ⟨rfl,h5⟩;have h6:Own w0 w3 (zd 3 ra rc (yL g Rv).length (xe (yL g Rv))::zf w.heap.size [.int .i64 g]::zd 3 sa sc (yL g S).length (xe (yL g S))::zf p (yK N ⟨buf,yL g S,Rv,cl⟩ ba bc sa sc ra rc)::zd 1 ba bc buf.length (zr buf)::R):=h5
 have h7:=h6.setAt 3 rfl 3 (.slice ra (yL g Rv).length rc)
 obtain⟨p3,q3⟩:=h6.zo 3 rfl 3 _ rfl;have hE:Own w0 (w3.setCell ⟨p,3,none⟩ (.slice ra (yL g Rv).length rc)) (yv p N ⟨buf,yL g S,yL g Rv,cl⟩::R) :=
  Own.Zi (((((h7.pick 1 rfl).drop.pick 0 rfl).pick 1 rfl).pick 3 rfl).pick 3 rfl)
 have HE:=Qq hE;clear h5 h6 h7 hE HD2 g3;go_wp2;go_end0
 exact⟨rfl,HE.out⟩
abbrev Zc:=Int×Int×Int
abbrev Pl:=Nat×Nat
def YF (ps:List Pl)(Cs:List Ch):List zy:=List.zipWith (fun p C=>yv p.1 p.2 C) ps Cs
theorem So {ps:List Pl}{Cs:List Ch}{i:Nat}{p:Pl}{C:Ch}(hp:ps[i]?=some p)(hC:Cs[i]?=some C):(YF ps Cs)[i]?=some (yv p.1 p.2 C):=by
 unfold YF;rw[List.getElem?_zipWith,hp,hC]
theorem TQ {ps:List Pl}{Cs:List Ch}{i:Nat}{p:Pl}(C:Ch)(hp:ps[i]?=some p)(hi:i<Cs.length):(YF ps Cs).set i (yv p.1 p.2 C)=YF ps (Cs.set i C):=by
 apply List.ext_getElem?
 intro j;unfold YF;rw[List.getElem?_set]
 have hpl:=(List.getElem?_eq_some_iff.1 hp).1
 by_cases e:i=j
 ·subst e
  rw[if_pos rfl,if_pos (by simp;omega),List.getElem?_zipWith,hp,List.getElem?_set_self hi]
 ·rw[if_neg e,List.getElem?_zipWith,List.getElem?_zipWith,List.getElem?_set_ne e]
theorem Own.Pw {w0 w:World}{ps:List Pl}{Cs:List Ch}{R:List zy}(h:Own w0 w (YF ps Cs++R)){i:Nat}{p:Pl}{C:Ch}(hp:ps[i]?=some p)(hC:Cs[i]?=some C) :
  ∃R',Own w0 w (yv p.1 p.2 C::R')∧∀w' C',Own w0 w' (yv p.1 p.2 C'::R')→Own w0 w' (YF ps (Cs.set i C')++R):=by
 have hl:i<(YF ps Cs).length:=(List.getElem?_eq_some_iff.1 (So hp hC)).1
 have hCl:=(List.getElem?_eq_some_iff.1 hC).1
 refine⟨_,h.pick i (by rw[List.getElem?_append_left hl];exact So hp hC),fun w' C' h'=>?_⟩
 have:=h'.back (by rw[List.length_append];omega)
 rw[List.set_append_left _ _ hl,TQ C' hp hCl] at this
 exact this
theorem Re {α:Type}(l:List α)(i:Nat)(x:α)(h:l[i]?=some x):l.set i x=l:=by
 apply List.ext_getElem?
 intro j;by_cases e:i=j
 ·subst e;rw[List.getElem?_set_self (List.getElem?_eq_some_iff.1 h).1,h]
 ·rw[List.getElem?_set_ne e]
def xR (ps:List Pl):List Value:=ps.map fun p=>.pointer (some ⟨p.1,0,none⟩)
theorem TT (ps:List Pl)(i:Nat)(p:Pl)(h:ps[i]?=some p):(xR ps)[i]?=some (.pointer (some ⟨p.1,0,none⟩)):=by unfold xR;rw[List.getElem?_map,h];rfl
def CC (k:Zc):List Value:=[.int .i64 k.1,.int .i64 k.2.1,.int .i64 k.2.2]
def WN (l:List Zc):List Value:=l.flatMap CC
def VT (n:Nat)(ks:List Zc):Prop:=∀k∈ks,(k.1=0∨k.1=1∨k.1=2)∧0≤k.2.1∧(k.1≠2→k.2.1<n)∧0≤k.2.2∧k.2.2<8
def goesB (ps:List Pl)(Cs:List Ch)(k:Zc):Bool :=
 match Cs[k.2.1.toNat]?,ps[k.2.1.toNat]? with
 | some C,some p=>if k.1=0 then SE C else if k.1=1 then Pj p.2 C else false
 | _,_=>false
def enF (g:Zc→Bool):Nat→List Zc→List Int
 | _,[]=>[]
 | i,k::t=>if g k then(i:Int)::enF g (i+1) t else enF g (i+1) t
theorem TR (g:Zc→Bool):∀(l:List Zc) (i:Nat),(enF g i l).length≤l.length
 | [],i=>by simp[enF]
 | k::t,i=>by
  have:=TR g t (i+1)
  unfold enF;split<;>simp<;>omega
theorem Kg (g:Zc→Bool)(l:List Zc)(i:Nat)(h:i<l.length):enF g i (l.drop i)=if g l[i] then(i:Int)::enF g (i+1) (l.drop (i+1)) else enF g (i+1) (l.drop (i+1)):=by
 rw[List.drop_eq_getElem_cons h];rfl
def UO:Nat→List Zc→Int
 | _,[]=>-1
 | i,k::t=>if k.1=2 then(i:Int) else UO (i+1) t
theorem Jz (l:List Zc)(i:Nat)(h:i<l.length):UO i (l.drop i)=if l[i].1=2 then(i:Int) else UO (i+1) (l.drop (i+1)):=by
 rw[List.drop_eq_getElem_cons h];rfl
def waF (g:Int)(yU:List Int)(i:Nat)(k:Zc)(Cs:List Ch):List Ch :=
 match Cs[k.2.1.toNat]? with
 | some C=>if k.1=0 then Cs.set k.2.1.toNat ⟨C.buf,C.S,C.R++[(g,(i:Int),0)],C.cl⟩ else if k.1=1 then Cs.set k.2.1.toNat ⟨C.buf,C.S++[(g,(i:Int),yU.getD k.2.2.toNat 0)],C.R,C.cl⟩ else Cs
 | none=>Cs
def wasF (g:Int)(yU:List Int):Nat→List Zc→List Ch→List Ch
 | _,[],Cs=>Cs
 | i,k::t,Cs=>wasF g yU (i+1) t (waF g yU i k Cs)
theorem My (g:Int)(yU:List Int)(l:List Zc)(i:Nat)(h:i<l.length)(Cs:List Ch):wasF g yU i (l.drop i) Cs=wasF g yU (i+1) (l.drop (i+1)) (waF g yU i l[i] Cs):=by
 rw[List.drop_eq_getElem_cons h];rfl
theorem Gf (g:Int)(yU:List Int)(i:Nat)(k:Zc)(Cs:List Ch):(waF g yU i k Cs).length=Cs.length:=by
 unfold waF;split
 ·split
  ·simp
  ·split<;>simp
 ·rfl
def RI (n:Nat)(Cs:List Ch):Prop:=∀C∈Cs,C.buf.length≤n∧C.S.length≤n∧C.R.length≤n
theorem RI.mono {n m:Nat}{Cs:List Ch}(h:RI n Cs)(hm:n≤m):RI m Cs:=fun C hC=>by obtain⟨h1,h2,h3⟩:=h C hC;omega
theorem RI.set {n:Nat}{Cs:List Ch}(h:RI n Cs)(i:Nat)(C:Ch)(hC:C.buf.length≤n∧C.S.length≤n∧C.R.length≤n):RI n (Cs.set i C):=fun D hD=>by
 rcases List.mem_or_eq_of_mem_set hD with h1|h1
 ·exact h D h1
 ·rw[h1];exact hC
def Pk (g:Int)(C:Ch):Ch:=⟨C.buf,yL g C.S,yL g C.R,C.cl⟩
abbrev zS:=Int×Int×Int×Int
abbrev Sx:=Int×Int×Int
structure PD where
 fs:List (List zS)
 cs:List Int
 lk:Int
 ks:List Sx
def Lo (v lo hi:Int):Bool:=decide (lo≤v)&&decide (v≤hi)
def xy (v lo hi:Int):Bool:=decide (lo≤v)&&decide (v<hi)
def Xr:List Nat:=[0,0,0,2,1,0,2,2,0,2,2,2,2,2,2,2,2,2,2,2,2,3,0,0,2,3,0,4,2,2,2,0,0,4,2,2,0,0,0,5,2,0,5,2,2,5,0,0,7,8,2,2,0,0,6,0,0,6,0,0,2,0,0,2,9,0,10,0,0]
def loh (f:Nat)(nf nc nk:Nat)(lk a:Int)(n:Nat):Int×Int :=
 match f with
 | 1=>(-9223372036854775808,9223372036854775807)
 | 2=>(0,7)
 | 3=>(0,(n:Int)-1)
 | 4=>(0,(nf:Int)-1)
 | 5=>(0,(nc:Int)-1)
 | 6=>(0,lk-1)
 | 7=>(0,(nk:Int)-1)
 | 8=>(1,IntKind.i64.wrap ((nk:Int)-a))
 | 9=>(1,1099511627775)
 | 10=>(0,1048575)
 | _=>(0,0)
def US (nf nc nk:Nat)(lk:Int)(n:Nat)(x:zS):Int :=
 if Lo x.1 0 22 then
  if Lo x.2.1 (loh (Xr.getD (x.1.toNat*3) 0) nf nc nk lk x.2.1 n).1 (loh (Xr.getD (x.1.toNat*3) 0) nf nc nk lk x.2.1 n).2 then
   if Lo x.2.2.1 (loh (Xr.getD (x.1.toNat*3+1) 0) nf nc nk lk x.2.1 n).1 (loh (Xr.getD (x.1.toNat*3+1) 0) nf nc nk lk x.2.1 n).2 then
    if Lo x.2.2.2 (loh (Xr.getD (x.1.toNat*3+2) 0) nf nc nk lk x.2.1 n).1 (loh (Xr.getD (x.1.toNat*3+2) 0) nf nc nk lk x.2.1 n).2 then 0 else 4
   else 4
  else 4
 else 9
def Lj (nc:Nat)(c:Sx):Bool:=if c.1=0∨c.1=1 then Lo c.2.1 0 ((nc:Int)-1)&&Lo c.2.2 0 7 else c.1==2
def yh (n:Int):Prop:=-9223372036854775808≤n∧n≤9223372036854775807
def goodB (nf nc nk:Nat)(lk:Int)(n:Nat)(x:zS):Option Bool :=
 let a:=x.2.1;let b:=x.2.2.1;let c:=x.2.2.2
 match x.1.toNat with
 | 0|12=>some (a==0&&b==0&&c==0)
 | 1=>some (xy a 0 8&&c==0)
 | 2=>some (xy a 0 8&&xy b 0 8&&c==0)
 | 3|4|5|6=>some (xy a 0 8&&xy b 0 8&&xy c 0 8)
 | 7=>some (xy a 0 n&&b==0&&c==0)
 | 8=>some (xy a 0 8&&xy b 0 n&&c==0)
 | 9|11=>some (xy a 0 nf&&xy b 0 8&&xy c 0 8)
 | 10|17|20=>some (xy a 0 8&&b==0&&c==0)
 | 13=>some (xy a 0 nc&&xy b 0 8&&c==0)
 | 14=>some (xy a 0 nc&&xy b 0 8&&xy c 0 8)
 | 15=>some (xy a 0 nc&&b==0&&c==0)
 | 16=>some (xy a 0 nk&&xy b 1 ((nk:Int)-a+1)&&xy c 0 8)
 | 18|19=>some (xy a 0 lk&&b==0&&c==0)
 | 21=>some (xy a 0 8&&xy b 1 1099511627776&&c==0)
 | 22=>some (xy a 0 1048576&&b==0&&c==0)
 | _=>none
theorem U9 (nf nc nk:Nat)(lk:Int)(n:Nat)(o a b c:Int)(hb:yh b)(ho:0≤o∧o≤22)(hk:nk≤1000):∃g,goodB nf nc nk lk n (o,a,b,c)=some g∧US nf nc nk lk n (o,a,b,c)=if g then 0 else 4:=by
 obtain⟨k,rfl⟩:∃k:Nat,o=(k:Int):=⟨o.toNat,by omega⟩
 have hk22:k≤22:=by omega
 obtain⟨hb1,hb2⟩:=hb;have hw:(k:Int)≤22:=by omega
 have hwr:0≤a→a<nk→IntKind.i64.wrap ((nk:Int)-a)=(nk:Int)-a:=fun h1 h2=>by rw[IntKind.wrap_i64];omega
 have hkk:k=0∨k=1∨k=2∨k=3∨k=4∨k=5∨k=6∨k=7∨k=8∨k=9∨k=10∨k=11∨k=12∨k=13∨k=14∨k=15∨k=16∨k=17∨k=18∨k=19∨k=20∨k=21∨k=22:=by omega
 clear ho hw hk22;rcases hkk with rfl|rfl|rfl|rfl|rfl|rfl|rfl|rfl|rfl|rfl|rfl|rfl|rfl|rfl|rfl|rfl|rfl|rfl|rfl|rfl|rfl|rfl|rfl
 all_goals refine⟨_,rfl,?_⟩
 all_goals simp only[US,Lo,xy,loh,Xr,Int.toNat_natCast,List.getD_eq_getElem?_getD]
 case inr.inr.inr.inr.inr.inr.inr.inr.inr.inr.inr.inr.inr.inr.inr.inr.inl =>
  by_cases h1:0≤a
  ·by_cases h2:a<nk
   ·simp only[List.getElem?_cons_succ,List.getElem?_cons_zero,Option.getD_some,hwr h1 h2]
    by_cases h3:1≤b<;>by_cases h4:b<(nk:Int)-a+1<;>by_cases h5:0≤c<;>by_cases h6:c<8 <;>
    simp[h1,h2,h3,h4,h5,h6,show a≤(nk:Int)-1 by omega]<;>omega
   ·simp[h1,h2,show ¬a≤(nk:Int)-1 by omega]
  ·simp[h1]
 all_goals
  simp
  (repeat' split)<;>simp_all<;>omega
structure It where
 at_:Int
 seq:Int
 id:Int
deriving DecidableEq,Inhabited
def UJ (x y:It):Bool:=decide (x.at_<y.at_∨x.at_=y.at_∧x.seq<y.seq)
def Vx (x y:It):Prop:=UJ y x=false
theorem T5 {x y:It}:Vx x y↔x.at_<y.at_∨x.at_=y.at_∧x.seq≤y.seq:=by unfold Vx UJ;simp only[decide_eq_false_iff_not];omega
theorem P4 {x y:It}:UJ x y=true↔x.at_<y.at_∨x.at_=y.at_∧x.seq<y.seq:=by unfold UJ;simp
theorem Vx.trans {x y z:It}(h:Vx x y)(k:Vx y z):Vx x z:=by rw[T5] at *;omega
theorem Vx.refl (x:It):Vx x x:=by rw[T5];omega
theorem Vx.of_lt {x y:It}(h:UJ x y=true):Vx x y:=by rw[T5];rw[P4] at h;omega
def gI (l:List It)(i:Nat):It:=l.getD i default
theorem XL {l:List It}{i:Nat}(h:i<l.length):gI l i=l[i]:=by unfold gI;rw[List.getD_eq_getElem?_getD,List.getElem?_eq_getElem h];rfl
theorem Jp {l:List It}{i:Nat}(x:It)(k:Nat)(h:i<l.length):gI (l.set i x) k=if k=i then x else gI l k:=by
 unfold gI;rw[List.getD_eq_getElem?_getD,List.getElem?_set]
 by_cases e:i=k
 ·subst e;simp[h]
 ·rw[if_neg e,if_neg (by omega)];rw[List.getD_eq_getElem?_getD]
def Y5 (l:List It)(i j:Nat):List It:=(l.set i (gI l j)).set j (gI l i)
theorem yX (l:List It)(i j:Nat):(Y5 l i j).length=l.length:=by simp[Y5]
theorem Yi {l:List It}{i j:Nat}(hi:i<l.length)(hj:j<l.length)(k:Nat):gI (Y5 l i j) k=if k=j then gI l i else if k=i then gI l j else gI l k:=by
 unfold Y5;rw[Jp _ _ (by simpa using hj)];split
 ·rfl
 ·rw[Jp _ _ hi]
theorem Us {l:List It}{i j:Nat}(hi:i<l.length)(hj:j<l.length):(Y5 l i j).Perm l:=by
 by_cases e:i=j
 ·subst e
  have:Y5 l i i=l:=by
   apply List.ext_getElem (by simp[Y5])
   intro k h1 h2;have:=Yi hi hi k
   rw[XL h1,XL h2] at this;rw[this];split
   ·subst_vars;rw[XL h2]
   ·rfl
  rw[this]
 ·have key:∀(l:List It) (i j:Nat),i<j→j<l.length→((l.set i (gI l j)).set j (gI l i)).Perm l:=by
   intro l;induction l with
   | nil=>intro i j _ h;simp at h
   | cons x l ih =>
    intro i j hij hj;obtain⟨j,rfl⟩:∃k,j=k+1:=⟨j-1,by omega⟩
    simp at hj
    cases i with
    | zero =>
     have e1:gI (x::l) (j+1)=l[j]:=by rw[XL (by simp;omega)];rfl
     have e2:gI (x::l) 0=x:=rfl
     rw[e1,e2];simp only[QY,QZ];have h1:(l[j]::l.set j x).Perm (x::l):=by
      have a1:(x::l.eraseIdx j).Perm (l.set j x):=by
       clear ih e1 e2 hij;induction l generalizing j with
       | nil=>simp at hj
       | cons y l ih =>
        cases j with
        | zero=>simp
        | succ j =>
         simp only[List.eraseIdx_cons_succ,QZ];exact(List.Perm.swap y x _).trans ((ih j (by simpa using hj)).cons y)
      have a2:l.Perm (l[j]::l.eraseIdx j):=by
       clear ih e1 e2 hij a1;induction l generalizing j with
       | nil=>simp at hj
       | cons y l ih =>
        cases j with
        | zero=>simp
        | succ j =>
         simp only[List.eraseIdx_cons_succ,List.getElem_cons_succ];exact((ih j (by simpa using hj)).cons y).trans (.swap _ _ _)
      exact((a1.symm.cons _).trans (.swap _ _ _)).trans (a2.symm.cons x)
     exact h1
    | succ i =>
     have e1:gI (x::l) (j+1)=gI l j:=rfl
     have e2:gI (x::l) (i+1)=gI l i:=rfl
     rw[e1,e2];simp only[QZ];exact(ih i j (by omega) hj).cons x
  by_cases h:i<j
  ·exact key l i j h hj
  ·have:=key l j i (by omega) hi
   unfold Y5;rw[List.set_comm _ _ e];exact this
def XK (l:List It):Prop:=∀i,0<i→i<l.length→Vx (gI l ((i-1) / 4)) (gI l i)
def Za (l:List It)(k:Nat):List It:=if h:0<k∧UJ (gI l k) (gI l ((k-1) / 4))=true then Za (Y5 l k ((k-1) / 4)) ((k-1) / 4) else l
termination_by k
decreasing_by omega
theorem Z9 {l:List It}{k:Nat}(h:¬(0<k∧UJ (gI l k) (gI l ((k-1) / 4))=true)):Za l k=l:=by rw[Za,dif_neg h]
theorem Ud {l:List It}{k:Nat}(h0:0<k)(h1:UJ (gI l k) (gI l ((k-1) / 4))=true):Za l k=Za (Y5 l k ((k-1) / 4)) ((k-1) / 4):=by rw[Za,dif_pos ⟨h0,h1⟩]
theorem X5:∀(k:Nat) (l:List It),k<l.length→(Za l k).Perm l:=by
 intro k;induction k using Nat.strongRecOn with
 | _ k ih =>
  intro l hk;by_cases h:0<k∧UJ (gI l k) (gI l ((k-1) / 4))=true
  ·rw[Ud h.1 h.2]
   exact(ih ((k-1) / 4) (by omega) _ (by rw[yX];omega)).trans (Us hk (by omega))
  ·rw[Z9 h]
theorem XD {k:Nat}{l:List It}(hk:k<l.length):(Za l k).length=l.length:=(X5 k l hk).length_eq
def Ci (l:List It)(k:Nat):Prop:=(∀i,0<i→i<l.length→i≠k→Vx (gI l ((i-1) / 4)) (gI l i))∧∀i,0<i→i<l.length→((i-1) / 4)=k→0<k→Vx (gI l ((k-1) / 4)) (gI l i)
theorem TE:∀(k:Nat) (l:List It),k<l.length→Ci l k→XK (Za l k):=by
 intro k;induction k using Nat.strongRecOn with
 | _ k ih =>
  intro l hk ⟨h1,h2⟩
  by_cases h:0<k∧UJ (gI l k) (gI l ((k-1) / 4))=true
  ·rw[Ud h.1 h.2]
   have hp:((k-1) / 4)<k:=by omega
   refine ih ((k-1) / 4) hp _ (by rw[yX];omega) ⟨fun i hi0 hi hne=>?_,fun i hi0 hi hpi h0=>?_⟩
   ·rw[yX] at hi
    rw[Yi hk (by omega),Yi hk (by omega)]
    by_cases e:i=k
    ·subst e
     rw[if_pos rfl,if_neg (by omega),if_pos rfl]
     exact .of_lt h.2
    ·rw[if_neg (show ¬i=((k-1) / 4) from hne),if_neg e]
     by_cases e1:((i-1) / 4)=((k-1) / 4)
     ·rw[if_pos e1]
      have:=h1 i hi0 hi e
      rw[e1] at this;exact(Vx.of_lt h.2).trans this
     ·rw[if_neg e1]
      by_cases e2:((i-1) / 4)=k
      ·rw[if_pos e2];exact h2 i hi0 hi e2 h.1
      ·rw[if_neg e2];exact h1 i hi0 hi e
   ·rw[yX] at hi
    rw[Yi hk (by omega),Yi hk (by omega)]
    rw[if_neg (show ¬(((k-1) / 4-1) / 4)=((k-1) / 4) by omega),if_neg (show ¬(((k-1) / 4-1) / 4)=k by omega)]
    have hpp:=h1 ((k-1) / 4) h0 (by omega) (by omega)
    by_cases e:i=k
    ·subst e;rw[if_neg (by omega),if_pos rfl];exact hpp
    ·rw[if_neg (show ¬i=((k-1) / 4) by omega),if_neg e]
     have:=h1 i hi0 hi e
     rw[hpi] at this;exact hpp.trans this
  ·rw[Z9 h]
   intro i hi0 hi;by_cases e:i=k
   ·subst e
    have:¬UJ (gI l i) (gI l ((i-1) / 4))=true:=fun hc=>h ⟨hi0,hc⟩
    unfold Vx;simpa using this
   ·exact h1 i hi0 hi e
def firstF (l:List It)(k:Nat):Nat→Nat
 | 0=>k
 | j+1=>if k*4+1+j<l.length∧UJ (gI l (k*4+1+j)) (gI l (firstF l k j))=true then k*4+1+j else firstF l k j
theorem YC (l:List It)(k:Nat):∀j,firstF l k j=k∨(k*4+1≤firstF l k j∧firstF l k j<k*4+1+j∧firstF l k j<l.length)
 | 0=>.inl rfl
 | j+1=>by
  rw[firstF];split
  ·right;omega
  ·rcases YC l k j with h|h
   ·exact .inl h
   ·right;omega
theorem Tf (l:List It)(k:Nat):∀j,Vx (gI l (firstF l k j)) (gI l k)∧∀i,k*4+1≤i→i<k*4+1+j→i<l.length→Vx (gI l (firstF l k j)) (gI l i)
 | 0=>⟨.refl _,fun i h1 h2=>by omega⟩
 | j+1=>by
  obtain⟨h1,h2⟩:=Tf l k j;rw[firstF];split
  ·rename_i h
   have hlt:=Vx.of_lt h.2;refine⟨hlt.trans h1,fun i hi1 hi2 hi3=>?_⟩
   by_cases e:i=k*4+1+j
   ·subst e;exact .refl _
   ·exact hlt.trans (h2 i hi1 (by omega) hi3)
  ·rename_i h
   refine⟨h1,fun i hi1 hi2 hi3=>?_⟩
   by_cases e:i=k*4+1+j
   ·subst e
    unfold Vx;cases hc:UJ (gI l (k*4+1+j)) (gI l (firstF l k j)) with
    | false=>rfl
    | true=>exact absurd ⟨hi3,hc⟩ h
   ·exact h2 i hi1 (by omega) hi3
def Z3 (l:List It)(k:Nat):List It:=if h:k<firstF l k 4∧firstF l k 4<l.length then Z3 (Y5 l k (firstF l k 4)) (firstF l k 4) else l
termination_by l.length-k
decreasing_by rw[yX];omega
theorem XY {l:List It}{k:Nat}(h:firstF l k 4=k):Z3 l k=l:=by rw[Z3,dif_neg (by omega)]
theorem VU {l:List It}{k:Nat}(h:firstF l k 4≠k):Z3 l k=Z3 (Y5 l k (firstF l k 4)) (firstF l k 4):=by
 rw[Z3,dif_pos (by rcases YC l k 4 with e|e;exact absurd e h;omega)]
theorem Q2:∀(m:Nat) (l:List It) (k:Nat),l.length-k=m→k<l.length→(Z3 l k).Perm l:=by
 intro m;induction m using Nat.strongRecOn with
 | _ m ih =>
  intro l k hm hk;by_cases h:firstF l k 4=k
  ·rw[XY h]
  ·rw[VU h]
   have hf:k<firstF l k 4∧firstF l k 4<l.length:=by rcases YC l k 4 with e|e;exact absurd e h;omega
   exact(ih (l.length-firstF l k 4) (by omega) _ _ (by rw[yX]) (by rw[yX];omega)).trans (Us hk hf.2)
def CI (l:List It)(k:Nat):Prop:=(∀i,0<i→i<l.length→((i-1) / 4)≠k→Vx (gI l ((i-1) / 4)) (gI l i))∧∀i,0<i→i<l.length→((i-1) / 4)=k→0<k→Vx (gI l ((k-1) / 4)) (gI l i)
theorem TG:∀(m:Nat) (l:List It) (k:Nat),l.length-k=m→k<l.length→CI l k→XK (Z3 l k):=by
 intro m;induction m using Nat.strongRecOn with
 | _ m ih =>
  intro l k hm hk ⟨h1,h2⟩
  obtain⟨g1,g2⟩:=Tf l k 4;have hin:=YC l k 4;by_cases h:firstF l k 4=k
  ·rw[XY h]
   rw[h] at g2;intro i hi0 hi;by_cases e:((i-1) / 4)=k
   ·rw[e];exact g2 i (by omega) (by omega) hi
   ·exact h1 i hi0 hi e
  ·rw[VU h]
   have hf:k*4+1≤firstF l k 4∧firstF l k 4<k*4+5∧firstF l k 4<l.length:=by rcases hin with e|e;exact absurd e h;omega
   clear hin;generalize firstF l k 4=f at *;obtain⟨f1,f2,f3⟩:=hf;have hpf:((f-1) / 4)=k:=by omega
   refine ih (l.length-f) (by omega) _ f (by rw[yX]) (by rw[yX];omega) ⟨fun i hi0 hi hne=>?_,fun i hi0 hi hpi h0=>?_⟩
   ·rw[yX] at hi
    rw[Yi hk f3,Yi hk f3];rw[if_neg hne];by_cases e:i=f
    ·subst e;rw[if_pos rfl,if_pos hpf];exact g1
    ·rw[if_neg e]
     by_cases e1:((i-1) / 4)=k
     ·rw[if_pos e1,if_neg (by omega)];exact g2 i (by omega) (by omega) hi
     ·rw[if_neg e1]
      by_cases e2:i=k
      ·subst e2;rw[if_pos rfl];exact h2 f (by omega) f3 hpf hi0
      ·rw[if_neg e2];exact h1 i hi0 hi e1
   ·rw[yX] at hi
    rw[Yi hk f3,Yi hk f3,hpf,if_neg (by omega),if_pos rfl,if_neg (by omega),if_neg (by omega)]
    have:=h1 i hi0 hi (by omega)
    rw[hpi] at this;exact this
def EU (l:List It)(p:Nat):Prop:=(∀i,0<i→i<l.length→i≠p→((i-1) / 4)≠p→Vx (gI l ((i-1) / 4)) (gI l i))∧∀i,0<i→i<l.length→((i-1) / 4)=p→0<p→Vx (gI l ((p-1) / 4)) (gI l i)
theorem Np {l:List It}{p:Nat}(hp:p<l.length)(h:EU l p):XK (Z3 (Za l p) p):=by
 obtain⟨h1,h2⟩:=h;by_cases hc:0<p∧UJ (gI l p) (gI l ((p-1) / 4))=true
 ·have hu:Ci l p:=⟨fun i hi0 hi hne=>by
   by_cases e:((i-1) / 4)=p
   ·rw[e];exact(Vx.of_lt hc.2).trans (h2 i hi0 hi e hc.1)
   ·exact h1 i hi0 hi hne e,h2⟩
  have hh:=TE p l hp hu;have hl:=XD hp;exact TG _ _ p rfl (by omega) ⟨fun i hi0 hi _=>hh i hi0 hi,fun i hi0 hi hpi h0=>(hh p h0 (by omega)).trans (by have:=hh i hi0 hi;rw[hpi] at this;exact this)⟩
 ·rw[Z9 hc]
  refine TG _ _ p rfl hp ⟨fun i hi0 hi hne=>?_,h2⟩
  by_cases e:i=p
  ·subst e
   have:¬UJ (gI l i) (gI l ((i-1) / 4))=true:=fun hk=>hc ⟨hi0,hk⟩
   unfold Vx;simpa using this
  ·exact h1 i hi0 hi e hne
def ZX (l:List It)(x:It):List It:=Za (l++[x]) l.length
theorem L9 {l:List It}{x:It}{i:Nat}(h:i<l.length):gI (l++[x]) i=gI l i:=by unfold gI;rw[List.getD_eq_getElem?_getD,List.getElem?_append_left h,List.getD_eq_getElem?_getD]
theorem Nw {l:List It}{x:It}(h:XK l):XK (ZX l x):=by
 refine TE _ _ (by simp) ⟨fun i hi0 hi hne=>?_,fun i hi0 hi hpi h0=>?_⟩
 ·simp at hi
  rw[L9 (by omega),L9 (by omega)];exact h i hi0 (by omega)
 ·simp at hi;omega
theorem Tq (l:List It)(x:It):(ZX l x).Perm (x::l):=(X5 _ _ (by simp)).trans (by simp)
def YI (l:List It)(p:Nat):List It:=if p=l.length-1 then l.take (l.length-1) else Z3 (Za ((Y5 l p (l.length-1)).take (l.length-1)) p) p
theorem Ym {l:List It}{n i:Nat}(h:i<n):gI (l.take n) i=gI l i:=by
 unfold gI;rw[List.getD_eq_getElem?_getD,List.getElem?_take,if_pos h,List.getD_eq_getElem?_getD]
theorem L6 {l:List It}{p:Nat}(hp:p<l.length)(h:XK l):XK (YI l p):=by
 unfold YI;split
 ·intro i hi0 hi
  simp at hi
  rw[Ym (by omega),Ym (by omega)];exact h i hi0 (by omega)
 ·rename_i hne
  refine Np (by simp[yX];omega) ⟨fun i hi0 hi h1 h2=>?_,fun i hi0 hi h1 h2=>?_⟩
  ·simp[yX] at hi
   rw[Ym (by omega),Ym (by omega),Yi hp (by omega),Yi hp (by omega),if_neg (by omega),if_neg h2,if_neg (by omega),if_neg h1]
   exact h i hi0 (by omega)
  ·simp[yX] at hi
   rw[Ym (by omega),Ym (by omega),Yi hp (by omega),Yi hp (by omega),if_neg (by omega),if_neg (by omega),if_neg (by omega),if_neg (by omega)]
   have k1:=h p h2 (by omega)
   have k2:=h i hi0 (by omega)
   rw[h1] at k2;exact k1.trans k2
theorem TF (l:List It)(h:0<l.length):l=l.take (l.length-1)++[gI l (l.length-1)]:=by
 conv=>lhs;rw[←List.take_append_drop (l.length-1) l]
 congr 1
 rw[XL (by omega),List.drop_eq_getElem_cons (by omega),List.drop_of_length_le (by omega)]
theorem SZ {l:List It}{p:Nat}(hp:p<l.length):l.Perm (gI l p::YI l p):=by
 unfold YI;split
 ·rename_i e
  have:=TF l (by omega)
  conv=>lhs;rw[this]
  rw[←e];simp
 ·rename_i hne
  have hl:((Y5 l p (l.length-1)).take (l.length-1)).length=l.length-1:=by simp[yX]
  have h0:=XD (l:=(Y5 l p (l.length-1)).take (l.length-1)) (k:=p) (by omega)
  have h1:=(Q2 _ (Za ((Y5 l p (l.length-1)).take (l.length-1)) p) p rfl (by omega)).trans (X5 p _ (by omega))
  have h2:=TF (Y5 l p (l.length-1)) (by rw[yX];omega)
  rw[yX,Yi hp (by omega),if_pos rfl] at h2
  have h3:=Us hp (show l.length-1<l.length by omega)
  rw[h2] at h3;exact(h3.symm.trans (by simp)).trans (h1.symm.cons _)
theorem UD {l:List It}{p:Nat}(hp:p<l.length):(YI l p).length=l.length-1:=by
 have:=(SZ hp).length_eq;simp at this;omega
theorem Mv (l:List It)(x:It):(ZX l x).length=l.length+1:=by have:=(Tq l x).length_eq;simpa using this
def xr (l:List It):List Value:=l.flatMap fun x=>[.int .u64 x.at_,.int .u64 x.seq,.int .i64 x.id]
theorem Ua (l m:List It):xr (l++m)=xr l++xr m:=by unfold xr;rw[List.flatMap_append]
theorem ZO (x:It)(l:List It):xr (x::l)=.int .u64 x.at_::.int .u64 x.seq::.int .i64 x.id::xr l:=rfl
theorem NT (l:List It):∀(i:Nat),i<l.length→(xr l)[i*3]?=some (.int .u64 (gI l i).at_)∧(xr l)[i*3+1]?=some (.int .u64 (gI l i).seq)∧(xr l)[i*3+2]?=some (.int .i64 (gI l i).id):=by
 induction l with
 | nil=>intro i h;simp at h
 | cons x l ih =>
  intro i h;cases i with
  | zero=>exact⟨rfl,rfl,rfl⟩
  | succ i =>
   have:=ih i (by simpa using h)
   have e:gI (x::l) (i+1)=gI l i:=rfl
   rw[ZO,e,show(i+1)*3=i*3+1+1+1 by omega]
   exact this
theorem PC (l:List It):∀(i:Nat) (y:It),i<l.length→(((xr l).set (i*3) (.int .u64 y.at_)).set (i*3+1) (.int .u64 y.seq)).set (i*3+2) (.int .i64 y.id)=xr (l.set i y):=by
 induction l with
 | nil=>intro i y h;simp at h
 | cons x l ih =>
  intro i y h;cases i with
  | zero=>rfl
  | succ i =>
   have:=ih i y (by simpa using h)
   rw[ZO,QZ,ZO,show(i+1)*3=i*3+1+1+1 by omega]
   simp only[QZ];rw[this]
theorem Rr (l:List It)(n:Nat):xr (l.take n)=(xr l).take (n*3):=by
 induction l generalizing n with
 | nil=>simp[xr]
 | cons x l ih =>
  cases n with
  | zero=>simp[xr]
  | succ n =>
   rw[QX,ZO,ZO,show(n+1)*3=n*3+1+1+1 by omega]
   simp only[QX];rw[ih]
def yj (w:World)(v:Value)(l:List It):Prop:=w.ownsRow 0 225 3 v l.length (xr l)
theorem yj.yC {F:List Nat}{w w':World}{v:Value}{l:List It}(h:yj w v l)(c:zI F w w')(hd:∀x∈v.ownBlock.toList,x∉F):yj w' v l:=V4 h c (fun g hg=>hd g (by rw[hg];simp))
theorem yj.below {w w':World}{v:Value}{l:List It}(h:yj w v l)(hb:Below w.heap.size w w'):yj w' v l:=h.yC (zI.zK (F:=[]) hb) (fun _ _=>by simp)
theorem yj.lt {w:World}{v:Value}{l:List It}(h:yj w v l):∀x∈v.ownBlock.toList,x<w.heap.size:=fun x hx=>VA h x (by simpa using hx)
theorem yj.form {w:World}{v:Value}{l:List It}(h:yj w v l)(hl:0<l.length):∃g cap,v=.slice (some ⟨g,0,none⟩) l.length cap∧l.length≤cap:=by
 rcases h.2 with⟨rfl,h0⟩|⟨g,cap,cur,rfl,_,_,h1,_⟩
 ·omega
 ·exact⟨g,cap,rfl,h1⟩
theorem yj.slice {w:World}{v:Value}{l:List It}(h:yj w v l):∃a cap,v=.slice a l.length cap∧l.length≤cap:=by
 rcases h.2 with⟨rfl,h0⟩|⟨g,cap,cur,rfl,_,_,h1,_⟩
 ·exact⟨none,0,by rw[h0],by omega⟩
 ·exact⟨_,cap,rfl,h1⟩
theorem yj.nil (w:World):yj w (.slice none 0 0) []:=World.ownsRow_nil _ _ _ _
theorem yj.cell {w:World}{g n cap:Nat}{l:List It}(h:yj w (.slice (some ⟨g,0,none⟩) n cap) l)(i:Nat)(hi:i<l.length) :
  w.cell? ⟨g,i*3,none⟩=some (.int .u64 (gI l i).at_)∧w.cell? ⟨g,i*3+1,none⟩=some (.int .u64 (gI l i).seq)∧w.cell? ⟨g,i*3+2,none⟩=some (.int .i64 (gI l i).id):=by
 obtain⟨h1,h2,h3⟩:=NT l i hi;have hc:∀j u,(xr l)[j]?=some u→w.cell? ⟨g,j,none⟩=some u:=fun j u hj=>by
  have:=World.ownsRow.cells h (g:=g) rfl j u hj
  rwa [Addr.add_lit,Nat.zero_add] at this
 exact⟨hc _ _ h1,hc _ _ h2,hc _ _ h3⟩
theorem yj.free {w:World}{g n cap:Nat}{l:List It}(h:yj w (.slice (some ⟨g,0,none⟩) n cap) l)(j:Nat):w.frozen? ⟨g,j,none⟩=false:=by
 rcases h.2 with⟨hv,_⟩|⟨g',cap',cur,hv,hb,hg,h2,h3,h4,h5⟩
 ·cases hv
 ·simp only[Value.slice.injEq,Option.some.injEq,Addr.mk.injEq,and_true] at hv
  obtain⟨rfl,_⟩:=hv;exact frozen_of_row w g j cur _ hg
theorem VW {e:TypeId}{g n cap size:Nat}{w:World}{xs:List Value}(h:w.ownsRow 0 e size (.slice (some ⟨g,0,none⟩) n cap) n xs)(j:Nat)(v:Value) :
  (w.setCell ⟨g,j,none⟩ v).ownsRow 0 e size (.slice (some ⟨g,0,none⟩) n cap) n (xs.set j v):=by
 refine⟨by simpa using h.1,?_⟩
 rcases h.2 with⟨hv,_⟩|⟨g',cap',cur,hv,hb,hg,h2,h3,h4,h5⟩
 ·cases hv
 ·simp only[Value.slice.injEq,Option.some.injEq,Addr.mk.injEq,and_true,true_and] at hv
  obtain⟨rfl,rfl⟩:=hv;refine .inr ⟨g,cap,cur.set! j v,rfl,hb,heap_setCell_same _ _ _ _ _ _ hg,h2,h3,by simpa using h4,?_⟩
  rw[←h5,Array.set!_eq_setIfInBounds,Array.toList_setIfInBounds,List.take_set]
theorem Q1 {w:World}{e:TypeId}{size:Nat}{a:Option Addr}{n cap:Nat}{xs:List Value}(h:w.ownsRow 0 e size (.slice a n cap) n xs)(m:Nat)(hm:m≤n):w.ownsRow 0 e size (.slice a m cap) m (xs.take (m*size)):=by
 have hx:xs.length=n*size:=h.1
 have hms:m*size≤n*size:=Nat.mul_le_mul_right _ hm
 refine⟨by rw[List.length_take];omega,?_⟩
 rcases h.2 with⟨hv,hn⟩|⟨g,cap',cur,hv,hb,hg,h2,h3,h4,h5⟩
 ·simp only[Value.slice.injEq] at hv
  obtain⟨rfl,_,rfl⟩:=hv;exact .inl ⟨by rw[show m=0 by omega],by omega⟩
 ·simp only[Value.slice.injEq,true_and] at hv
  obtain⟨rfl,rfl⟩:=hv;refine .inr ⟨g,cap,cur,rfl,hb,hg,by omega,h3,h4,?_⟩
  rw[←h5,List.take_take];congr 1;omega
theorem yj.set {w:World}{g n cap:Nat}{l:List It}(h:yj w (.slice (some ⟨g,0,none⟩) n cap) l)(i:Nat)(hi:i<l.length)(hn:n=l.length)(y:It) :
  yj (((w.setCell ⟨g,i*3,none⟩ (.int .u64 y.at_)).setCell ⟨g,i*3+1,none⟩ (.int .u64 y.seq)).setCell ⟨g,i*3+2,none⟩ (.int .i64 y.id)) (.slice (some ⟨g,0,none⟩) n cap) (l.set i y):=by
 subst hn;unfold yj at h ⊢
 rw[List.length_set,←PC l i y hi];exact VW (VW (VW h _ _) _ _) _ _
structure Hp where
 b:Nat
 c0:Value
 c1:Value
 c2:Value
 c3:Value
 c4:Value
 T:List Value
def Hp.cs (p:Hp)(v x:Value):List Value:=p.c0::p.c1::p.c2::p.c3::p.c4::v::x::p.T
def yp (w:World)(p:Hp)(v:Value)(l:List It)(nx:Nat):Prop:=zF w p.b (p.cs v (.int .u64 (nx:Int)))∧yj w v l∧∀x∈v.ownBlock.toList,x≠p.b
theorem yp.yC {F:List Nat}{w w':World}{p:Hp}{v:Value}{l:List It}{nx:Nat}(h:yp w p v l nx)(c:zI F w w')(hp:p.b∉F)(hd:∀x∈v.ownBlock.toList,x∉F):yp w' p v l nx:=⟨h.1.yC c hp,h.2.1.yC c hd,h.2.2⟩
theorem yp.below {w w':World}{p:Hp}{v:Value}{l:List It}{nx:Nat}(h:yp w p v l nx)(hb:Below w.heap.size w w'):yp w' p v l nx:=h.yC (zI.zK (F:=[]) hb) (by simp) (fun _ _=>by simp)
theorem yp.lt {w:World}{p:Hp}{v:Value}{l:List It}{nx:Nat}(h:yp w p v l nx):p.b<w.heap.size∧∀x∈v.ownBlock.toList,x<w.heap.size:=⟨h.1.lt (by simp[Hp.cs]),h.2.1.lt⟩
def XH (x y:Int):Int:=if x<y then -1 else if y<x then 1 else 0
theorem JB (x y:Int)(w:World):Calls Tryz.prog 177 #[.int .u64 x,.int .u64 y] w fun r w'=>r=.returned (.int .i64 (XH x y))∧w'=w:=by
 rcases Int.lt_trichotomy x y with h|rfl|h
 ·rw[show XH x y = -1 by unfold XH;rw[if_pos h]]
  go_enter Tryz.func177,Tryz.ntmps177
  go_wp2;go_ret;exact⟨rfl,rfl⟩
 ·rw[show XH x x=0 by unfold XH;simp]
  go_enter Tryz.func177,Tryz.ntmps177
  go_wp2;go_ret;exact⟨rfl,rfl⟩
 ·rw[show XH x y=1 by unfold XH;rw[if_neg (by omega),if_pos h]]
  go_enter Tryz.func177,Tryz.ntmps177
  go_wp2;go_ret;exact⟨rfl,rfl⟩
theorem En (x y:Int)(b:Nat)(w:World)(h0:w.cell? ⟨b,0,none⟩=some (.int .i64 x))(h1:w.cell? ⟨b,1,none⟩=some (.int .i64 y)) :
  Calls Tryz.prog 176 #[.slice (some ⟨b,0,none⟩) 2 2] w fun r w'=>r=.returned (.int .i64 (if x=0 then y else x))∧w'=w:=by
 obtain⟨z,hz⟩:∃z,z=if x=0 then y else x:=⟨_,rfl⟩
 rw[←hz];have hc:((x !=0)=true∧z=x)∨((x !=0)=false∧(y !=0)=true∧z=y)∨((x !=0)=false∧(y !=0)=false∧z=0):=by
  by_cases hx:x=0
  ·rw[if_pos hx] at hz
   by_cases hy:y=0
   ·exact .inr (.inr ⟨by simp[hx],by simp[hy],by rw[hz,hy]⟩)
   ·exact .inr (.inl ⟨by simp[hx],by simp[hy],hz⟩)
  ·rw[if_neg hx] at hz;exact .inl ⟨by simp[hx],hz⟩
 clear hz;have HC:=Qq hc;clear hc;go_enter Tryz.func176,Tryz.ntmps176
 go_wp2;go_loop [8] (fun i=>∃k:Nat,k≤2∧i=.int .i64 k∧Hid ((1≤k→(x !=0)=false)∧(2≤k→(y !=0)=false))) (fun i=>2-(intOf i).toNat)
 case atStart=>exact⟨0,by omega,rfl,⟨fun h=>by omega,fun h=>by omega⟩⟩
 case round =>
  obtain⟨k,hk,rfl,hr⟩:=hrel;obtain rfl|rfl|rfl:k=0∨k=1∨k=2:=by omega
  ·rcases HC.out with⟨e1,rfl⟩|⟨e1,-⟩|⟨e1,-⟩
   ·go_wp2
    go_ret;exact⟨rfl,rfl⟩
   all_goals
    have HR:Hid ((1≤1→(x !=0)=false)∧(2≤1→(y !=0)=false)):=⟨fun _=>e1,fun h=>by omega⟩
    go_wp2;go_round
    case rel=>exact⟨1,by omega,rfl,HR⟩
    case measure=>simp[intOf]
  ·have e0:=hr.out.1 (by omega)
   rcases HC.out with⟨e1,rfl⟩|⟨-,e1,rfl⟩|⟨-,e1,rfl⟩
   ·rw[e0] at e1;cases e1
   ·clear e0
    go_wp2;go_ret;exact⟨rfl,rfl⟩
   ·have HR:Hid ((1≤2→(x !=0)=false)∧(2≤2→(y !=0)=false)):=⟨fun _=>e0,fun h=>e1⟩
    clear e0;go_wp2;go_round
    case rel=>exact⟨2,by omega,rfl,HR⟩
    case measure=>simp[intOf]
  ·have e0:=hr.out.1 (by omega)
   have e2:=hr.out.2 (by omega)
   rcases HC.out with⟨e1,rfl⟩|⟨-,e1,rfl⟩|⟨-,e1,rfl⟩
   ·rw[e0] at e1;cases e1
   ·rw[e2] at e1;cases e1
   ·clear e0 e1 e2
    go_wp2;go_ret;exact⟨rfl,rfl⟩
def Ky (x:It):Value:=.agg #[.int .u64 x.at_,.int .u64 x.seq,.int .i64 x.id]
def N5 (x y:It):Int:=if XH x.at_ y.at_=0 then XH x.seq y.seq else XH x.at_ y.at_
theorem Iv (x y:It):(N5 x y<0)=(UJ x y=true):=by
 rw[P4];unfold N5 XH;apply propext
 split<;>split<;>(try split)<;>(try split)<;>omega
theorem Rz (x y:It)(w:World):Calls Tryz.prog 166 #[Ky x,Ky y] w fun r w'=>r=.returned (.int .i64 (N5 x y))∧Below w.heap.size w w':=by
 have hI:N5 x y=if XH x.at_ y.at_=0 then XH x.seq y.seq else XH x.at_ y.at_:=rfl
 generalize N5 x y=c at hI ⊢
 obtain⟨xa,xs,xi⟩:=x;obtain⟨ya,ys,yi⟩:=y;simp only at hI
 unfold Ky;obtain⟨s0,hs0⟩:∃s0,s0=w.heap.size:=⟨_,rfl⟩
 have hO:Own w ((w.alloc (.cells #[.int .u64 xa,.int .u64 xs,.int .i64 xi] 225)).alloc (.cells #[.int .u64 ya,.int .u64 ys,.int .i64 yi] 225)) [zf (s0+1) [.int .u64 ya,.int .u64 ys,.int .i64 yi],zf s0 [.int .u64 xa,.int .u64 xs,.int .i64 xi]] :=
  ((Own.nil (Below.refl _ _)).alloc _ _ hs0).alloc _ _ (by simp[hs0])
 have HO:=Qq hO;have HI:=Qq hI;clear hO hI;go_enter Tryz.func166,Tryz.ntmps166
 go_upto_region 1 with fail
 rw[←hs0];clear hs0;generalize (w.alloc (.cells #[.int .u64 xa,.int .u64 xs,.int .i64 xi] 225)).alloc (.cells #[.int .u64 ya,.int .u64 ys,.int .i64 yi] 225)=W at *
 obtain⟨g0,-⟩:=HO.out.zo 1 rfl 0 _ rfl;obtain⟨g1,-⟩:=HO.out.zo 1 rfl 1 _ rfl;obtain⟨g2,-⟩:=HO.out.zo 0 rfl 0 _ rfl;obtain⟨g3,-⟩:=HO.out.zo 0 rfl 1 _ rfl;have hk:∀w',Below W.heap.size W w'→w'.cell? ⟨s0,0,none⟩=some (.int .u64 xa)∧w'.cell? ⟨s0,1,none⟩=some (.int .u64 xs)∧w'.cell? ⟨s0+1,0,none⟩=some (.int .u64 ya)∧w'.cell? ⟨s0+1,1,none⟩=some (.int .u64 ys)∧Below W.heap.size W w' :=
  fun w' hb=>⟨zj g0 hb,zj g1 hb,zj g2 hb,zj g3 hb,hb⟩
 have HK:=Qq hk;have hb1:=HO.out.bel;have HB1:=Qq hb1;clear hk g0 g1 g2 g3 hb1 HO;go_region_held3 (fun w'=>w'.cell? ⟨s0,0,none⟩=some (.int .u64 xa)∧w'.cell? ⟨s0,1,none⟩=some (.int .u64 xs)∧w'.cell? ⟨s0+1,0,none⟩=some (.int .u64 ya)∧w'.cell? ⟨s0+1,1,none⟩=some (.int .u64 ys)∧Below W.heap.size W w')
  ((refine HK.out _ ?_;repeat(first|exact Below.refl _ _|exact Ef (by assumption)|refine Below.drew ?_|refine below_drewN ?_ _|refine Below.alloc ?_ (by first|exact(Ef (by assumption):Below W.heap.size W _).size|simp) _)))
  (first
   | (go_at_call 177;refine(JB _ _ _).mono ?_;rintro r w5 ⟨rfl,rfl⟩)
   | (go_at_call 176;refine(En (XH xa ya) (XH xs ys) _ _ (by simp) (by simp)).mono ?_;rintro r w6 ⟨rfl,rfl⟩;rw[←HI.out]))
 rename_i hHeld
 have HF:=Qq (zA HB1.out (Ef hHeld))
 clear hHeld;go_wp2;go_ret;exact⟨rfl,HF.out⟩
theorem DU {p q r s t u v x:Prop}(h:p∧q∧r∧s∧t∧u∧v∧x):x:=h.2.2.2.2.2.2.2
theorem Vo (w:World)(p:Hp)(v:Value)(l:List It)(nx i j:Nat)(h:yp w p v l nx)(hi:i<l.length)(hj:j<l.length)(hl:l.length≤1000000) :
  Calls Tryz.prog 143 #[.pointer (some ⟨p.b,5,none⟩),.int .i64 (i:Int),.int .i64 (j:Int)] w fun r w'=>r=.returned (.bool (UJ (gI l i) (gI l j)))∧Below w.heap.size w w':=by
 obtain⟨h1,h2,h3⟩:=h;obtain⟨g,cap,rfl,hcap⟩:=h2.form (by omega)
 obtain⟨c0,-⟩:=h1 5 _ rfl;obtain⟨c1,c2,c3⟩:=h2.cell i hi;obtain⟨c4,c5,c6⟩:=h2.cell j hj;obtain⟨n,hn⟩:∃n,n=l.length:=⟨_,rfl⟩
 rw[←hn] at c0 hi hj hl;have hin:(i:Int)<(n:Int):=by omega
 have hjn:(j:Int)<(n:Int):=by omega
 have hcmp:=fun W=>Rz (gI l i) (gI l j) W
 have hlt:=Iv (gI l i) (gI l j)
 generalize gI l i=x at *;generalize gI l j=y at *;obtain⟨xa,xs,xi⟩:=x;obtain⟨ya,ys,yi⟩:=y;simp only at c1 c2 c3 c4 c5 c6
 unfold Ky at hcmp;simp only at hcmp
 obtain⟨c,hc⟩:∃c,c=N5 ⟨xa,xs,xi⟩ ⟨ya,ys,yi⟩:=⟨_,rfl⟩
 obtain⟨d,hd⟩:∃d,d=UJ ⟨xa,xs,xi⟩ ⟨ya,ys,yi⟩:=⟨_,rfl⟩
 rw[←hc] at hcmp;rw[←hc,←hd] at hlt;rw[←hd];have hk:∀w',Below w.heap.size w w'→w'.cell? ⟨p.b,5,none⟩=some (.slice (some ⟨g,0,none⟩) n cap)∧w'.cell? ⟨g,i*3,none⟩=some (.int .u64 xa)∧w'.cell? ⟨g,i*3+1,none⟩=some (.int .u64 xs)∧w'.cell? ⟨g,i*3+2,none⟩=some (.int .i64 xi)∧w'.cell? ⟨g,j*3,none⟩=some (.int .u64 ya)∧w'.cell? ⟨g,j*3+1,none⟩=some (.int .u64 ys)∧w'.cell? ⟨g,j*3+2,none⟩=some (.int .i64 yi)∧Below w.heap.size w w' :=
  fun w' hb=>⟨zj c0 hb,zj c1 hb,zj c2 hb,zj c3 hb,zj c4 hb,zj c5 hb,zj c6 hb,hb⟩
 have HK:=Qq hk;have HC:=Qq hcmp;have hlt':decide (c<0)=d:=by cases d<;>simp_all
 have HLT:=Qq hlt';clear hk hcmp hlt hlt' c0 c1 c2 c3 c4 c5 c6 h1 h2 h3 hc hd hn;go_enter Tryz.func143,Tryz.ntmps143
 go_wp2_with fail;go_region_held3 (fun w'=>w'.cell? ⟨p.b,5,none⟩=some (.slice (some ⟨g,0,none⟩) n cap)∧w'.cell? ⟨g,i*3,none⟩=some (.int .u64 xa)∧w'.cell? ⟨g,i*3+1,none⟩=some (.int .u64 xs)∧w'.cell? ⟨g,i*3+2,none⟩=some (.int .i64 xi)∧w'.cell? ⟨g,j*3,none⟩=some (.int .u64 ya)∧w'.cell? ⟨g,j*3+1,none⟩=some (.int .u64 ys)∧w'.cell? ⟨g,j*3+2,none⟩=some (.int .i64 yi)∧Below w.heap.size w w')
  ((refine HK.out _ ?_;repeat(first|exact Below.refl _ _|exact DU (by assumption)|refine zA ?_ hb5|refine Below.drew ?_|refine below_drewN ?_ _)))
  (first
   | (go_at_call 166;refine(HC.out _).mono ?_;rintro r w5 ⟨rfl,hb5⟩))
 rename_i hHeld
 have HF:=Qq (DU hHeld)
 clear hHeld hb5;go_wp2;go_ret;exact⟨Sz HLT.out,HF.out⟩
theorem yp.swap {w:World}{p:Hp}{g n cap:Nat}{l:List It}{nx:Nat}(h:yp w p (.slice (some ⟨g,0,none⟩) n cap) l nx)(hn:n=l.length)(i j:Nat)(hi:i<l.length)(hj:j<l.length){xa xs xi ya ys yi:Int}
  (hx:gI l i=⟨xa,xs,xi⟩) (hy:gI l j=⟨ya,ys,yi⟩) :
  yp ((((((w.setCell ⟨g,i*3,none⟩ (.int .u64 ya)).setCell ⟨g,i*3+1,none⟩ (.int .u64 ys)).setCell ⟨g,i*3+2,none⟩ (.int .i64 yi)).setCell ⟨g,j*3,none⟩ (.int .u64 xa)).setCell ⟨g,j*3+1,none⟩ (.int .u64 xs)).setCell ⟨g,j*3+2,none⟩ (.int .i64 xi)).drew p (.slice (some ⟨g,0,none⟩) n cap) (Y5 l i j) nx ∧
  zI (p.b::(Value.slice (some ⟨g,0,none⟩) n cap).ownBlock.toList) w ((((((w.setCell ⟨g,i*3,none⟩ (.int .u64 ya)).setCell ⟨g,i*3+1,none⟩ (.int .u64 ys)).setCell ⟨g,i*3+2,none⟩ (.int .i64 yi)).setCell ⟨g,j*3,none⟩ (.int .u64 xa)).setCell ⟨g,j*3+1,none⟩ (.int .u64 xs)).setCell ⟨g,j*3+2,none⟩ (.int .i64 xi)).drew:=by
 obtain⟨h1,h2,h3⟩:=h;have hgp:p.b≠g:=(h3 g (by simp[Value.ownBlock])).symm
 have k1:=h2.set i hi hn (gI l j)
 have k2:=k1.set j (by simpa using hj) (by simpa using hn) (gI l i)
 have k3:=k2.below (zg _)
 rw[hx,hy] at k3;refine⟨⟨((((((h1.Zo hgp).Zo hgp).Zo hgp).Zo hgp).Zo hgp).Zo hgp).below (zg _),?_,h3⟩,?_⟩
 ·unfold Y5;rw[hx,hy];exact k3
 ·exact(((((((zI.refl _ _).setCell _ (.inl (by simp[Value.ownBlock]))).setCell _ (.inl (by simp[Value.ownBlock]))).setCell _ (.inl (by simp[Value.ownBlock]))).setCell _ (.inl (by simp[Value.ownBlock]))).setCell _ (.inl (by simp[Value.ownBlock]))).setCell _ (.inl (by simp[Value.ownBlock]))).drew
theorem Uo (w:World)(p:Hp)(v:Value)(l:List It)(nx i j:Nat)(h:yp w p v l nx)(hi:i<l.length)(hj:j<l.length)(hl:l.length≤1000000) :
  Calls Tryz.prog 122 #[.pointer (some ⟨p.b,5,none⟩),.int .i64 (i:Int),.int .i64 (j:Int)] w fun r w'=>r=.returned (.tuple #[])∧yp w' p v (Y5 l i j) nx∧zI (p.b::v.ownBlock.toList) w w':=by
 obtain⟨h1,h2,h3⟩:=h;obtain⟨g,cap,rfl,hcap⟩:=h2.form (by omega)
 have hgp:g≠p.b:=h3 g (by simp[Value.ownBlock])
 obtain⟨c0,-⟩:=h1 5 _ rfl;obtain⟨c1,c2,c3⟩:=h2.cell i hi;obtain⟨c4,c5,c6⟩:=h2.cell j hj;have f1:=h2.free (i*3)
 have f2:=h2.free (i*3+1)
 have f3:=h2.free (i*3+2)
 have f4:=h2.free (j*3)
 have f5:=h2.free (j*3+1)
 have f6:=h2.free (j*3+2)
 obtain⟨n,hn⟩:∃n,n=l.length:=⟨_,rfl⟩
 have hsw:=fun xa xs xi ya ys yi hx hy=>yp.swap (w:=w) (nx:=nx) ⟨h1,h2,h3⟩ rfl i j hi hj (xa:=xa) (xs:=xs) (xi:=xi) (ya:=ya) (ys:=ys) (yi:=yi) hx hy
 have HSW:=Qq hsw;rw[←hn] at c0;have hin:(i:Int)<(n:Int):=by omega
 have hjn:(j:Int)<(n:Int):=by omega
 have hn6:n≤1000000:=by omega
 have HL:Hid (i<l.length∧j<l.length∧n=l.length):=Qq ⟨hi,hj,hn⟩
 have HX:=Qq (show gI l i=⟨(gI l i).at_,(gI l i).seq,(gI l i).id⟩ from rfl)
 have HY:=Qq (show gI l j=⟨(gI l j).at_,(gI l j).seq,(gI l j).id⟩ from rfl)
 have hi':i<n:=by omega
 have hj':j<n:=by omega
 rcases Nat.lt_trichotomy i j with hij|rfl|hij
 ·clear h1 h2 h3 hi hj hl hn hcap hsw
  generalize (gI l i).at_=xa at *
  generalize (gI l i).seq=xs at *
  generalize (gI l i).id=xi at *
  generalize (gI l j).at_=ya at *
  generalize (gI l j).seq=ys at *
  generalize (gI l j).id=yi at *
  have HE:=Qq (HSW.out _ _ _ _ _ _ HX.out HY.out)
  clear HSW;go_enter Tryz.func122,Tryz.ntmps122
  go_wp2_with fail;go_region
  go_wp2;go_end0
  exact⟨rfl,HE.out⟩
 ·clear h1 h2 h3 hi hj hl hn hcap hsw
  generalize (gI l i).at_=xa at *
  generalize (gI l i).seq=xs at *
  generalize (gI l i).id=xi at *
  have HE:=Qq (HSW.out _ _ _ _ _ _ HX.out HY.out)
  clear HSW;go_enter Tryz.func122,Tryz.ntmps122
  go_wp2_with fail;go_region
  go_wp2;go_end0
  exact⟨rfl,HE.out⟩
 ·clear h1 h2 h3 hi hj hl hn hcap hsw
  generalize (gI l i).at_=xa at *
  generalize (gI l i).seq=xs at *
  generalize (gI l i).id=xi at *
  generalize (gI l j).at_=ya at *
  generalize (gI l j).seq=ys at *
  generalize (gI l j).id=yi at *
  have HE:=Qq (HSW.out _ _ _ _ _ _ HX.out HY.out)
  clear HSW;go_enter Tryz.func122,Tryz.ntmps122
  go_wp2_with fail;go_region
  go_wp2;go_end0
  exact⟨rfl,HE.out⟩
abbrev xz (p:Hp) (v:Value):List Nat:=p.b::v.ownBlock.toList
theorem zI.Yq {F:List Nat}{a b c:World}(h:zI F a b)(k:zI F b c):zI F a c:=h.trans k (fun _ hx=>.inl hx)
theorem Rm (w:World)(p:Hp)(v:Value)(l:List It)(nx k0:Nat)(h:yp w p v l nx)(hk:k0<l.length)(hl:l.length≤1000000) :
  Calls Tryz.prog 123 #[.pointer (some ⟨p.b,5,none⟩),.int .i64 (k0:Int)] w fun r w'=>r=.returned (.tuple #[])∧yp w' p v (Za l k0) nx∧zI (xz p v) w w':=by
 have H:=Qq h;clear h
 have HK:=Qq hk;clear hk
 have HL:=Qq hl;clear hl
 generalize hR:Za l k0=R
 have HR:=Qq hR;clear hR
 go_enter Tryz.func123,Tryz.ntmps123
 go_wp2_with fail;go_loopw [1] (fun t wr=>∃k:Nat,∃l':List It,t=.int .i64 k∧k≤1000000∧Hid (yp wr p v l' nx∧zI (xz p v) w wr∧Za l' k=R∧l'.length=l.length∧k<l.length)) (fun t _=>(intOf t).toNat)
 case atStart=>exact⟨k0,l,rfl,by have:=HL.out;have:=HK.out;omega,H.out,zI.refl _ _,HR.out,rfl,HK.out⟩
 case round =>
  obtain⟨k,l',rfl,hkb,hr⟩:=hrel;by_cases h0:0<k
  ·obtain⟨m,hm⟩:∃m,m=(k-1) / 4:=⟨_,rfl⟩
   have hq:((k:Int)-1).tdiv 4=(m:Int):=by rw[hm,Int.tdiv_eq_ediv_of_nonneg (by omega)];omega
   have hwm:IntKind.i64.wrap (m:Int)=(m:Int):=by rw[IntKind.wrap_i64];omega
   have hmk:m<k:=by omega
   have HM:=Qq hm;clear hm
   have hc:=Vo wr p v l' nx k m hr.out.1 (by have:=hr.out;omega) (by have:=hr.out;omega) (by have:=hr.out.2.2.2.1;have:=HL.out;omega)
   cases hlt:UJ (gI l' k) (gI l' m) with
   | false =>
    rw[hlt] at hc;have HC:=Qq hc;clear hc
    have hst:Za l' k=l':=Z9 (fun h=>by rw[←HM.out,hlt] at h;exact absurd h.2 (by simp))
    have hend:∀w2,Below wr.heap.size wr w2→yp w2 p v R nx∧zI (xz p v) w w2:=fun w2 hb=>by
     have:=hr.out.2.2.1
     rw[←this,hst];exact⟨hr.out.1.below hb,hr.out.2.1.Yq (zI.zK hb)⟩
    have HE:=Qq hend;clear hst hend hlt;go_wp2_with fail;refine HC.out.mono ?_
    rintro r w2 ⟨rfl,hb⟩;have HF:=Qq (HE.out _ hb);clear hb
    go_wp2;refine bodyPost_ret (results_none rfl _ _ _) rfl ?_
    exact⟨rfl,HF.out⟩
   | true =>
    rw[hlt] at hc;have HC:=Qq hc;clear hc
    have hgo:Za l' k=Za (Y5 l' k m) m:=by have:=Ud h0 (by rw[←HM.out];exact hlt);rw[←HM.out] at this;exact this
    have hsw:∀w2,Below wr.heap.size wr w2→Calls Tryz.prog 122 #[.pointer (some ⟨p.b,5,none⟩),.int .i64 (k:Int),.int .i64 (m:Int)] w2 fun r w'=>r=.returned (.tuple #[])∧(yp w' p v (Y5 l' k m) nx∧zI (xz p v) w w'∧Za (Y5 l' k m) m=R∧(Y5 l' k m).length=l.length∧m<l.length):=fun w2 hb =>
     (Uo w2 p v l' nx k m (hr.out.1.below hb) (by have:=hr.out;omega) (by have:=hr.out;omega) (by have:=hr.out.2.2.2.1;have:=HL.out;omega)).mono fun r w' ⟨e,h1,h2⟩ =>
      ⟨e,h1,(hr.out.2.1.Yq (zI.zK hb)).Yq h2,by rw[←hgo];exact hr.out.2.2.1,by rw[yX];exact hr.out.2.2.2.1,by have:=hr.out;omega⟩
    have HSW:=Qq hsw;clear hgo hsw hlt;go_wp2_with fail;refine HC.out.mono ?_
    rintro r w2 ⟨rfl,hb⟩;have HSW2:=Qq (HSW.out _ hb);clear hb
    go_wp2_with fail;refine HSW2.out.mono ?_
    rintro r w3 ⟨rfl,h3⟩;have H3:=Qq h3;clear h3
    go_wp2;exact⟨⟨m,Y5 l' k m,rfl,by omega,H3⟩,by simp[intOf];omega⟩
  ·obtain rfl:k=0:=by omega
   have hst:Za l' 0=l':=Z9 (fun h=>by omega)
   have hend:yp wr p v R nx∧zI (xz p v) w wr:=by
    have:=hr.out.2.2.1
    rw[←this,hst];exact⟨hr.out.1,hr.out.2.1⟩
   have HE:=Qq hend;clear hst hend;go_wp2;go_end0
   exact⟨rfl,HE.out⟩
theorem XI (l:List It)(k:Nat):∀(j d:Nat),l.length≤k*4+1+j→firstF l k (j+d)=firstF l k j
 | j,0,_=>rfl
 | j,d+1,h=>by rw[←Nat.add_assoc,firstF,if_neg (by omega)];exact XI l k j d h
theorem Jm (w:World)(p:Hp)(v:Value)(l:List It)(nx k0:Nat)(h:yp w p v l nx)(hk:k0<l.length)(hl:l.length≤1000000) :
  Calls Tryz.prog 124 #[.pointer (some ⟨p.b,5,none⟩),.int .i64 (k0:Int)] w fun r w'=>r=.returned (.tuple #[])∧yp w' p v (Z3 l k0) nx∧zI (xz p v) w w':=by
 have H:=Qq h;clear h
 have HK:=Qq hk;clear hk
 obtain⟨n,hn⟩:∃n,n=l.length:=⟨_,rfl⟩
 rw[←hn] at hl;have HN:=Qq hn;clear hn
 generalize hR:Z3 l k0=R
 have HR:=Qq hR;clear hR
 go_enter Tryz.func124,Tryz.ntmps124
 go_wp2_with fail;go_loopw [1] (fun t wr=>∃k:Nat,∃l':List It,t=.int .i64 k∧k<n∧Hid (yp wr p v l' nx∧zI (xz p v) w wr∧Z3 l' k=R∧l'.length=n)) (fun t _=>n-(intOf t).toNat)
 case atStart=>exact⟨k0,l,rfl,by have:=HN.out;have:=HK.out;omega,H.out,zI.refl _ _,HR.out,HN.out.symm⟩
 case round =>
  obtain⟨k,l',rfl,hkn,hr⟩:=hrel;obtain⟨h1,h2,h3⟩:=hr.out.1;obtain⟨g,cap,hv,hcap⟩:=h2.form (by have:=hr.out.2.2.2;omega)
  rw[hr.out.2.2.2] at hv;have hb0:∀w2,Below wr.heap.size wr w2→w2.cell? ⟨p.b,5,none⟩=some (.slice (some ⟨g,0,none⟩) n cap):=fun w2 hb=>by rw[←hv];exact zj (h1 5 _ rfl).1 hb
  have HB0:=Qq hb0;have hE:∀w2,Below wr.heap.size wr w2→∀I f,I<n→f<n→Calls Tryz.prog 143 #[.pointer (some ⟨p.b,5,none⟩),.int .i64 (I:Int),.int .i64 (f:Int)] w2 fun r w'=>r=.returned (.bool (UJ (gI l' I) (gI l' f)))∧Below wr.heap.size wr w':=fun w2 hb I f h1 h2 =>
   (Vo w2 p v l' nx I f (hr.out.1.below hb) (by have:=hr.out.2.2.2;omega) (by have:=hr.out.2.2.2;omega) (by have:=hr.out.2.2.2;omega)).mono fun r w' ⟨e1,e2⟩=>⟨e1,zA hb e2⟩
  have hstop:∀w2,Below wr.heap.size wr w2→firstF l' k 4=k→yp w2 p v R nx∧zI (xz p v) w w2:=fun w2 hb hf=>by
   have:=hr.out.2.2.1
   rw[←this,XY hf];exact⟨hr.out.1.below hb,hr.out.2.1.Yq (zI.zK hb)⟩
  have hgo:∀w2 f,Below wr.heap.size wr w2→f=firstF l' k 4→f≠k→f<n→k<f∧Calls Tryz.prog 122 #[.pointer (some ⟨p.b,5,none⟩),.int .i64 (k:Int),.int .i64 (f:Int)] w2 fun r w'=>r=.returned (.tuple #[])∧(yp w' p v (Y5 l' k f) nx∧zI (xz p v) w w'∧Z3 (Y5 l' k f) f=R∧(Y5 l' k f).length=n):=fun w2 f hb hf hne hfn=>by
   have hkl:=hr.out.2.2.2;refine⟨by have:=YC l' k 4;omega,(Uo w2 p v l' nx k f (hr.out.1.below hb) (by omega) (by omega) (by omega)).mono fun r w' ⟨e,h1,h2⟩ =>
    ⟨e,h1,(hr.out.2.1.Yq (zI.zK hb)).Yq h2,?_,by rw[yX];exact hkl⟩⟩
   have:=VU (l:=l') (k:=k) (by rw[←hf];exact hne)
   rw[←hf] at this;rw[←this];exact hr.out.2.2.1
  have HE:=Qq hE;have HSTOP:=Qq hstop;have HGO:=Qq hgo;have HLEN:=Qq hr.out.2.2.2;clear h1 h2 h3 hb0 hv hcap hE hstop hgo hr;go_wp2_with fail;go_loopw [4,5] (fun tf ti w2=>∃j f:Nat,j≤4∧f<n∧tf=.int .i64 f∧ti=.int .i64 (((k*4+1+j:Nat)):Int)∧Hid (f=firstF l' k j∧Below wr.heap.size wr w2)) (fun _ ti _=>k*4+5-(intOf ti).toNat)
  case atStart=>exact⟨0,k,by omega,hkn,rfl,by first|rfl|(congr 1;omega),rfl,Below.refl _ _⟩
  case round =>
   obtain⟨j,f,hj,hfn,rfl,rfl,hi⟩:=hrel;have hcell:=HB0.out _ hi.out.2;obtain⟨I,hI⟩:∃I,I=k*4+1+j:=⟨_,rfl⟩
   rw[←hI];have HI:=Qq hI;by_cases hgo:j<4∧I<n
   ·obtain⟨z1,z2⟩:=hgo
    have hle:(I:Int)≤(k:Int)*4+4:=by omega
    have hlt:(I:Int)<(n:Int):=by omega
    have hc:=HE.out _ hi.out.2 I f z2 hfn;have hst:∀b,UJ (gI l' I) (gI l' f)=b→(if b then I else f)=firstF l' k (j+1):=fun b hb=>by
     rw[firstF,←hi.out.1,←hI];cases b with
     | true=>rw[if_pos rfl,if_pos ⟨by have:=HLEN.out;omega,hb⟩]
     | false=>rw[if_neg (by simp),if_neg (fun h=>by rw[hb] at h;exact absurd h.2 (by simp))]
    have HST:=Qq hst;clear hst;cases hlt2:UJ (gI l' I) (gI l' f) with
    | true =>
     rw[hlt2] at hc;have hs:=HST.out _ hlt2;have HC:=Qq hc;have HS:=Qq hs;clear hc hlt2 hs hI;go_wp2_with fail;refine HC.out.mono ?_
     rintro r w2 ⟨rfl,hb⟩;have hx:Hid (I=firstF l' k (j+1)∧Below _ _ w2):=⟨by simpa using HS.out,hb⟩
     clear hb;go_wp2;exact⟨⟨j+1,I,by omega,z2,rfl,by congr 1;have:=HI.out;omega,hx⟩,by have:=HI.out;simp[intOf];omega⟩
    | false =>
     rw[hlt2] at hc;have hs:=HST.out _ hlt2;have HC:=Qq hc;have HS:=Qq hs;clear hc hlt2 hs hI;go_wp2_with fail;refine HC.out.mono ?_
     rintro r w2 ⟨rfl,hb⟩;have hx:Hid (f=firstF l' k (j+1)∧Below _ _ w2):=⟨by simpa using HS.out,hb⟩
     clear hb;go_wp2;exact⟨⟨j+1,f,by omega,hfn,rfl,by congr 1;have:=HI.out;omega,hx⟩,by have:=HI.out;simp[intOf];omega⟩
   ·have hf4:f=firstF l' k 4:=by
     rw[hi.out.1];by_cases e:j=4
     ·rw[e]
     ·have:=XI l' k j (4-j) (by have:=HLEN.out;omega)
      rw[show j+(4-j)=4 by omega] at this;exact this.symm
    have HF4:=Qq hf4;have hb:=hi.out.2;have HB:=Qq hb;have hcase:(¬(I:Int)≤(k:Int)*4+4)∨((I:Int)≤(k:Int)*4+4∧¬(I:Int)<(n:Int)):=by omega
    clear hgo hI hf4 hb;by_cases hfk:f=k
    ·subst hfk
     have HEND:=Qq (HSTOP.out _ HB.out HF4.out.symm)
     rcases hcase with z1|⟨z1,z2⟩
     all_goals
      go_wp2;refine bodyPost_ret (results_none rfl _ _ _) rfl ?_
      exact⟨rfl,HEND.out⟩
    ·have hne:((f:Int)==(k:Int))=false:=by rw[beq_eq_false_iff_ne];omega
     obtain⟨hkf,hsw⟩:=HGO.out _ f HB.out HF4.out hfk hfn;have HSW:=Qq hsw;clear hsw;rcases hcase with z1|⟨z1,z2⟩
     all_goals
      go_wp2_with fail;refine HSW.out.mono ?_
      rintro r w3 ⟨rfl,h3⟩;have H3:=Qq h3;clear h3
      go_wp2;exact⟨⟨f,Y5 l' k f,rfl,hfn,H3⟩,by simp[intOf];omega⟩
theorem WU:(Tryz.prog.info? 225).map (fun i=>(i.zero,i.size,i.bytes))=some (some (.agg #[.int .u64 0,.int .u64 0,.int .i64 0]),3,24):=by kernel_rfl
theorem N1:∀w,(sizeOf (Tryz.prog.elem 111)).run Tryz.prog w=.ok 3 w:=by
 obtain⟨i0,hi,hz0,hz1,hz2⟩:=info_parts WU;intro w;have e:Tryz.prog.elem 111=225:=by kernel_rfl
 rw[e];simp[sizeOf,typeInfo,hi,hz1]
theorem SP:Tryz.prog.underlying 111=some (.slice (Tryz.prog.elem 111)):=by
 have e:Tryz.prog.elem 111=225:=by kernel_rfl
 rw[e];exact Tryz.underlying111
theorem yj.cut {w:World}{a:Option Addr}{n cap:Nat}{l:List It}(h:yj w (.slice a n cap) l)(hn:n=l.length)(m:Nat)(hm:m≤n):yj w (.slice a m cap) (l.take m):=by
 subst hn;unfold yj at h ⊢
 rw[List.length_take,Nat.min_eq_left hm,Rr];exact Q1 h m hm
theorem Qy (w:World)(p:Hp)(v:Value)(l:List It)(nx k:Nat)(h:yp w p v l nx)(hk:k<l.length)(hl:l.length≤1000000) :
  Calls Tryz.prog 104 #[.pointer (some ⟨p.b,5,none⟩),.int .i64 (k:Int)] w fun r w'=>∃v',r=.returned (.tuple #[])∧yp w' p v' (YI l k) nx∧v'.ownBlock=v.ownBlock∧zI (xz p v) w w':=by
 obtain⟨h1,h2,h3⟩:=h;obtain⟨g,cap,hv,hcap⟩:=h2.form (by omega)
 obtain⟨n,hn⟩:∃n,n=l.length:=⟨_,rfl⟩
 rw[←hn] at hv hk hl hcap;subst hv;have hgp:g≠p.b:=h3 g (by simp[Value.ownBlock])
 obtain⟨c0,-⟩:=h1 5 _ rfl;obtain⟨m,rfl⟩:∃m,n=m+1:=⟨n-1,by omega⟩
 have hsw:Calls Tryz.prog 122 #[.pointer (some ⟨p.b,5,none⟩),.int .i64 (k:Int),.int .i64 (m:Int)] w fun r w'=>r=.returned (.tuple #[])∧yp w' p (.slice (some ⟨g,0,none⟩) (m+1) cap) (Y5 l k m) nx∧zI [p.b,g] w w':=Uo w p _ l nx k m ⟨h1,h2,h3⟩ (by omega) (by omega) (by omega)
 have HN:=Qq hn;clear hn
 have hs0:∀w',(Instr.slice 111 (.slice (some ⟨g,0,none⟩) (m+1) cap) none (some (.int .i64 (m:Int))) none).run Tryz.prog w'=.ok (.slice (some ⟨g,0,none⟩) m cap) w':=fun w'=>xS w' SP N1 (some ⟨g,0,none⟩) (m+1) cap m (by omega)
 change Calls Tryz.prog 104 #[.pointer (some ⟨p.b,5,none⟩),.int .i64 (k:Int)] w fun r w'=>∃v',r=.returned (.tuple #[])∧yp w' p v' (YI l k) nx∧v'.ownBlock=some g∧zI [p.b,g] w w'
 have hstep:∀w1,yp w1 p (.slice (some ⟨g,0,none⟩) (m+1) cap) (Y5 l k m) nx∧zI [p.b,g] w w1→(yp (w1.setCell ⟨p.b,5,none⟩ (.slice (some ⟨g,0,none⟩) m cap)) p (.slice (some ⟨g,0,none⟩) m cap) ((Y5 l k m).take m) nx∧zI [p.b,g] w (w1.setCell ⟨p.b,5,none⟩ (.slice (some ⟨g,0,none⟩) m cap))):=fun w1 ⟨k1,k2⟩=>by
  have cs:zI [p.b] w1 (w1.setCell ⟨p.b,5,none⟩ (.slice (some ⟨g,0,none⟩) m cap)):=(zI.refl _ _).setCell _ (.inl (by simp))
  refine⟨⟨k1.1.set 5 _,(k1.2.1.cut (by rw[yX];exact HN.out) m (by omega)).yC cs (fun x hx=>by simp[Value.ownBlock] at hx;subst hx;simp;omega),fun x hx=>by simp[Value.ownBlock] at hx;subst hx;exact hgp⟩,k2.trans cs (fun x hx=>.inl (by simp at hx;simp[hx]))⟩
 have hlen:((Y5 l k m).take m).length=m:=by rw[List.length_take,yX,←HN.out];omega
 have hlast:k=m→(Y5 l k m).take m=YI l k:=fun e=>by
  subst e;unfold YI;rw[←HN.out,Nat.add_sub_cancel,if_pos rfl];apply List.ext_getElem (by simp[yX])
  intro i i1 i2;have e1:gI ((Y5 l k k).take k) i=gI (l.take k) i:=by
   rw[Ym (by simp at i2;omega),Ym (by simp at i2;omega),Yi (by have:=HN.out;omega) (by have:=HN.out;omega)]
   split
   ·subst_vars;rfl
   ·rfl
  rwa [XL i1,XL i2] at e1
 have hrem:k≠m→Z3 (Za ((Y5 l k m).take m) k) k=YI l k:=fun e=>by
  unfold YI;rw[←HN.out,Nat.add_sub_cancel,if_neg e]
 generalize (Y5 l k m).take m=L at *
 generalize YI l k=R at *;have HSW:=Qq hsw;have HSTEP:=Qq hstep;have HLEN:=Qq hlen;have HLAST:=Qq hlast;have HREM:=Qq hrem;clear h1 h2 h3 hsw hstep hlen hlast hrem hcap;go_enter Tryz.func104,Tryz.ntmps104
 go_wp2_with fail;refine HSW.out.mono ?_
 rintro r w1 ⟨rfl,h1⟩;have H1:=Qq h1;obtain⟨c1,f1⟩:=h1.1.1 5 _ rfl;clear h1 c0;by_cases hkm:k=m
 ·have hb:((k:Int)==(m:Int))=true:=by rw[beq_iff_eq];omega
  have h2:=HSTEP.out _ H1.out;rw[HLAST.out hkm] at h2;have HE:=Qq h2;clear h2 hkm
  go_wp2;refine bodyPost_ret (results_none rfl _ _ _) rfl ?_
  exact⟨_,rfl,HE.out.1,rfl,HE.out.2⟩
 ·have hb:((k:Int)==(m:Int))=false:=by rw[beq_eq_false_iff_ne];omega
  have hkl:k<m:=by omega
  have H2:=Qq (HSTEP.out _ H1.out)
  go_wp2_with fail;refine(Rm _ p _ L nx k H2.out.1 (by rw[HLEN.out];exact hkl) (by rw[HLEN.out];omega)).mono ?_
  rintro r w2 ⟨rfl,k1,k2⟩;have H3:=Qq k1;have C3:=Qq (H2.out.2.Yq k2)
  clear k1 k2;go_wp2_with fail;refine(Jm _ p _ _ nx k H3.out (by rw[XD (by rw[HLEN.out];exact hkl),HLEN.out];exact hkl) (by rw[XD (by rw[HLEN.out];exact hkl),HLEN.out];omega)).mono ?_
  rintro r w3 ⟨rfl,k1,k2⟩;rw[HREM.out hkm] at k1;have H4:=Qq k1;have C4:=Qq (C3.out.Yq k2)
  clear k1 k2;go_wp2;go_end0
  exact⟨_,rfl,H4.out,rfl,C4.out⟩
theorem TH (w:World)(x y z:Value)(t:TypeId){b:Nat}(hb:b=w.heap.size):∀j u,[x,y,z][j]?=some u→(w.alloc (.cells #[x,y,z] t)).cell? ((⟨b,0,none⟩:Addr).add j)=some u:=fun j u hj=>by
 rw[Addr.add_lit,Nat.zero_add];exact(zF.mk w [x,y,z] t b hb j u hj).1
theorem ND (w:World)(p:Hp)(v:Value)(l:List It)(nx:Nat)(at_ id:Int)(h:yp w p v l nx)(hl:l.length≤100000)(hnx:nx≤100000) :
  Calls Tryz.prog 163 #[.pointer (some ⟨p.b,5,none⟩),.int .u64 at_,.int .i64 id] w fun r w'=>∃v',r=.returned (.int .u64 (nx:Int))∧yp w' p v' (ZX l ⟨at_,nx,id⟩) (nx+1)∧zI (xz p v) w w'∧∀x∈xz p v',x∈xz p v∨w.heap.size≤x:=by
 have hlt:=h.lt;obtain⟨h1,h2,h3⟩:=h;obtain⟨a0,cap,rfl,hcap⟩:=h2.slice;obtain⟨n,hn⟩:∃n,n=l.length:=⟨_,rfl⟩
 rw[←hn] at h1 h2 h3 hcap hl hlt ⊢;obtain⟨c0,f0⟩:=h1 5 _ rfl;obtain⟨c1,f1⟩:=h1 6 _ rfl;have hp:=hlt.1;have H1:=Qq h1;have H2:=Qq h2;have H3:=Qq h3;have HLT:=Qq hlt;have HN:=Qq hn;have hwn:IntKind.u64.wrap ((nx:Int)+1)=(nx:Int)+1:=by rw[IntKind.wrap_u64];omega
 obtain⟨i0,hi0,hz0,hz1,hz2⟩:=info_parts WU;have Hi:=Qq hi0;clear hi0
 have Hz0:=Qq hz0;clear hz0
 have Hz1:=Qq hz1;clear hz1
 have Hz2:=Qq hz2;clear hz2
 clear h1 h2 h3 hlt hn;go_enter Tryz.func163,Tryz.ntmps163
 have hst0:∀u,yj (w.setCell ⟨p.b,6,none⟩ u) (.slice a0 n cap) l∧zF (w.setCell ⟨p.b,6,none⟩ u) p.b (p.cs (.slice a0 n cap) u)∧zI [p.b] w (w.setCell ⟨p.b,6,none⟩ u)∧(w.setCell ⟨p.b,6,none⟩ u).heap.size=w.heap.size:=fun u=>by
  have cs:zI [p.b] w (w.setCell ⟨p.b,6,none⟩ u):=(zI.refl _ _).setCell _ (.inl (by simp))
  exact⟨H2.out.yC cs (fun x hx=>by have:=H3.out x hx;simp[this]),H1.out.set 6 u,cs,World.size_setCell _ _ _⟩
 have HST0:=Qq (hst0 (.int .u64 ((nx:Int)+1)))
 clear hst0;go_upto_region 3 with fail
 generalize w.setCell ⟨p.b,6,none⟩ (.int .u64 ((nx:Int)+1))=W at *
 clear c0 f0 c1 f1;obtain⟨c0,f0⟩:=HST0.out.2.1 5 _ rfl;have hW:W.heap.size=w.heap.size:=HST0.out.2.2.2
 have HW:=Qq hW;clear hW
 have hown0:∀o,(W.alloc o).ownsRow 0 225 3 (.slice a0 n cap) n (xr l):=fun o=>by have h:=HST0.out.1.below (below_alloc1 W o);unfold yj at h;rw[←HN.out] at h;exact h
 have HOWN:=Qq hown0;clear hown0
 go_wp2_with (at_builtin;go_loud (refine wpList_append_lies _ rfl _ _ 111 rfl 0 225 i0 _ 3 24 Tryz.underlying111 Hi.out Hz0.out Hz1.out Hz2.out rfl (by decide) _ n (xr l) rfl (HOWN.out _) ⟨W.heap.size,0,none⟩ 1 1 [.int .u64 at_,.int .u64 (nx:Int),.int .i64 id] rfl rfl (TH _ _ _ _ _ rfl) (by simp[Value.oneCell']) (by omega) (by unfold maxLen;omega) (by omega) (Nat.zero_le _) (W.heap.size+1) (by simp) ?_))
 intro g c2 w1 hown hgr hat hlt;have hgp:g≠p.b:=by
  rcases hat with h|h
  ·exact H3.out g (by rw[h];simp)
  ·have:=HW.out;omega
 have hpb:p.b∉(Value.slice a0 n cap).ownBlock.toList:=fun hx=>H3.out p.b hx rfl
 have hc1:zI ((Value.slice a0 n cap).ownBlock.toList) W w1:=(zI.zK (below_alloc1 _ _)).trans (yF hgr) (fun x hx=>.inl hx)
 have hB1:=HST0.out.2.1.yC hc1 hpb;obtain⟨c1,f1⟩:=hB1 5 _ rfl;have hfin:yp (w1.setCell ⟨p.b,5,none⟩ (.slice (some ⟨g,0,none⟩) (n+1) c2)) p (.slice (some ⟨g,0,none⟩) (n+1) c2) (l++[⟨at_,nx,id⟩]) (nx+1)∧zI (xz p (.slice a0 n cap)) w (w1.setCell ⟨p.b,5,none⟩ (.slice (some ⟨g,0,none⟩) (n+1) c2))∧(g∈xz p (.slice a0 n cap)∨w.heap.size≤g):=by
  have cs:zI [p.b] w1 (w1.setCell ⟨p.b,5,none⟩ (.slice (some ⟨g,0,none⟩) (n+1) c2)):=(zI.refl _ _).setCell _ (.inl (by simp))
  have hI:yj w1 (.slice (some ⟨g,0,none⟩) (n+1) c2) (l++[⟨at_,nx,id⟩]):=by
   unfold yj;rw[List.length_append,←HN.out,Ua];exact hown
  refine⟨⟨hB1.set 5 _,hI.yC cs (fun x hx=>by simp[Value.ownBlock] at hx;subst hx;simp[hgp]),fun x hx=>by simp[Value.ownBlock] at hx;subst hx;exact hgp⟩,
   ((HST0.out.2.2.1.mono (fun x hx=>by simp at hx;simp[hx])).trans (hc1.mono (fun x hx=>by simp[xz];right;simpa using hx)) (fun x hx=>.inl hx)).trans (cs.mono (fun x hx=>by simp at hx;simp[xz,hx])) (fun x hx=>.inl hx),?_⟩
  rcases hat with h|h
  ·left;simp[xz,h]
  ·right;have:=HW.out;omega
 have HFIN:=Qq hfin;clear hfin hB1 hc1 hown hgr hat hlt hgp hpb;have hlen:(l++[(⟨at_,nx,id⟩:It)]).length=n+1:=by rw[List.length_append,←HN.out];rfl
 have HLEN:=Qq hlen;clear hlen
 go_wp2_with fail;have hc:=Rm _ p _ _ (nx+1) n HFIN.out.1 (by rw[HLEN.out];omega) (by rw[HLEN.out];omega)
 rw[show Za (l++[⟨at_,(nx:Int),id⟩]) n=ZX l ⟨at_,nx,id⟩ by unfold ZX;rw[HN.out]] at hc
 refine hc.mono ?_
 rintro r w2 ⟨rfl,k1,k2⟩;have hend:yp w2 p (.slice (some ⟨g,0,none⟩) (n+1) c2) (ZX l ⟨at_,nx,id⟩) (nx+1)∧zI (xz p (.slice a0 n cap)) w w2∧∀x∈xz p (.slice (some ⟨g,0,none⟩) (n+1) c2),x∈xz p (.slice a0 n cap)∨w.heap.size≤x:=by
  refine⟨k1,HFIN.out.2.1.trans k2 (fun x hx=>?_),fun x hx=>?_⟩
  all_goals
   simp only[xz,Value.ownBlock,Option.toList,List.mem_cons,List.not_mem_nil,or_false] at hx;rcases hx with rfl|rfl
   ·left;simp[xz]
   ·exact HFIN.out.2.2
 have HEND:=Qq hend;clear hend k1 k2 hc;go_wp2;go_ret;exact⟨_,rfl,HEND.out⟩
theorem NU (w:World)(p:Hp)(v:Value)(nx:Nat)(h:yp w p v [] nx) :
  Calls Tryz.prog 103 #[.pointer (some ⟨p.b,5,none⟩)] w fun r w'=>r=.returned (.tuple #[Ky ⟨0,0,0⟩,.bool false])∧Below w.heap.size w w':=by
 obtain⟨h1,h2,h3⟩:=h;obtain⟨a0,cap,rfl,hcap⟩:=h2.slice;obtain⟨c0,-⟩:=h1 5 _ rfl;have c0':w.cell? ⟨p.b,5,none⟩=some (.slice a0 0 cap):=c0
 have hp:=h1.lt (by simp[Hp.cs])
 clear h1 h2 h3 c0;unfold Ky;have hend:∀v0 v1 v2 o,Below w.heap.size w ((((w.alloc o).setCell ⟨w.heap.size,0,none⟩ v0).setCell ⟨w.heap.size,1,none⟩ v1).setCell ⟨w.heap.size,2,none⟩ v2):=fun v0 v1 v2 o =>
  (((below_alloc1 w o).setCell (p:=⟨w.heap.size,0,none⟩) (Nat.le_refl _) v0).setCell (p:=⟨w.heap.size,1,none⟩) (Nat.le_refl _) v1).setCell (p:=⟨w.heap.size,2,none⟩) (Nat.le_refl _) v2
 have HE:=Qq hend;clear hend
 go_enter Tryz.func103,Tryz.ntmps103
 go_wp2;exact bodyPost_ret (v:=.tuple #[.agg #[.int .u64 0,.int .u64 0,.int .i64 0],.bool false]) (by simp[results,Tryz.results103,go_sem]) rfl ⟨rfl,by first|exact HE.out _ _ _ _|exact below_alloc1 _ _⟩
theorem Kk (w:World)(p:Hp)(v:Value)(l:List It)(nx:Nat)(h:yp w p v l nx)(hl:0<l.length) :
  Calls Tryz.prog 103 #[.pointer (some ⟨p.b,5,none⟩)] w fun r w'=>r=.returned (.tuple #[Ky (gI l 0),.bool true])∧Below w.heap.size w w':=by
 obtain⟨h1,h2,h3⟩:=h;have hlt:=h2.lt;obtain⟨g,cap,rfl,hcap⟩:=h2.form hl;have hg:g<w.heap.size:=hlt g (by simp[Value.ownBlock])
 obtain⟨c0,-⟩:=h1 5 _ rfl;obtain⟨c1,c2,c3⟩:=h2.cell 0 hl;have hp:=h1.lt (by simp[Hp.cs])
 obtain⟨n,hn⟩:∃n,n=l.length:=⟨_,rfl⟩
 rw[←hn] at c0 hl;have hb0:((n:Int)==0)=false:=by rw[beq_eq_false_iff_ne];omega
 have hn0:(0:Int)<(n:Int):=by omega
 clear h1 h2 h3 hlt hn hcap;generalize gI l 0=x at *;obtain⟨xa,xs,xi⟩:=x;unfold Ky;simp only[Nat.zero_mul,Nat.zero_add] at c1 c2 c3 ⊢
 go_enter Tryz.func103,Tryz.ntmps103
 go_wp2;exact bodyPost_ret (v:=.tuple #[.agg #[.int .u64 xa,.int .u64 xs,.int .i64 xi],.bool true]) (by simp[results,Tryz.results103,go_sem]) rfl ⟨rfl,below_alloc1 _ _⟩
def wakeF:Nat→List It→Int→List It×List It
 | 0,l,_=>([],l)
 | f+1,l,now=>if 0<l.length∧(gI l 0).at_≤now then(gI l 0::(wakeF f (YI l 0) now).1,(wakeF f (YI l 0) now).2) else([],l)
def yW (l:List It)(now:Int):List It×List It:=wakeF l.length l now
theorem S8 {l:List It}{now:Int}(h:0<l.length)(h2:(gI l 0).at_≤now):yW l now=(gI l 0::(yW (YI l 0) now).1,(yW (YI l 0) now).2):=by
 unfold yW;rw[UD h];obtain⟨n,hn⟩:∃n,l.length=n+1:=⟨l.length-1,by omega⟩
 rw[hn,wakeF,if_pos ⟨h,h2⟩,Nat.add_sub_cancel]
theorem YO {l:List It}{now:Int}(h:¬(0<l.length∧(gI l 0).at_≤now)):yW l now=([],l):=by
 unfold yW;cases hn:l.length with
 | zero=>rw[wakeF]
 | succ n=>rw[wakeF,if_neg h]
def lenV:Value→Nat
 | .slice _ n _=>n
 | _=>0
def Ey (x:It):List Value:=[.int .u64 x.at_,.int .u64 x.seq,.int .i64 x.id]
def Ux (w:World)(p:Hp)(v:Value)(nx:Nat)(T:List It×List It)(now:Int)(N:Nat)(W:World)(v5:Value)(b:Nat)(pre l':List It)(v':Value)(x:It):Prop :=
 (pre++(yW l' now).1,(yW l' now).2)=T∧pre.length+l'.length=N∧yp W p v' l' nx∧v'.ownBlock=v.ownBlock∧zI (xz p v) w W∧yj W v5 pre∧(∀y∈v5.ownBlock.toList,w.heap.size≤y∧y≠b)∧zF W b (Ey x)∧w.heap.size≤b∧(0<l'.length→x=gI l' 0)
theorem Fs {w:World}{p:Hp}{v:Value}{l:List It}{nx:Nat}(h:yp w p v l nx):∀x∈xz p v,x<w.heap.size:=fun x hx=>by
 simp only[xz,List.mem_cons] at hx;rcases hx with rfl|hx
 ·exact h.lt.1
 ·exact h.lt.2 x hx
theorem Ss {p:Hp}{v v':Value}(h:v'.ownBlock=v.ownBlock):xz p v'=xz p v:=by simp only[xz,h]
def Cv (w:World)(p:Hp)(v:Value)(nx:Nat)(T:List It×List It)(r:Ending)(w':World):Prop :=
 ∃v5 v',r=.returned v5∧yj w' v5 T.1∧(∀y∈v5.ownBlock.toList,w.heap.size≤y)∧yp w' p v' T.2 nx∧v'.ownBlock=v.ownBlock∧zI (xz p v) w w'
theorem Kd (w:World)(p:Hp)(v:Value)(l:List It)(nx:Nat)(now:Int)(h:yp w p v l nx)(hl:l.length≤100000) :
  Calls Tryz.prog 91 #[.pointer (some ⟨p.b,5,none⟩),.int .u64 now] w (Cv w p v nx (yW l now)):=by
 have hft:=Fs h;have HFT:=Qq hft;clear hft
 obtain⟨T,hT⟩:∃T,T=yW l now:=⟨_,rfl⟩
 rw[←hT];have HT:=Qq hT;clear hT
 have hmin:∀W v' l',yp W p v' l' nx→Calls Tryz.prog 103 #[.pointer (some ⟨p.b,5,none⟩)] W fun r w'=>∃x ok,r=.returned (.tuple #[Ky x,.bool ok])∧(ok=true↔0<l'.length)∧(0<l'.length→x=gI l' 0)∧Below W.heap.size W w':=fun W v' l' h'=>by
  by_cases h0:0<l'.length
  ·exact(Kk W p v' l' nx h' h0).mono fun r w' ⟨e1,e2⟩=>⟨_,_,e1,by simp[h0],fun _=>rfl,e2⟩
  ·have:l'=[]:=List.length_eq_zero_iff.1 (by omega)
   subst this;exact(NU W p v' nx h').mono fun r w' ⟨e1,e2⟩=>⟨_,_,e1,by simp,fun h=>by simp at h,e2⟩
 have HMIN:=Qq hmin;clear hmin
 have H:=Qq h;clear h
 have HL:=Qq hl;clear hl
 obtain⟨i0,hi0,hz0,hz1,hz2⟩:=info_parts WU;have Hi:=Qq hi0;clear hi0
 have Hz0:=Qq hz0;clear hz0
 have Hz1:=Qq hz1;clear hz1
 have Hz2:=Qq hz2;clear hz2
 go_enter Tryz.func91,Tryz.ntmps91
 go_wp2_with fail;refine(HMIN.out w v l H.out).mono ?_
 rintro r w1 ⟨x,ok,rfl,e1,e2,b1⟩;have hst:Ux w p v nx T now l.length (w1.alloc (.cells (Ey x).toArray 225)) (.slice none 0 0) w1.heap.size [] l v x :=
  have b2:=zA b1 (below_alloc1 w1 (.cells (Ey x).toArray 225))
  ⟨by rw[HT.out];rfl,by simp,H.out.below b2,rfl,zI.zK b2,yj.nil _,fun y hy=>by simp[Value.ownBlock] at hy,zF.mk _ _ _ _ rfl,b1.size,e2⟩
 have HST:=Qq hst;have E1:=Qq e1;clear hst e1 e2 b1;obtain⟨xa,xs,xi⟩:=x;unfold Ky;unfold Ey at HST;go_wp2_with fail;go_loopw [5,6,7] (fun t5 t6 t7 wr=>∃b a5 n5 c5 pre l' v' xa xs xi ok,t5=.slice a5 n5 c5∧t6=.pointer (some ⟨b,0,none⟩)∧t7=.bool ok∧n5≤l.length∧Hid ((ok=true↔0<l'.length)∧n5=pre.length∧Ux w p v nx T now l.length wr (.slice a5 n5 c5) b pre l' v' ⟨xa,xs,xi⟩)) (fun t5 _ _ _=>l.length-lenV t5)
 case atStart=>exact⟨_,_,_,_,[],l,v,xa,xs,xi,ok,rfl,rfl,rfl,by omega,E1.out,rfl,HST.out⟩
 case round =>
  obtain⟨b,a5,n5,c5,pre,l',v',xa,xs,xi,ok,rfl,rfl,rfl,hn5,hr⟩:=hrel;obtain⟨hok,hn5',S⟩:=hr.out;obtain⟨s1,s2,s3,s4,s5,s6,s7,s8,s9,s10⟩:=S;have hexit:¬(0<l'.length∧(gI l' 0).at_≤now)→Cv w p v nx T (.returned (.slice a5 n5 c5)) wr:=fun h=>by
   rw[YO h] at s1;rw[←s1];exact⟨_,v',rfl,by simpa using s6,fun y hy=>(s7 y hy).1,s3,s4,s5⟩
  have HEXIT:=Qq hexit;clear hexit
  cases ok with
  | false =>
   have hE:=HEXIT.out (fun h=>by have:=hok.2 h.1;cases this)
   have HE:=Qq hE;clear hE hok s1 s2 s3 s4 s5 s6 s7 s8 s9 s10 hn5' hr;go_wp2;go_ret;exact HE.out
  | true =>
   have h0:0<l'.length:=hok.1 rfl
   have hx:=s10 h0;obtain⟨g0,-⟩:=s8 0 _ rfl;obtain⟨g1,-⟩:=s8 1 _ rfl;obtain⟨g2,-⟩:=s8 2 _ rfl;simp only at g0 g1 g2
   by_cases hat:xa≤now
   ·have hgo:=S8 h0 (by rw[←hx];exact hat)
    have hown0:∀o,(wr.alloc o).ownsRow 0 225 3 (.slice a5 n5 c5) n5 (xr pre):=fun o=>by have h:=s6.below (below_alloc1 wr o);unfold yj at h;rw[←hn5'] at h;exact h
    have HOWN:=Qq hown0;have HS:Hid (Ux w p v nx T now l.length wr (.slice a5 n5 c5) b pre l' v' ⟨xa,xs,xi⟩):=hr.out.2.2
    have HN5:=Qq hn5';have HGO:=Qq hgo;have HX:=Qq hx;have H0:=Qq h0;have hn5b:n5≤100000:=by have:=HL.out;omega
    clear s1 s2 s3 s4 s5 s6 s7 s8 s9 s10 hok hn5' hgo hx hr hown0 h0 HEXIT;go_wp2_with (at_builtin;go_loud (refine wpList_append_lies _ rfl _ _ 111 rfl 0 225 i0 _ 3 24 Tryz.underlying111 Hi.out Hz0.out Hz1.out Hz2.out rfl (by decide) _ n5 (xr pre) rfl (HOWN.out _) ⟨wr.heap.size,0,none⟩ 1 1 [.int .u64 xa,.int .u64 xs,.int .i64 xi] rfl rfl (TH _ _ _ _ _ rfl) (by simp[Value.oneCell']) (by omega) (by unfold maxLen;omega) (by omega) (Nat.zero_le _) (wr.heap.size+1) (by simp) ?_))
    intro g c2 w2 hown hgr hlies hglt;obtain⟨s1,s2,s3,s4,s5,s6,s7,s8,s9,s10⟩:=HS.out;have hc1:zI ((Value.slice a5 n5 c5).ownBlock.toList) wr w2:=(zI.zK (below_alloc1 _ _)).trans (yF hgr) (fun x hx=>.inl hx)
    have hfl:∀y∈xz p v',y<w.heap.size:=by rw[Ss s4];exact HFT.out
    have hH2:yp w2 p v' l' nx:=s3.yC hc1 (fun hp=>by have:=(s7 p.b hp).1;have:=hfl p.b (by simp[xz]);omega) (fun y hy hy2=>by have:=(s7 y hy2).1;have:=hfl y (by simp only[xz,List.mem_cons];exact .inr hy);omega)
    have hB2:zF w2 b (Ey ⟨xa,xs,xi⟩):=s8.yC hc1 (fun hb=>(s7 b hb).2 rfl)
    have hI2:yj w2 (.slice (some ⟨g,0,none⟩) (n5+1) c2) (pre++[⟨xa,xs,xi⟩]):=by
     unfold yj;rw[List.length_append,←HN5.out,Ua];exact hown
    have hgw:w.heap.size≤g:=by
     rcases hlies with h|h
     ·exact(s7 g (by rw[h];simp)).1
     ·have:=s5.size;omega
    have hsz2:w.heap.size≤w2.heap.size:=Nat.le_trans s5.size hc1.size
    have hC2:zI (xz p v) w w2:=s5.trans hc1 (fun y hy=>.inr (s7 y hy).1)
    have hbw:b<w2.heap.size:=hB2.lt (by simp[Ey])
    have hrem:=Qy w2 p v' l' nx 0 hH2 H0.out (by have:=HL.out;omega)
    rw[Ss s4] at hrem;have HREM:=Qq hrem;have HI2:=Qq hI2;have HB2:=Qq hB2;have HC2:=Qq hC2;have HG:Hid (w.heap.size≤g∧w.heap.size≤b∧b<w2.heap.size∧g<w2.heap.size∧w.heap.size≤w2.heap.size):=⟨hgw,s9,hbw,hglt,hsz2⟩
    have HT2:Hid (v'.ownBlock=v.ownBlock∧pre.length+l'.length=l.length∧(pre++(yW l' now).1,(yW l' now).2)=T):=⟨s4,s2,s1⟩
    clear s1 s2 s3 s4 s5 s6 s7 s8 s9 s10 hc1 hfl hH2 hB2 hI2 hgw hC2 hrem hown hgr hlies hglt hbw hsz2 HOWN g0 g1 g2;go_wp2_with fail;refine HREM.out.mono ?_
    rintro r w3 ⟨v3,rfl,k1,k2,k3⟩;have hB3:zF w3 b (Ey ⟨xa,xs,xi⟩):=HB2.out.yC k3 (fun hb=>by have:=HFT.out b hb;have:=HG.out.2.1;omega)
    have hI3:=HI2.out.yC k3 (fun y hy hy2=>by simp[Value.ownBlock] at hy;subst hy;have:=HFT.out y hy2;have:=HG.out.1;omega)
    obtain⟨g0,-⟩:=hB3 0 _ rfl;obtain⟨g1,-⟩:=hB3 1 _ rfl;obtain⟨g2,-⟩:=hB3 2 _ rfl;simp only at g0 g1 g2
    have hsz3:=k3.size;have HB3:=Qq hB3;have HI3:=Qq hI3;have H3:=Qq k1;have HV3:=Qq (k2.trans HT2.out.1)
    have HC3:=Qq (HC2.out.Yq k3)
    clear hB3 hI3 k1 k2 k3;go_wp2_with fail;obtain⟨b',hb'⟩:∃b',b'=w3.heap.size:=⟨_,rfl⟩
    have hNB:=zF.mk w3 [.int .u64 xa,.int .u64 xs,.int .i64 xi] 225 b' hb'
    have hbel4:=below_alloc1 w3 (.cells #[.int .u64 xa,.int .u64 xs,.int .i64 xi] 225)
    refine(HMIN.out _ v3 _ (H3.out.below hbel4)).mono ?_
    rintro r w4 ⟨y,ok',rfl,e1,e2,b4⟩;obtain⟨ya,ys,yi⟩:=y;unfold Ky;have hbx:w.heap.size≤b'∧g≠b':=⟨by have:=HG.out;omega,by have:=HG.out;omega⟩
    have hfoot:∀y∈xz p v3,y∉[b']:=fun y hy hc=>by rw[Ss HV3.out] at hy;have:=HFT.out y hy;simp at hc;omega
    have hb34:=zA hbel4 b4;have hst:Ux w p v nx T now l.length (((w4.setCell ⟨b',0,none⟩ (.int .u64 ya)).setCell ⟨b',1,none⟩ (.int .u64 ys)).setCell ⟨b',2,none⟩ (.int .i64 yi)) (.slice (some ⟨g,0,none⟩) (n5+1) c2) b' (pre++[⟨xa,xs,xi⟩]) (YI l' 0) v3 ⟨ya,ys,yi⟩:=by
     have cs:zI [b'] w4 (((w4.setCell ⟨b',0,none⟩ (.int .u64 ya)).setCell ⟨b',1,none⟩ (.int .u64 ys)).setCell ⟨b',2,none⟩ (.int .i64 yi)):=(((zI.refl _ _).setCell _ (.inl (by simp))).setCell _ (.inl (by simp))).setCell _ (.inl (by simp))
     refine⟨?_,?_,((H3.out.below hb34).yC cs (fun hp=>hfoot p.b (by simp[xz]) hp) (fun y hy=>hfoot y (by simp only[xz,List.mem_cons];exact .inr hy))),HV3.out,(HC3.out.Yq (zI.zK hb34)).trans cs (fun y hy=>.inr (by simp at hy;omega)),(HI3.out.below hb34).yC cs (fun y hy=>by simp[Value.ownBlock] at hy;subst hy;simp;exact hbx.2),fun y hy=>?_,(((hNB.below b4).set 0 _).set 1 _).set 2 _,hbx.1,e2⟩
     ·rw[←HT2.out.2.2,HGO.out,←HX.out];simp
     ·have:=UD H0.out;have:=HT2.out.2.1;have:=H0.out;rw[List.length_append,List.length_singleton];omega
     ·simp[Value.ownBlock] at hy;subst hy;exact⟨HG.out.1,hbx.2⟩
    obtain⟨j0,m0⟩:=(hNB.below b4) 0 _ rfl
    obtain⟨j1,m1⟩:=(hNB.below b4) 1 _ rfl
    obtain⟨j2,m2⟩:=(hNB.below b4) 2 _ rfl
    have HST':=Qq hst;have hn6:n5+1=(pre++[(⟨xa,xs,xi⟩:It)]).length:=by rw[List.length_append,←HN5.out];rfl
    have hn7:n5+1≤l.length:=by have:=HT2.out.2.1;have:=H0.out;have:=HN5.out;omega
    have HF:Hid ((ok'=true↔0<(YI l' 0).length)∧n5+1=(pre++[(⟨xa,xs,xi⟩:It)]).length∧Ux w p v nx T now l.length (((w4.setCell ⟨b',0,none⟩ (.int .u64 ya)).setCell ⟨b',1,none⟩ (.int .u64 ys)).setCell ⟨b',2,none⟩ (.int .i64 yi)) (.slice (some ⟨g,0,none⟩) (n5+1) c2) b' (pre++[⟨xa,xs,xi⟩]) (YI l' 0) v3 ⟨ya,ys,yi⟩):=⟨e1,hn6,HST'.out⟩
    rw[←hb']
    clear hst hb34 hfoot hbx b4 e1 e2 hNB hbel4 hb' hn6 hsz3 g0 g1 g2 HST';go_wp2;exact⟨⟨b',_,_,_,_,_,v3,ya,ys,yi,ok',rfl,rfl,rfl,hn7,HF⟩,by simp[lenV];omega⟩
   ·have hE:=HEXIT.out (fun h=>by rw[←hx] at h;exact hat h.2)
    have HE:=Qq hE;have hng:¬xa≤now:=hat
    clear hE hok s1 s2 s3 s4 s5 s6 s7 s8 s9 s10 hn5' hr hx h0 hat;go_wp2;go_ret;exact HE.out
def XJ (w:World)(r:Nat)(es:List MapEntry)(c:Nat):Prop:=w.heap[r]?=some (.map es.toArray c)
theorem XJ.lt {w:World}{r c:Nat}{es:List MapEntry}(h:XJ w r es c):r<w.heap.size:=(Array.getElem?_eq_some_iff.1 h).1
theorem Wl {P:Program}{w:World}{mty kt et:TypeId}{r c:Nat}{n:Int}{val:Value}{es:List MapEntry}(hm:P.underlying mty=some (.map kt et))(hk:P.underlying kt=some (.int .i64))(hb:XJ w r es c)
  (hf:Instr.findNow (.int .i64) (.int .i64 n) es 0=some none) :
  (Instr.mapUpdate mty (.map (some r)) (.int .i64 n) val).run P w=.ok () { w with heap:=w.heap.setIfInBounds r (.map (es++[(⟨.int .i64 n,val,c⟩:MapEntry)]).toArray (c+1)) }:=by
 have hc:(Instr.checkKey false 10000 kt (.int .i64 n)).run P w=.ok () w:=MapKept.run_checkKey (k:=.int .i64 n) hk (by simp[MapKept.IsKey]) false 9999
 have hb':w.heap[r]?=some (.map es.toArray c):=hb
 simp[Instr.mapUpdate,run_underlying hm,MapKept.run_getObj_map hb',hc,MapKept.run_findKey hk hf,MapKept.run_setObj_map _ hb',Result.andThen]
theorem WD {P:Program}{w:World}{ops:Array Oper}{rest:List Oper}{o:Oper}{a:Act}{Q:Exit→Act→World→Prop}
  (hg:o.guard=none) (m x v:Operand) (t:TypeId) (hop:o.op=Op.insert t m x v) {kt et:TypeId} {r c:Nat} (n:Int) (val:Value) (es:List MapEntry) (hm:P.underlying t=some (.map kt et)) (hk:P.underlying kt=some (.int .i64))
  (he:a.eval m=.map (some r)) (hx:a.eval x=.int .i64 n) (hv:a.eval v=val) (hb:XJ w r es c) (hf:Instr.findNow (.int .i64) (.int .i64 n) es 0=some none)
  (hK:∀w',XJ w' r (es++[(⟨.int .i64 n,val,c⟩:MapEntry)]) (c+1)→zI [r] w w'→wpList P ops Q rest (a.put o.dst undef) w'):wpList P ops Q (o::rest) a w:=by
 refine wpList_plain hg fun K' hK'=>?_
 have hrun:=Wl (P:=P) (w:=w) (n:=n) (val:=val) hm hk hb hf
 unfold Oper.wp;simp[execOp,hop,he,hx,hv,hrun,Result.andThen]
 refine hK' _ _ (by
  have h:=hK { w with heap:=w.heap.setIfInBounds r (.map (es++[(⟨.int .i64 n,val,c⟩:MapEntry)]).toArray (c+1)) } ?_ ?_
  ·simpa using h
  ·unfold XJ;simp[hb.lt]
  ·refine⟨rfl,rfl,rfl,by simp,fun k hk hn=>?_⟩
   simp[Array.getElem?_setIfInBounds]
   intro e;subst e;simp at hn)
def Gz (k:Nat):Value:=.func (.func k) #[] #[]
def TJ:List MapEntry:=[⟨.int .i64 0,Gz 146,0⟩,⟨.int .i64 1,Gz 147,1⟩,⟨.int .i64 2,Gz 148,2⟩,⟨.int .i64 3,Gz 149,3⟩,
 ⟨.int .i64 4,Gz 150,4⟩,⟨.int .i64 5,Gz 151,5⟩,⟨.int .i64 6,Gz 152,6⟩,⟨.int .i64 7,Gz 153,7⟩,⟨.int .i64 8,Gz 154,8⟩]
theorem Ts (w:World):Calls Tryz.prog 129 #[] w fun e w'=>e=.returned (.map (some w.heap.size))∧XJ w' w.heap.size TJ 9∧Below w.heap.size w w':=by
 have hmm:∀(w:World),(Instr.makeMap 260 none).run Tryz.prog w=.ok (.map (some w.heap.size)) (w.alloc (.map #[] 0)):=fun w=>run_makeMap_plain w _
 have h0:XJ (w.alloc (.map #[] 0)) w.heap.size [] 0:=heap_alloc_new w _
 have b0:Below w.heap.size w (w.alloc (.map #[] 0)):=below_alloc1 _ _
 have st:∀w1 w2:World,Below w.heap.size w w1→zI [w.heap.size] w1 w2→Below w.heap.size w w2:=fun _ _ h c=>zI.below h c (fun x hx=>by simp at hx;omega)
 have ST:=Qq st;clear st;go_enter Tryz.func129,Tryz.ntmps129
 go_wp2_with (refine WD rfl _ _ _ 260 rfl _ _ _ Tryz.underlying260 Tryz.underlying84 (by rfl) (by rfl) (by rfl) (by assumption) (by rfl) ?_;intro w1 h1 c1;have b1:=ST.out _ _ (by assumption) c1;clear c1)
 go_ret;exact⟨rfl,h1,b1⟩
def ZM (fn arg into:Int):List Int:=[fn,0,arg,0,0,0,0,0,0,0,into]
structure zR (w:World) (g n cap:Nat) (z:List Int):Prop where
 len:z.length=n*11
 room:n≤cap
 lt:g<w.heap.size
 yf:zF w g (zr z)
theorem zR.yC {F:List Nat}{w w':World}{g n cap:Nat}{z:List Int}(h:zR w g n cap z)(c:zI F w w')(hg:g∉F):zR w' g n cap z :=
 ⟨h.len,h.room,Nat.lt_of_lt_of_le h.lt c.size,h.yf.yC c hg⟩
theorem zR.below {w w':World}{g n cap:Nat}{z:List Int}(h:zR w g n cap z)(hb:Below w.heap.size w w'):zR w' g n cap z:=h.yC (zI.zK (F:=[]) hb) (by simp)
theorem zR.cell {w:World}{g n cap:Nat}{z:List Int}(h:zR w g n cap z)(j:Nat)(hj:j<n*11):∃x,z[j]?=some x∧w.cell? ⟨g,j,none⟩=some (.int .i64 x)∧w.frozen? ⟨g,j,none⟩=false:=by
 have hl:j<z.length:=by rw[h.len];exact hj
 obtain⟨h1,h2⟩:=h.yf j _ (XB z j hl)
 exact⟨z[j],List.getElem?_eq_getElem hl,h1,h2⟩
theorem zR.at {w:World}{g n cap:Nat}{z:List Int}(h:zR w g n cap z){j:Nat}{x:Int}(hj:z[j]?=some x):w.cell? ⟨g,j,none⟩=some (.int .i64 x)∧w.frozen? ⟨g,j,none⟩=false :=
 h.yf j _ (by rw[xJ,hj];rfl)
theorem zR.set {w:World}{g n cap:Nat}{z:List Int}(h:zR w g n cap z)(k:Nat)(x:Int):zR (w.setCell ⟨g,k,none⟩ (.int .i64 x)) g n cap (z.set k x) :=
 ⟨by rw[List.length_set];exact h.len,h.room,by rw[World.size_setCell];exact h.lt,by
  have:=h.yf.set k (.int .i64 x)
  have e:zr (z.set k x)=(zr z).set k (.int .i64 x):=by unfold zr;rw[List.map_set]
  rw[e];exact this⟩
theorem zR.take {w:World}{g n cap:Nat}{z:List Int}(h:zR w g n cap z)(m:Nat)(hm:m≤n):zR w g m cap (z.take (m*11)) :=
 ⟨by rw[List.length_take,h.len];omega,by have:=h.room;omega,h.lt,fun j v hj=>by
  rw[xJ,List.getElem?_take] at hj
  split at hj
  ·exact h.yf j v (by rw[xJ];exact hj)
  ·simp at hj⟩
theorem zR.xO {w:World}{base n g cap:Nat}{e:TypeId}{z:List Int}(h:w.ownsRow base e 11 (.slice (some ⟨g,0,none⟩) n cap) n (zr z)):zR w g n cap z:=by
 have hl:z.length=n*11:=by have:=h.1;rw[yE] at this;exact this
 rcases h.2 with⟨hv,_⟩|⟨g',cap',cur,hv,hb,hg,h1,h2,h3,h4⟩
 ·simp at hv
 ·simp only[Value.slice.injEq,Option.some.injEq,Addr.mk.injEq,and_true,true_and] at hv
  obtain⟨rfl,rfl⟩:=hv;refine⟨hl,h1,(Array.getElem?_eq_some_iff.1 hg).1,fun j v hj=>?_⟩
  have hj':cur[j]?=some v:=by
   rw[←h4,List.getElem?_take] at hj
   split at hj
   ·simpa using hj
   ·simp at hj
  constructor
  ·rw[cell_of_row _ _ _ _ _ _ hg];exact hj'
  ·simp[World.frozen?,hg]
def DR (fn arg into:Int):Value:=.agg #[.int .i64 fn,.int .i64 0,.int .i64 arg,.int .i64 0,.int .i64 0,.int .i64 0,.int .i64 0,.int .i64 0,.int .i64 0,.int .i64 0,.int .i64 into]
theorem Tb (fn arg into:Int)(w:World):Calls Tryz.prog 88 #[.int .i64 fn,.int .i64 arg,.int .i64 into] w fun e w'=>e=.returned (.agg #[.int .i64 fn,.int .i64 0,.int .i64 arg,.int .i64 0,.int .i64 0,.int .i64 0,.int .i64 0,.int .i64 0,.int .i64 0,.int .i64 0,.int .i64 into])∧Below w.heap.size w w':=by
 go_enter Tryz.func88,Tryz.ntmps88
 go_wp2_with fail;exact bodyPost_ret (v:=DR fn arg into) (by simp[results,Tryz.results88,go_sem,DR]) rfl ⟨rfl,below_alloc1 _ _⟩
theorem OX (fn arg:Int)(w:World):Calls Tryz.prog 80 #[.int .i64 fn,.int .i64 arg] w fun e w'=>∃g,e=.returned (.slice (some ⟨g,0,none⟩) 1 1)∧w.heap.size≤g∧zR w' g 1 1 (ZM fn arg 0)∧Below w.heap.size w w':=by
 go_enter Tryz.func80,Tryz.ntmps80
 go_wp2_with (go_at_call 88;refine(Tb _ _ _ _).mono ?_;rintro e w1 ⟨rfl,hb1⟩)
 go_ret;exact⟨w1.heap.size,rfl,hb1.size,⟨rfl,Nat.le_refl _,by simp,zF.mk w1 (zr (ZM fn arg 0)) _ _ rfl⟩,zA hb1 (below_alloc1 _ _)⟩
theorem WL (g m cap:Nat)(w:World)(hm:m≤1000):Calls Tryz.prog 112 #[.slice (some ⟨g,0,none⟩) (m+1) cap] w fun e w'=>e=.returned (.pointer (some ⟨g,m*11,none⟩))∧w'=w:=by
 go_enter Tryz.func112,Tryz.ntmps112
 go_wp2_with fail;go_ret;exact⟨rfl,rfl⟩
theorem IX (g m cap:Nat)(w:World)(hm:m≤1000):Calls Tryz.prog 112 #[.slice (some ⟨g,0,none⟩) (m+2) cap] w fun e w'=>e=.returned (.pointer (some ⟨g,(m+1)*11,none⟩))∧w'=w:=by
 have h2:((m:Int)+2-1).toNat=m+1:=by omega
 go_enter Tryz.func112,Tryz.ntmps112
 go_wp2_with fail;go_ret;exact⟨rfl,rfl⟩
theorem Pd:(Tryz.prog.info? 216).map (fun i=>(i.zero,i.size,i.bytes))=some (some (.agg #[.int .i64 0,.int .i64 0,.int .i64 0,.int .i64 0,.int .i64 0,.int .i64 0,.int .i64 0,.int .i64 0,.int .i64 0,.int .i64 0,.int .i64 0]),11,88):=by kernel_rfl
theorem JI {w:World}{base size n:Nat}{e:TypeId}{v:Value}{xs:List Value}(h:w.ownsRow base e size v n xs)(hn:0<n):∃g cap,v=.slice (some ⟨g,0,none⟩) n cap:=by
 rcases h.2 with⟨_,h0⟩|⟨g,cap,cur,hv,_⟩
 ·omega
 ·exact⟨g,cap,hv⟩
theorem V5 {w:World}{g n c0 cap m c:Nat}{z z2:List Int}(h:zR w g n cap z)(ad:Addr)(hl:z2.length=m*11)(hc:∀j u,(zr z2)[j]?=some u→w.cell? (ad.add j)=some u)(hg:c0<n+m)(hm:n+m≤1000) :
  ∃g' cap' w',(Builtin.append_ #[157,157] 157 #[.slice (some ⟨g,0,none⟩) n c0,.slice (some ad) m c]).run Tryz.prog w=.ok (.slice (some ⟨g',0,none⟩) (n+m) cap') w'∧zR w' g' (n+m) cap' (z++z2)∧w.heap.size≤g'∧Below w.heap.size w w':=by
 obtain⟨i0,hi0,hz0,hz1,hz2⟩:=info_parts Pd;obtain⟨v',w',hr,h1,h2⟩:=run_append_arg_grows (P:=Tryz.prog) w 157 157 216 i0 _ 11 88 Tryz.underlying157 hi0 hz0 hz1 hz2 rfl (by decide) ⟨g,0,none⟩ n c0 (zr z) (by rw[yE,h.len]) (fun j u hj=>by rw[Addr.add_lit,Nat.zero_add];exact(h.yf j u hj).1) ad m c (zr z2) (by rw[yE,hl]) hc hg (by unfold maxLen;omega) (by omega)
 obtain⟨g',cap',rfl⟩:=JI h1 (by omega)
 rw[←ZT] at h1;refine⟨g',cap',w',hr,.xO h1,?_,(yF h2).VY (by simp) (Nat.le_refl _)⟩
 rcases h1.2 with⟨hv,_⟩|⟨g2,cp,cur,hv,hb,_⟩
 ·simp at hv
 ·simp only[Value.slice.injEq,Option.some.injEq,Addr.mk.injEq] at hv
  omega
theorem Vw {w:World}{ops:Array Oper}{o:Oper}{ac:Act}{K:Act→World→Prop}{Q:Exit→Act→World→Prop}{E:Prop}(hgd:o.guard=none)(sl x:Operand)(hty:o.type=157)
  (ho:o.op=.call { callee:=.builtin .append,args:=#[sl,x],argTypes:=#[157,157] }) {g n c0 cap m c:Nat} {z z2:List Int} (ad:Addr) (hs:ac.eval sl=.slice (some ⟨g,0,none⟩) n c0) (hx:ac.eval x=.slice (some ad) m c)
  (ha:zR w g n cap z) (hl:z2.length=m*11) (hc:∀j u,(zr z2)[j]?=some u→w.cell? (ad.add j)=some u) (hg:c0<n+m) (hm:n+m≤1000)
  (h:∀g' cap' w',zR w' g' (n+m) cap' (z++z2)→w.heap.size≤g'→Below w.heap.size w w'→K (ac.put o.dst (.slice (some ⟨g',0,none⟩) (n+m) cap')) w'):if Region.wanted o (yielded ops ac.tmps)=true then Oper.wp Tryz.prog o ac w K Q else E:=by
 have hw:Region.wanted o (yielded ops ac.tmps)=true:=by simp[Region.wanted,hgd]
 rw[if_pos hw];obtain⟨g',cap',w',hr,h2,h3,h4⟩:=V5 (w:=w) (c:=c) ha ad hl hc hg hm
 unfold Oper.wp execOp;simp only[ho,resolve,invoke,builtin,Sem.run_bind,Sem.run_pure,Result.andThen_ok,List.map_toArray,List.map_cons,List.map_nil,hs,hx,hty,hr];exact h g' cap' w' h2 h3 h4
theorem Wu {w:World}{ops:Array Oper}{rest:List Oper}{o:Oper}{a:Act}{Q:Exit→Act→World→Prop}(hgd:o.guard=none)(sl x:Operand)(hty:o.type=157)
  (ho:o.op=.call { callee:=.builtin .append,args:=#[sl,x],argTypes:=#[157,157] }) {g n c0 cap m c:Nat} {z z2:List Int} (ad:Addr) (hs:a.eval sl=.slice (some ⟨g,0,none⟩) n c0) (hx:a.eval x=.slice (some ad) m c)
  (ha:zR w g n cap z) (hl:z2.length=m*11) (hc:∀j u,(zr z2)[j]?=some u→w.cell? (ad.add j)=some u) (hg:c0<n+m) (hm:n+m≤1000)
  (h:∀g' cap' w',zR w' g' (n+m) cap' (z++z2)→w.heap.size≤g'→Below w.heap.size w w'→wpList Tryz.prog ops Q rest (a.put o.dst (.slice (some ⟨g',0,none⟩) (n+m) cap')) w'):wpList Tryz.prog ops Q (o::rest) a w:=by
 refine wpList_plain hgd fun K hK=>?_
 obtain⟨g',cap',w',hr,h2,h3,h4⟩:=V5 (w:=w) (c:=c) ha ad hl hc hg hm
 unfold Oper.wp execOp;simp only[ho,resolve,invoke,builtin,Sem.run_bind,Sem.run_pure,Result.andThen_ok,List.map_toArray,List.map_cons,List.map_nil,hs,hx,hty,hr];exact hK _ _ (h g' cap' w' h2 h3 h4)
theorem Py (g n cap:Nat)(z:List Int)(w:World)(h:zR w g n cap z)(h1:1≤n)(h2:n≤1000):Calls Tryz.prog 178 #[.slice (some ⟨g,0,none⟩) n cap] w fun e w'=>∃g' cap',e=.returned (.slice (some ⟨g',0,none⟩) n cap')∧w.heap.size≤g'∧zR w' g' n cap' z∧Below w.heap.size w w':=by
 have he:∀w:World,(binOp .eql 157 (.slice (some ⟨g,0,none⟩) n cap) (.slice none 0 0)).run Tryz.prog w=.ok (.bool false) w:=fun _=>rfl
 have h0:zR (w.alloc (.cells #[] 216)) w.heap.size 0 0 []:=⟨rfl,Nat.le_refl _,by simp,fun j v hj=>by simp[zr] at hj⟩
 have hc:∀j u,(zr z)[j]?=some u→(w.alloc (.cells #[] 216)).cell? ((⟨g,0,none⟩:Addr).add j)=some u:=fun j u hj=>by rw[Addr.add_lit,Nat.zero_add];exact zj (h.yf j u hj).1 (below_alloc1 _ _)
 have H0:=Qq h0;have HC:=Qq hc;have H:=Qq h;clear h h0 hc;go_enter Tryz.func178,Tryz.ntmps178
 go_wp2_with (at_builtin;go_loud (refine Wu rfl _ _ rfl rfl (z:=[]) (z2:=z) _ rfl rfl H0.out H.out.len HC.out (by omega) (by omega) ?_);intro g1 c1 w1 k1 k2 k3)
 go_ret;exact⟨g1,c1,by simp,Nat.le_trans (by simp) k2,by simpa using k1,zA (below_alloc1 _ _) k3⟩
theorem WH (g n cap:Nat)(z:List Int)(w:World)(h:zR w g n cap z)(h1:1≤n)(h2:n≤1000):Calls Tryz.prog 168 #[.slice (some ⟨g,0,none⟩) n cap] w fun e w'=>∃g' cap',e=.returned (.slice (some ⟨g',0,none⟩) n cap')∧w.heap.size≤g'∧zR w' g' n cap' z∧Below w.heap.size w w':=by
 go_enter Tryz.func168,Tryz.ntmps168
 go_wp2_with (go_at_call 178;refine(Py _ _ _ _ _ h h1 h2).mono ?_;rintro e w1 ⟨g',cap',rfl,hg,hs,hb⟩)
 go_ret;exact⟨g',cap',rfl,hg,hs,hb⟩
theorem Jw (g n cap:Nat)(z:List Int)(fn arg into:Int)(w:World)(h:zR w g n cap z)(h1:1≤n)(h2:n≤15):Calls Tryz.prog 155 #[.slice (some ⟨g,0,none⟩) n cap,.int .i64 fn,.int .i64 arg,.int .i64 into] w fun e w'=>∃g' cap',e=.returned (.tuple #[.slice (some ⟨g',0,none⟩) (n+1) cap',.bool true])∧w.heap.size≤g'∧zR w' g' (n+1) cap' (z++ZM fn arg into)∧Below w.heap.size w w':=by
 have hroom:=h.room;have H:=Qq h;have HB:=Qq (Below.refl w.heap.size w)
 clear h;go_enter Tryz.func155,Tryz.ntmps155
 go_upto_region 3 with fail
 go_region_held3 (fun w'=>Below w.heap.size w w') (first|exact zg _|assumption|(refine zA ?_ (below_alloc1 _ _);assumption)|(refine zA ?_ ‹_›;assumption))
  (first
   | (refine Vw (by rfl) _ _ (by rfl) (by rfl) (z:=z) (z2:=ZM fn arg into) _ (by rfl) (by rfl) (H.out.below (by assumption)) (by rfl) (fun j u hj=>by rw[Addr.add_lit,Nat.zero_add];exact(zF.mk _ (zr (ZM fn arg into)) _ _ rfl j u hj).1) (by omega) (by omega) ?_;intro g1 c1 w1 k1 k2 k3)
   | (go_at_call 88;refine(Tb _ _ _ _).mono ?_;rintro e w1 ⟨rfl,hb1⟩))
 go_wp2_with fail;go_ret2
 exact⟨g1,c1,rfl,by have:=hb1.size;simp at k2 this;omega,k1,by assumption⟩
theorem MC (g cap:Nat)(z:List Int)(fn arg into:Int)(w:World)(h:zR w g 16 cap z):Calls Tryz.prog 155 #[.slice (some ⟨g,0,none⟩) 16 cap,.int .i64 fn,.int .i64 arg,.int .i64 into] w fun e w'=>∃g' cap',e=.returned (.tuple #[.slice (some ⟨g',0,none⟩) 16 cap',.bool false])∧Below w.heap.size w w':=by
 have H:=Qq h;clear h;go_enter Tryz.func155,Tryz.ntmps155
 go_wp2_with (go_at_call 168;refine(WH _ _ _ _ _ H.out (by omega) (by omega)).mono ?_;rintro e w1 ⟨g',cap',rfl,hg,hs,hb⟩)
 go_ret2
 exact⟨g',cap',rfl,hb⟩
theorem SY (g cap:Nat)(v:Int)(w:World):Calls Tryz.prog 156 #[.slice (some ⟨g,0,none⟩) 1 cap,.int .i64 v] w fun e w'=>e=.returned (.tuple #[.slice none 0 0,.bool false])∧w=w':=by
 go_enter Tryz.func156,Tryz.ntmps156
 go_wp2_with fail;go_ret2
 exact⟨rfl,rfl⟩
theorem Q8 (g m cap:Nat)(z:List Int)(v:Int)(k:Nat)(w:World)(h:zR w g (m+2) cap z)(h2:m≤14)(hk:z[m*11+21]?=some (k:Int))(hk8:k<8) :
  Calls Tryz.prog 156 #[.slice (some ⟨g,0,none⟩) (m+2) cap,.int .i64 v] w fun e w'=>∃g' cap',e=.returned (.tuple #[.slice (some ⟨g',0,none⟩) (m+1) cap',.bool true])∧w.heap.size≤g'∧zR w' g' (m+1) cap' ((z.take ((m+1)*11)).set (m*11+2+k) v)∧Below w.heap.size w w':=by
 have hroom:=h.room;have H:=Qq h;have HK:=Qq hk;clear h hk;go_enter Tryz.func156,Tryz.ntmps156
 go_wp2_with (go_at_call 168;refine(WH _ _ _ _ _ (H.out.take (m+1) (by omega)) (by omega) (by omega)).mono ?_;rintro e w1 ⟨g',cap',rfl,hg,hs,hb⟩)
 obtain⟨g0,-⟩:=(H.out.below hb).at HK.out
 have g0':w1.cell? ⟨g,(m+1)*11+10,none⟩=some (.int .i64 (k:Int)):=by rw[show(m+1)*11+10=m*11+21 by omega];exact g0
 obtain⟨x,hx,y0,y1⟩:=hs.cell (m*11+2+k) (by omega)
 have k0:(0:Int)≤(k:Int):=by omega
 have k8:(k:Int)<8:=by omega
 have HS:=Qq hs;have HB:=Qq hb;have HG:=Qq hg;clear g0 hs hb hg hx;refine wp_region_still_tail 11 (by kernel_rfl) (by kernel_rfl) ?_
 simp only[QX,QV,QQ,QJ];still_step
 still_call (WL g' m cap' _ (by omega))
 still_step
 still_call (IX g m cap _ (by omega))
 repeat still_step
 refine wpStill_nil ?_;go_wp2_with fail;go_ret2
 exact⟨g',cap',rfl,HG.out,(HS.out.below (zg _)).set _ _,HB.out.drew.setCell HG.out _⟩
def Zg (w:World)(p:Nat)(L:List Int)(F:List Nat):Prop :=
 ∃a cap,F=p::yf a∧p∉yf a∧zF w p [.bool (!L.isEmpty),.int .i64 (L.headD 0),.slice a L.tail.length cap]∧zO w a cap L.tail
theorem Zg.yC {w w':World}{p:Nat}{L:List Int}{F G:List Nat}(h:Zg w p L F)(c:zI G w w')(hd:∀x∈F,x∉G):Zg w' p L F:=by
 obtain⟨a,cap,rfl,h2,h3,h4⟩:=h;exact⟨a,cap,rfl,h2,h3.yC c (hd p (by simp)),h4.yC c (fun x hx=>hd x (by simp[hx]))⟩
theorem Zg.lt {w:World}{p:Nat}{L:List Int}{F:List Nat}(h:Zg w p L F):∀x∈F,x<w.heap.size:=by
 obtain⟨a,cap,rfl,h2,h3,h4⟩:=h;intro x hx;simp at hx
 rcases hx with rfl|hx
 ·exact h3.lt (by simp)
 ·exact h4.lt x hx
def Ye (p:Nat)(L:List Int):zy where
 at_ w F:=Zg w p L F
 lt:=fun h=>h.lt
 yC:=fun h c d=>h.yC c d
theorem LU (w:World):Calls Tryz.prog 66 #[] w fun r w'=>∃p,r=.returned (.pointer (some ⟨p,0,none⟩))∧Zg w' p [] [p]∧w.heap.size≤p∧Below w.heap.size w w':=by
 have hf:Zg (w.alloc (.cells #[.bool false,.int .i64 0,.slice none 0 0] 197)) w.heap.size [] [w.heap.size]∧w.heap.size≤w.heap.size∧Below w.heap.size w (w.alloc (.cells #[.bool false,.int .i64 0,.slice none 0 0] 197)) :=
  ⟨⟨none,0,rfl,by simp[yf],zF.mk w [.bool false,.int .i64 0,.slice none 0 0] _ _ rfl,zO.nil _⟩,Nat.le_refl _,below_alloc1 _ _⟩
 have HF:=Qq hf;clear hf
 go_enter Tryz.func66,Tryz.ntmps66
 go_wp2;go_ret;exact⟨_,rfl,HF.out⟩
theorem NK (w:World)(p:Nat)(L:List Int)(F:List Nat)(g:Int)(h:Zg w p L F)(hl:L.length≤1000000) :
  Calls Tryz.prog 164 #[.pointer (some ⟨p,0,none⟩),.int .i64 g] w fun r w'=>r=.returned (.bool L.isEmpty)∧∃F',Zg w' p (L++[g]) F'∧zI F w w'∧∀x∈F',x∈F∨w.heap.size≤x:=by
 have hFlt:=h.lt;obtain⟨a,cap,rfl,h2,h3,h4⟩:=h;cases L with
 | nil =>
  obtain⟨g0,f0⟩:=h3 0 _ rfl;obtain⟨g1,f1⟩:=h3 1 _ rfl;simp only[List.isEmpty_nil,Bool.not_true,List.headD_nil,List.tail_nil,List.length_nil] at g0 g1 h3 h4 ⊢
  have c:zI [p] w ((w.setCell ⟨p,0,none⟩ (.bool true)).setCell ⟨p,1,none⟩ (.int .i64 g)):=((zI.refl _ _).setCell _ (.inl (by simp))).setCell _ (.inl (by simp))
  have hf:∃F',Zg ((w.setCell ⟨p,0,none⟩ (.bool true)).setCell ⟨p,1,none⟩ (.int .i64 g)) p ([]++[g]) F'∧zI (p::yf a) w ((w.setCell ⟨p,0,none⟩ (.bool true)).setCell ⟨p,1,none⟩ (.int .i64 g))∧∀x∈F',x∈p::yf a∨w.heap.size≤x :=
   ⟨p::yf a,⟨a,cap,rfl,h2,(h3.set 0 _).set 1 _,h4.yC c (fun x hx=>by simp;intro e;subst e;exact h2 hx)⟩,c.mono (fun x hx=>by simp at hx;simp[hx]),fun x hx=>.inl hx⟩
  have HF:=Qq hf;clear hf c h2 h3 h4 hFlt
  go_enter Tryz.func164,Tryz.ntmps164
  go_wp2;go_ret;exact⟨rfl,HF.out⟩
 | cons x t =>
  obtain⟨g0,f0⟩:=h3 0 _ rfl;obtain⟨g2,f2⟩:=h3 2 _ rfl;simp only[List.isEmpty_cons,Bool.not_false,List.headD_cons,List.tail_cons,List.length_cons] at g0 g2 h3 h4 hl ⊢
  obtain⟨i0,hi0,hz0,hz1,hz2⟩:=info_parts Zt;have Hi:=Qq hi0;clear hi0
  have Hz0:=Qq hz0;clear hz0
  have Hz1:=Qq hz1;clear hz1
  have Hz2:=Qq hz2;clear hz2
  have H2:=Qq h2;have H3:=Qq h3;have H4:=Qq h4;have HL:=Qq hFlt;clear h2 h3 h4 hFlt;go_enter Tryz.func164,Tryz.ntmps164
  go_wp2_with (at_builtin;refine Zy (l:=t) (m:=[g]) rfl _ _ 23 rfl 3 i0 _ Tryz.underlying23 Hi.out Hz0.out Hz1.out Hz2.out rfl rfl rfl rfl rfl (H4.out.below (below_alloc1 _ _)) (zO.one _ _ _ rfl).ints (by simp only[List.length_singleton];omega) ?_)
  intro a1 c1 w1 k1 ch1 f1;have hb:=(H3.out.below (below_alloc1 w (.cells #[.int .i64 g] 3))).yC ch1 H2.out
  obtain⟨g3,f3⟩:=hb 2 _ rfl;have hp1:p∉yf a1:=fun hx=>by
   rcases f1 p hx with h|h
   ·exact H2.out h
   ·have:=HL.out p (by simp);first|omega|(simp at h;omega)
  have cs:zI [p] w1 (w1.setCell ⟨p,2,none⟩ (.slice a1 (t.length+1) c1)):=(zI.refl _ _).setCell _ (.inl (by simp))
  have hf:∃F',Zg (w1.setCell ⟨p,2,none⟩ (.slice a1 (t.length+1) c1)) p (x::t++[g]) F'∧zI (p::yf a) w (w1.setCell ⟨p,2,none⟩ (.slice a1 (t.length+1) c1))∧∀x∈F',x∈p::yf a∨w.heap.size≤x:=by
   refine⟨p::yf a1,⟨a1,c1,rfl,hp1,?_,k1.yC cs (fun x hx=>by simp;intro e;subst e;exact hp1 hx)⟩,?_,fun y hy=>?_⟩
   ·simp only[List.cons_append,List.isEmpty_cons,Bool.not_false,List.headD_cons,List.tail_cons,List.length_append,List.length_singleton]
    exact hb.set 2 _
   ·exact((zI.zK (F:=p::yf a) (below_alloc1 w (.cells #[.int .i64 g] 3))).trans ch1 (fun y hy=>.inl (by simp[hy]))).trans cs (fun y hy=>.inl (by simp at hy;simp[hy]))
   ·simp at hy
    rcases hy with rfl|hy
    ·simp
    ·rcases f1 y hy with h|h
     ·simp[h]
     ·exact .inr (by first|omega|(simp at h;omega))
  have HF:=Qq hf;clear hf cs hp1 hb k1 ch1 f1;go_wp2;go_ret;exact⟨rfl,HF.out⟩
def gaveL (L:List Int)(g:Int):List Int:=match L with
 | []=>[]
 | x::t=>if x=g then t else x::t
def xm (L:List Int)(g:Int):Int×Int:=match L with
 | []=>(-1,5)
 | x::t=>if x=g then(t.headD (-1),0) else(-1,5)
theorem MF (w:World)(p:Nat)(L:List Int)(F:List Nat)(g:Int)(h:Zg w p L F) :
  Calls Tryz.prog 165 #[.pointer (some ⟨p,0,none⟩),.int .i64 g] w fun r w'=>r=.returned (.tuple #[.int .i64 (xm L g).1,.int .i64 (xm L g).2])∧∃F',Zg w' p (gaveL L g) F'∧zI F w w'∧∀x∈F',x∈F∨w.heap.size≤x:=by
 have h0:=h;obtain⟨a,cap,rfl,h2,h3,h4⟩:=h;cases L with
 | nil =>
  obtain⟨g0,f0⟩:=h3 0 _ rfl;simp only[List.isEmpty_nil,Bool.not_true] at g0;unfold xm gaveL;have H0:=Qq h0;clear h0 h2 h3 h4;go_enter Tryz.func165,Tryz.ntmps165
  go_wp2;go_ret2
  exact⟨rfl,_,H0.out,zI.refl _ _,fun x hx=>.inl hx⟩
 | cons x t =>
  obtain⟨g0,f0⟩:=h3 0 _ rfl;obtain⟨g1,f1⟩:=h3 1 _ rfl;obtain⟨g2,f2⟩:=h3 2 _ rfl;simp only[List.isEmpty_cons,Bool.not_false,List.headD_cons,List.tail_cons] at g0 g1 g2 h3 h4;unfold xm gaveL;by_cases hx:x=g
  ·subst hx
   simp only[if_true];cases t with
   | nil =>
    have c:zI [p] w ((w.setCell ⟨p,0,none⟩ (.bool false)).setCell ⟨p,1,none⟩ (.int .i64 0)):=((zI.refl _ _).setCell _ (.inl (by simp))).setCell _ (.inl (by simp))
    have hf:∃F',Zg ((w.setCell ⟨p,0,none⟩ (.bool false)).setCell ⟨p,1,none⟩ (.int .i64 0)) p [] F'∧zI (p::yf a) w ((w.setCell ⟨p,0,none⟩ (.bool false)).setCell ⟨p,1,none⟩ (.int .i64 0))∧∀x∈F',x∈p::yf a∨w.heap.size≤x :=
     ⟨p::yf a,⟨a,cap,rfl,h2,(h3.set 0 _).set 1 _,h4.yC c (fun x hx=>by simp;intro e;subst e;exact h2 hx)⟩,c.mono (fun x hx=>by simp at hx;simp[hx]),fun x hx=>.inl hx⟩
    have HF:=Qq hf;clear hf c h0 h2 h3 h4
    simp only[List.length_nil] at g2;go_enter Tryz.func165,Tryz.ntmps165
    go_wp2;go_ret2
    exact⟨rfl,HF.out⟩
   | cons y t =>
    obtain⟨b,off,rfl,e1⟩:=h4.ints 0 (by simp)
    simp only[List.getElem_cons_zero,Nat.add_zero] at e1;obtain⟨a',hsl,hrow,hbl⟩:=XU YW Wj h4 1 (by simp)
    have hpb:p≠b:=fun e=>h2 (by simp[yf,e])
    have c:zI [p] w ((w.setCell ⟨p,1,none⟩ (.int .i64 y)).setCell ⟨p,2,none⟩ (.slice a' (t.length+1-1) (cap-1))):=((zI.refl _ _).setCell _ (.inl (by simp))).setCell _ (.inl (by simp))
    have hf:∀wf,zI [] ((w.setCell ⟨p,1,none⟩ (.int .i64 y)).setCell ⟨p,2,none⟩ (.slice a' (t.length+1-1) (cap-1))) wf→∃F',Zg wf p (y::t) F'∧zI (p::yf (some ⟨b,off,none⟩)) w wf∧∀x∈F',x∈p::yf (some ⟨b,off,none⟩)∨w.heap.size≤x:=fun wf cf=>by
     have c2:=c.trans cf (fun x hx=>by simp at hx)
     refine⟨p::yf a',⟨a',cap-1,rfl,by rw[hbl];exact h2,?_,hrow.yC c2 (fun x hx=>by rw[hbl] at hx;simp;intro e;subst e;exact h2 hx)⟩,c2.mono (fun x hx=>by simp at hx;simp[hx]),fun x hx=>.inl (by rw[hbl] at hx;exact hx)⟩
     exact((h3.set 1 _).set 2 _).yC cf (by simp)
    have HF:=Qq hf;clear hf c h0 h2 h3 h4 hrow hbl
    simp only[List.length_cons] at g2 hsl;have hsl2:∀w,(Instr.slice 23 (.slice (some ⟨b,off,none⟩) (t.length+1) cap) (some (.int .i64 1)) none none).run Tryz.prog w=.ok (.slice a' (t.length+1-1) (cap-1)) w:=hsl
    clear hsl;go_enter Tryz.func165,Tryz.ntmps165
    go_wp2_with fail;go_region
    all_goals
     go_wp2;go_ret2
     exact⟨rfl,HF.out _ (zI.zK (zg _))⟩
  ·simp only[if_neg hx]
   have hne:(x==g)=false:=by simpa using hx
   have hne2:(x !=g)=true:=by simp[hx]
   have H0:=Qq h0;have HX:=Qq hx;clear h0 h2 h3 h4 hx;go_enter Tryz.func165,Tryz.ntmps165
   go_wp2;go_ret2
   exact⟨rfl,_,H0.out,zI.refl _ _,fun x hx=>.inl hx⟩
theorem Hr {w0 w:World}{As:List zy}{p:Nat}{L:List Int}(h:Own w0 w (Ye p L::As))(g:Int)(hl:L.length≤1000000) :
  Calls Tryz.prog 164 #[.pointer (some ⟨p,0,none⟩),.int .i64 g] w fun r w'=>r=.returned (.bool L.isEmpty)∧Own w0 w' (Ye p (L++[g])::As) :=
 Own.P8 (A:=Ye p L) (A':=Ye p (L++[g])) (ret:=fun r=>r=.returned (.bool L.isEmpty)) h (fun F hF=>NK w p L F g hF hl)
theorem Ga {w0 w:World}{As:List zy}{p:Nat}{L:List Int}(h:Own w0 w (Ye p L::As))(g:Int) :
  Calls Tryz.prog 165 #[.pointer (some ⟨p,0,none⟩),.int .i64 g] w fun r w'=>r=.returned (.tuple #[.int .i64 (xm L g).1,.int .i64 (xm L g).2])∧Own w0 w' (Ye p (gaveL L g)::As) :=
 Own.P8 (A:=Ye p L) (A':=Ye p (gaveL L g)) (ret:=fun r=>r=.returned (.tuple #[.int .i64 (xm L g).1,.int .i64 (xm L g).2])) h (fun F hF=>MF w p L F g hF)
theorem Ke (a:Option Addr)(l c:Nat)(i:Int)(w:World):Calls Tryz.prog 59 #[.slice a l c,.int .i64 i] w fun r w'=>r=.returned (.bool (decide (0≤i∧i<(l:Int))))∧w'=w:=by
 go_enter Tryz.func59,Tryz.ntmps59
 by_cases h0:0≤i
 ·by_cases h1:i<(l:Int)
  ·have e:decide (0≤i∧i<(l:Int))=true:=decide_eq_true ⟨h0,h1⟩
   have e1:decide (i<(l:Int))=true:=decide_eq_true h1
   go_wp2;go_ret;exact⟨by simp[h0,h1],rfl⟩
  ·have e:decide (0≤i∧i<(l:Int))=false:=decide_eq_false (by omega)
   have e1:decide (i<(l:Int))=false:=decide_eq_false h1
   go_wp2;go_ret;exact⟨by simp[h0,h1],rfl⟩
 ·have e:decide (0≤i∧i<(l:Int))=false:=decide_eq_false (by omega)
  go_wp2;go_ret;exact⟨by simp[h0],rfl⟩
theorem KC (a:Option Addr)(l c:Nat)(i:Int)(w:World):Calls Tryz.prog 113 #[.slice a l c,.int .i64 i] w fun r w'=>r=.returned (.bool (decide (0≤i∧i<(l:Int))))∧w'=w:=by
 go_enter Tryz.func113,Tryz.ntmps113
 by_cases h0:0≤i
 ·by_cases h1:i<(l:Int)
  ·have e:decide (0≤i∧i<(l:Int))=true:=decide_eq_true ⟨h0,h1⟩
   have e1:decide (i<(l:Int))=true:=decide_eq_true h1
   go_wp2;go_ret;exact⟨by simp[h0,h1],rfl⟩
  ·have e:decide (0≤i∧i<(l:Int))=false:=decide_eq_false (by omega)
   have e1:decide (i<(l:Int))=false:=decide_eq_false h1
   go_wp2;go_ret;exact⟨by simp[h0,h1],rfl⟩
 ·have e:decide (0≤i∧i<(l:Int))=false:=decide_eq_false (by omega)
  go_wp2;go_ret;exact⟨by simp[h0],rfl⟩
def ZL (n d:Int):Int:=if(if d<0 then 0 else d)<n-1 then(if d<0 then 0 else d) else n-1
theorem U0 (n d:Int)(hn:1≤n∧n<9223372036854775808)(w:World):Calls Tryz.prog 114 #[.int .i64 n,.int .i64 d] w fun r w'=>r=.returned (.int .i64 (ZL n d))∧w'=w:=by
 have hw:IntKind.i64.wrap (n-1)=n-1:=by rw[IntKind.wrap_i64];omega
 go_enter Tryz.func114,Tryz.ntmps114
 unfold ZL;go_wp2
 all_goals
  go_ret;exact⟨by simp<;>(repeat' split)<;>omega,rfl⟩
theorem DX {w0 w:World}{ps:List Pl}{Cs:List Ch}{R:List zy}{la:Option Addr}{lc n:Nat}(h:Own w0 w (YF ps Cs++zd 1 la lc n (xR ps)::R)):zU 1 w la lc n (xR ps) :=
 h.yZ (YF ps Cs).length (by rw[List.getElem?_append_right (Nat.le_refl _),Nat.sub_self];rfl)
theorem Oe {w0 w:World}{ps:List Pl}{Cs:List Ch}{R:List zy}{la:Option Addr}{lc n:Nat}(h:Own w0 w (YF ps Cs++zd 1 la lc n (xR ps)::R)){i:Nat}{p:Pl}(hp:ps[i]?=some p):∃b off,la=some ⟨b,off,none⟩∧w.cell? ⟨b,off+i,none⟩=some (.pointer (some ⟨p.1,0,none⟩)):=(DX h).cells i _ (TT ps i p hp)
theorem LD {w0 w:World}{ps:List Pl}{Cs:List Ch}{R:List zy}{la:Option Addr}{lc n:Nat}(h:Own w0 w (YF ps Cs++zd 1 la lc n (xR ps)::R))(hn:n=ps.length)(hl:ps.length=Cs.length)(k1 k2 k3:Int)(hk:(k1=0∨k1=1∨k1=2)∧0≤k2∧(k1≠2→k2<n)) :
  Calls Tryz.prog 128 #[.agg #[.int .i64 k1,.int .i64 k2,.int .i64 k3],.slice la n lc] w fun r w'=>r=.returned (.bool (goesB ps Cs (k1,k2,k3)))∧Below w.heap.size w w':=by
 obtain⟨h0,h1,h2⟩:=hk;obtain⟨i,rfl⟩:∃i:Nat,k2=(i:Int):=⟨k2.toNat,by omega⟩
 by_cases h3:k1=2
 ·subst h3
  have e:goesB ps Cs (2,(i:Int),k3)=false:=by unfold goesB;split<;>simp
  rw[e];clear e h;go_enter Tryz.func128,Tryz.ntmps128
  go_wp2;go_ret;exact⟨rfl,by first|exact Below.refl _ _|exact below_alloc1 _ _⟩
 ·have hin:i<ps.length:=by have:=h2 h3;omega
  have hp:ps[i]?=some ps[i]:=List.getElem?_eq_getElem hin
  have hC:Cs[i]?=some (Cs[i]'(by omega)):=List.getElem?_eq_getElem (by omega)
  generalize ps[i]=p at hp
  generalize Cs[i]'(by omega)=C at hC
  obtain⟨b,off,rfl,g⟩:=Oe h hp;obtain⟨R',hR,-⟩:=h.Pw hp hC;have hin':(i:Int)<(n:Int):=by omega
  have G:=Qq g;have gb:=World.block_lt_of_cell? _ _ g
  have hrl:=fun(w':World) (hb:Below w.heap.size w w')=>OU (hR.step hb)
  have hsl:=fun(w':World) (hb:Below w.heap.size w w')=>Ny (hR.step hb)
  have HRL:=Qq hrl;have HSL:=Qq hsl;have e:goesB ps Cs (k1,(i:Int),k3)=if k1=0 then SE C else if k1=1 then Pj p.2 C else false:=by unfold goesB;simp[hp,hC]
  rw[e];clear e hrl hsl hp hC h hR;rcases(by omega:k1=0∨k1=1) with rfl|rfl
  ·simp only[if_true]
   clear h0 h2 h3;go_enter Tryz.func128,Tryz.ntmps128
   go_wp2_with fail;refine(HRL.out _ (by first|exact Below.refl _ _|exact below_alloc1 _ _)).mono ?_
   rintro r w2 ⟨rfl,rfl⟩;go_wp2;go_ret;exact⟨rfl,by first|exact Below.refl _ _|exact below_alloc1 _ _⟩
  ·rw[if_neg (by decide),if_pos rfl]
   clear h0 h2 h3;go_enter Tryz.func128,Tryz.ntmps128
   go_wp2_with fail;refine(HSL.out _ (by first|exact Below.refl _ _|exact below_alloc1 _ _)).mono ?_
   rintro r w2 ⟨rfl,m,rfl⟩;go_wp2;go_ret;exact⟨rfl,by first|exact below_drewN (Below.refl _ _) _|exact below_drewN (below_alloc1 _ _) _⟩
theorem SA {w0 w:World}{ps:List Pl}{Cs:List Ch}{R:List zy}{la:Option Addr}{lc n:Nat}(h:Own w0 w (YF ps Cs++zd 1 la lc n (xR ps)::R))(hn:n=ps.length)(hl:ps.length=Cs.length)(ka:Option Addr)(m kc:Nat)(ks:List Zc)(hk:zt w ka (WN ks))(hm:m=ks.length)(hm2:m≤100000)(hok:VT n ks) :
  Calls Tryz.prog 115 #[.slice ka m kc,.slice la n lc] w fun r w'=>∃a c,r=.returned (.slice a (enF (goesB ps Cs) 0 ks).length c)∧zU 1 w' a c (enF (goesB ps Cs) 0 ks).length (zr (enF (goesB ps Cs) 0 ks))∧(∀x∈yf a,w.heap.size≤x)∧Below w.heap.size w w':=by
 have H:=Qq h;have HK:=Qq hk;have HN:=Qq hn;have HM:=Qq hm;have HO:=Qq hok;clear h hk hn hm hok;obtain⟨i0,hi0,hz0,hz1,hz2⟩:=info_parts Zt;have Hi:=Qq hi0;clear hi0
 have Hz0:=Qq hz0;clear hz0
 have Hz1:=Qq hz1;clear hz1
 have Hz2:=Qq hz2;clear hz2
 go_enter Tryz.func115,Tryz.ntmps115
 go_wp2_with fail;go_loopw [5,10] (fun s2 s8 wr=>∃i:Nat,∃L:List Int,∃a c,i≤m∧L.length≤i∧s8=.int .i64 i∧s2=.slice a L.length c∧Hid (L++enF (goesB ps Cs) i (ks.drop i)=enF (goesB ps Cs) 0 ks∧zU 1 wr a c L.length (zr L)∧(∀x∈yf a,w.heap.size≤x)∧Below w.heap.size w wr)) (fun _ s8 _=>m-(intOf s8).toNat)
 case atStart=>exact⟨0,[],none,0,by omega,by simp,rfl,rfl,Qq ⟨rfl,zU.nil _ _,by simp[yf],Below.refl _ _⟩⟩
 case round =>
  obtain⟨i,L,a,c,hi,hLi,rfl,rfl,hr⟩:=hrel;obtain⟨r1,r2,r3,r4⟩:=hr.out;by_cases hlt:i<m
  ·have hil:i<ks.length:=by have:=HM.out;omega
   obtain⟨b,off,rfl,q0,q1,q2⟩:=zt.wt (l:=ks) (HK.out.below r4) i hil
   have hok:=HO.out ks[i] (List.getElem_mem hil)
   rw[Kg _ ks i hil] at r1;obtain⟨x,hx⟩:∃x,x=ks[i]:=⟨_,rfl⟩
   rw[←hx] at q0 q1 q2 hok r1;clear hx;obtain⟨k1,k2,k3⟩:=x;simp only at q0 q1 q2 hok
   have hg:=fun(w':World) (hb:Below wr.heap.size wr w')=>LD ((H.out.step r4).step hb) HN.out hl k1 k2 k3 ⟨hok.1,hok.2.1,hok.2.2.1⟩
   have HG:=Qq hg;have hli:(i:Int)<(m:Int):=by omega
   obtain⟨g,hgb⟩:∃g,g=goesB ps Cs (k1,k2,k3):=⟨_,rfl⟩
   rw[←hgb] at HG r1;have HR:=Qq (show _∧_∧_∧_ from⟨r1,r2,r3,r4⟩)
   clear hr r1 r2 r3 r4 hg hok hgb;go_wp2_with fail;refine(HG.out _ (below_alloc1 _ _)).mono ?_
   rintro r w3 ⟨rfl,b30⟩;have b3:=zA (below_alloc1 _ _) b30
   clear b30;obtain⟨r1,r2,r3,r4⟩:=HR.out;have B3:=Qq b3;cases g with
   | false =>
    have HR2:=Qq (show L++enF (goesB ps Cs) (i+1) (ks.drop (i+1))=enF (goesB ps Cs) 0 ks∧zU 1 w3 a c L.length (zr L)∧(∀x∈yf a,w.heap.size≤x)∧Below w.heap.size w w3 from⟨by simpa using r1,r2.below b3,r3,zA r4 b3⟩)
    clear HR HG r1 r2 r3 r4 b3 B3;go_wp2;exact⟨⟨i+1,L,a,c,by omega,by omega,by go_num,rfl,HR2⟩,by simp[intOf];omega⟩
   | true =>
    have HROW:=Qq (r2.below b3)
    have HX:=Qq (show(L++[(i:Int)])++enF (goesB ps Cs) (i+1) (ks.drop (i+1))=enF (goesB ps Cs) 0 ks∧(∀x∈yf a,w.heap.size≤x)∧Below w.heap.size w w3 from⟨by simpa using r1,r3,zA r4 b3⟩)
    clear HR HG r1 r2 r3 r4 b3 B3;go_wp2_with (at_builtin;refine yr (m:=1) (ds:=zr [(i:Int)]) rfl _ _ 23 rfl 3 i0 _ Tryz.underlying23 Hi.out Hz0.out Hz1.out Hz2.out rfl (by omega) (by omega) rfl rfl (HROW.out.below (below_alloc1 _ _)) (zt.new _ (zr [(i:Int)]) _ rfl) rfl (ZQ _) (by omega) ?_)
    intro a5 c5 w5 k5 ch5 f5;have HE:=Qq (show(L++[(i:Int)])++enF (goesB ps Cs) (i+1) (ks.drop (i+1))=enF (goesB ps Cs) 0 ks∧zU 1 w5 a5 c5 (L++[(i:Int)]).length (zr (L++[(i:Int)]))∧(∀x∈yf a5,w.heap.size≤x)∧Below w.heap.size w w5 from
     ⟨HX.out.1,by rw[List.length_append,ZT];exact k5,fun x hx=>by
      rcases f5 x hx with h|h
      ·exact HX.out.2.1 x h
      ·have:=HX.out.2.2.size;first|omega|(simp at h;omega),zI.below (zA HX.out.2.2 (below_alloc1 _ _)) ch5 HX.out.2.1⟩)
    clear k5 ch5 f5;go_wp2;exact⟨⟨i+1,L++[(i:Int)],a5,c5,by omega,by simp;omega,by go_num,by simp,HE⟩,by simp[intOf];omega⟩
  ·have hge:¬(i:Int)<(m:Int):=by omega
   have hd:ks.drop i=[]:=List.drop_of_length_le (by have:=HM.out;omega)
   rw[hd] at r1;have r1':L=enF (goesB ps Cs) 0 ks:=by simpa [enF] using r1
   have HF:=Qq (show L=enF (goesB ps Cs) 0 ks∧zU 1 wr a c L.length (zr L)∧(∀x∈yf a,w.heap.size≤x)∧Below w.heap.size w wr from⟨r1',r2,r3,r4⟩)
   clear hr r1 r2 r3 r4 hd r1';go_wp2;go_ret;obtain⟨e1,e2,e3,e4⟩:=HF.out;exact⟨a,c,by rw[←e1];rfl,by rw[←e1];exact e2,e3,e4⟩
theorem NX {w0 w:World}{ps:List Pl}{Cs:List Ch}{R:List zy}{la:Option Addr}{lc n:Nat}(h:Own w0 w (YF ps Cs++zd 1 la lc n (xR ps)::R))(hn:n=ps.length)(hl:ps.length=Cs.length)(g:Int)(hB:RI 100000 Cs)(hn2:n≤100000) :
  Calls Tryz.prog 173 #[.int .i64 g,.slice la n lc] w fun r w'=>r=.returned (.tuple #[])∧Own w0 w' (YF ps (Cs.map (Pk g))++zd 1 la lc n (xR ps)::R):=by
 have H:=Qq h;have HN:=Qq hn;have HL:=Qq hl;have HBB:=Qq hB;clear h hn hl hB;go_enter Tryz.func173,Tryz.ntmps173
 go_wp2_with fail;go_loopw [8] (fun s wr=>∃i:Nat,i≤n∧s=.int .i64 i∧Hid (Own w0 wr (YF ps ((Cs.take i).map (Pk g)++Cs.drop i)++zd 1 la lc n (xR ps)::R))) (fun s _=>n-(intOf s).toNat)
 case atStart=>exact⟨0,by omega,rfl,Qq (by simpa using H.out)⟩
 case round =>
  obtain⟨i,hi,rfl,hr⟩:=hrel;by_cases hlt:i<n
  ·have hjn:i<ps.length:=by have:=HN.out;omega
   have hjC:i<Cs.length:=by rw[←HL.out];exact hjn
   have hp:ps[i]?=some ps[i]:=List.getElem?_eq_getElem hjn
   obtain⟨C,hCe⟩:∃C,C=Cs[i]:=⟨_,rfl⟩
   have hd:Cs.drop i=C::Cs.drop (i+1):=by rw[hCe];exact List.drop_eq_getElem_cons hjC
   have htl:((Cs.take i).map (Pk g)).length=i:=by simp;omega
   have hC:((Cs.take i).map (Pk g)++Cs.drop i)[i]?=some C:=by rw[List.getElem?_append_right (by omega),htl,Nat.sub_self,hd];rfl
   have hlim:=HBB.out C (by rw[hCe];exact List.getElem_mem hjC)
   have hset:((Cs.take i).map (Pk g)++Cs.drop i).set i (Pk g C)=(Cs.take (i+1)).map (Pk g)++Cs.drop (i+1):=by
    rw[List.set_append_right _ _ (by omega),htl,Nat.sub_self,hd,QY,List.take_succ_eq_append_getElem hjC,List.map_append,List.append_assoc,←hCe];rfl
   generalize ps[i]=p at hp
   obtain⟨pb,poff,rfl,gp⟩:=Oe hr.out hp;obtain⟨R',hR,hback⟩:=hr.out.Pw hp hC;have hw:=NB hR g hlim.2.1 hlim.2.2;have HW:=Qq hw;have HX:=Qq (fun(w':World) (h':Own w0 w' (yv p.1 p.2 (Pk g C)::R'))=>(show Own w0 w' (YF ps ((Cs.take (i+1)).map (Pk g)++Cs.drop (i+1))++zd 1 (some ⟨pb,poff,none⟩) lc n (xR ps)::R) from by rw[←hset];exact hback w' _ h'))
   have hli:(i:Int)<(n:Int):=by omega
   clear hr hw hback hR hset hC hd htl hp hlim hCe hjC;go_wp2_with fail;refine HW.out.mono ?_
   rintro r w3 ⟨rfl,h3⟩;have HR:=Qq (HX.out _ h3)
   clear h3;go_wp2;exact⟨⟨i+1,by omega,by go_num,HR⟩,by simp[intOf];omega⟩
  ·have hge:¬(i:Int)<(n:Int):=by omega
   have hf:Own w0 wr (YF ps (Cs.map (Pk g))++zd 1 la lc n (xR ps)::R):=by
    have h1:=hr.out;have hCl:Cs.length=n:=by rw[←HL.out];exact HN.out.symm
    rw[List.take_of_length_le (by omega),List.drop_of_length_le (by omega),List.append_nil] at h1
    exact h1
   have HF:=Qq hf;clear hr hf;go_wp2;go_end0
   exact⟨rfl,HF.out⟩
structure Gt where
 st:Int
 n:Nat
 z:List Int
 deriving DecidableEq
def Gt.o (G:Gt):Nat:=(G.n-1)*11
def Gt.fn (G:Gt):Int:=G.z.getD G.o 0
def Gt.pc (G:Gt):Int:=G.z.getD (G.o+1) 0
def Gt.rg (G:Gt)(k:Int):Int:=G.z.getD (G.o+2+k.toNat) 0
def Gt.put (G:Gt)(k v:Int):Gt:={ G with z:=G.z.set (G.o+2+k.toNat) v }
def g0:Gt:=⟨0,1,[]⟩
structure Wd where
 fs:List (List zS)
 ks:List Zc
 gs:List Gt
 Ns:List Nat
 Cs:List Ch
 Ls:List (List Int)
 hp:List It
 nx:Nat
 clock:Nat
 out:List Int
 en:Int
 why:Int
def Wd.g (W:Wd)(i:Nat):Gt:=W.gs.getD i g0
def Wd.ye (W:Wd)(i:Nat)(G:Gt):Wd:={ W with gs:=W.gs.set i G }
def Wd.zQ (W:Wd)(i:Nat)(s:Int):Wd:=W.ye i { W.g i with st:=s }
def Wd.put (W:Wd)(i:Nat)(k v:Int):Wd:=W.ye i ((W.g i).put k v)
def Wd.xQ (W:Wd)(fn pc:Int):Option zS:=if pc<0 then none else(W.fs.getD fn.toNat [])[pc.toNat]?
def Wd.ins (W:Wd)(i:Nat):Option zS:=W.xQ (W.g i).fn (W.g i).pc
def Wd.yA (W:Wd)(x:zS):List Zc :=
 if x.1=13 then[(1,x.2.1,x.2.2.1)] else if x.1=14 then[(0,x.2.1,x.2.2.1)] else(W.ks.drop x.2.1.toNat).take x.2.2.1.toNat
def Ul (v:Int):Int:=IntKind.i64.wrap v
def Zp (x:zS)(o:Nat)(z:List Int):Option (List Int) :=
 let z1:=z.set (o+1) (z.getD (o+1) 0+1)
 let r:=fun(k:Int)=>z.getD (o+2+k.toNat) 0
 let s:=fun(v:Int)=>some (z1.set (o+2+x.2.1.toNat) v)
 if x.1=0 then some z1
 else if x.1=1 then s x.2.2.1
 else if x.1=2 then s (r x.2.2.1)
 else if x.1=3 then s (Ul (r x.2.2.1+r x.2.2.2))
 else if x.1=4 then s (Ul (r x.2.2.1-r x.2.2.2))
 else if x.1=5 then s (Ul (r x.2.2.1*r x.2.2.2))
 else if x.1=6 then s (if r x.2.2.1<r x.2.2.2 then 1 else 0)
 else if x.1=7 then some (z1.set (o+1) x.2.1)
 else if x.1=8 then some (if r x.2.1=0 then z1 else z1.set (o+1) x.2.2.1)
 else none
structure Dd where
 W:Wd
 rd:List Int
 tr:Option Int
def goesN (Ns:List Nat)(Cs:List Ch)(k:Zc):Bool :=
 match Cs[k.2.1.toNat]?,Ns[k.2.1.toNat]? with
 | some C,some N=>if k.1=0 then SE C else if k.1=1 then Pj N C else false
 | _,_=>false
def Wd.fin (W:Wd)(x:zS)(by_:Wt)(some_:Bool):Wd :=
 let c:=(W.yA x).getD by_.2.1.toNat (1,0,0)
 let W1:=if c.1=0 then W.put by_.1.toNat c.2.2 by_.2.2 else W
 if x.1=16 then W1.put by_.1.toNat x.2.2.2 by_.2.1
 else if x.1=14 then W1.put by_.1.toNat x.2.2.2 (if some_ then 1 else 0)
 else W1
def Wd.leave (W:Wd)(g:Int):Wd:={ W with Cs:=W.Cs.map (Pk g) }
def goOnM (W:Wd)(rd:List Int)(by_:Wt)(some_:Bool):Wd×List Int :=
 let G:=W.g by_.1.toNat
 if G.st=2 then
  match W.xQ G.fn (G.pc-1) with
  | some x=>(((W.fin x by_ some_).leave by_.1).zQ by_.1.toNat 1,rd++[by_.1])
  | none=>(W,rd)
 else(W,rd)
def goOnsM (W:Wd)(rd:List Int):List Wt→Wd×List Int
 | []=>(W,rd)
 | r::t=>goOnsM (goOnM W rd r false).1 (goOnM W rd r false).2 t
def Wd.ch (W:Wd)(i:Int):Ch:=W.Cs.getD i.toNat ⟨[],[],[],false⟩
def Wd.zM (W:Wd)(i:Int)(C:Ch):Wd:={ W with Cs:=W.Cs.set i.toNat C }
def x9 (W:Wd)(rd:List Int)(g:Nat)(x:zS)(c:Zc)(place:Int):Option Dd :=
 let r:=mSend (W.Ns.getD c.2.1.toNat 0) (W.ch c.2.1) ((W.g g).rg c.2.2)
 if r.2.2.2=10 then some ⟨W,rd,some (-1)⟩
 else if r.2.2.2=0 then
  let W1:=W.zM c.2.1 r.1
  let y:=if r.2.2.1 then goOnM W1 rd r.2.1 true else(W1,rd)
  some ⟨y.1.fin x ((g:Int),place,0) false,y.2,none⟩
 else none
def xU (W:Wd)(rd:List Int)(g:Nat)(x:zS)(c:Zc)(place:Int):Option Dd :=
 let r:=mRecv (W.ch c.2.1)
 if r.2.2=0 then
  let W1:=W.zM c.2.1 r.1
  let y:=if r.2.1.2.2.2 then goOnM W1 rd r.2.1.2.2.1 false else(W1,rd)
  some ⟨y.1.fin x ((g:Int),place,r.2.1.1) r.2.1.2.1,y.2,none⟩
 else none
def Zw (W:Wd)(rd:List Int)(g:Nat)(x:zS)(place:Int):Option Dd :=
 let c:=(W.yA x).getD place.toNat (1,0,0)
 if c.1=1 then x9 W rd g x c place else xU W rd g x c place
def Gt.yU (G:Gt):List Int:=(G.z.drop (G.o+2)).take 8
def Ww (W:Wd)(g:Nat)(x:zS):Wd:=({ W with Cs:=wasF (g:Int) (W.g g).yU 0 (W.yA x) W.Cs }:Wd).zQ g 2
def xW (W:Wd)(rd:List Int)(g:Nat)(x:zS):Dd:=(Zw W rd g x 0).getD (Dd.mk (Ww W g x) rd none)
def Zv (W:Wd)(rd:List Int)(g:Nat)(x:zS)(drawn:Int)(TU:Bool):Dd :=
 if TU then(Zw W rd g x drawn).getD (Dd.mk W rd none)
 else if UO 0 (W.yA x)<0 then⟨Ww W g x,rd,none⟩
 else⟨W.put g x.2.2.2 (UO 0 (W.yA x)),rd,none⟩
def xN (W:Wd)(rd:List Int)(x:zS):Dd :=
 let C:=W.ch x.2.1
 if C.cl then⟨W,rd,some (-2)⟩
 else
  let W1:=W.zM x.2.1 ⟨C.buf,[],[],true⟩
  if C.S=[] then⟨(goOnsM W1 rd C.R).1,(goOnsM W1 rd C.R).2,none⟩ else⟨W1,rd,some (-1)⟩
def ZD (W:Wd)(rd:List Int)(g:Nat)(x:zS):Dd :=
 let G:=W.g g
 if 16≤G.n then⟨W,rd,some (-4)⟩ else⟨W.ye g { G with n:=G.n+1,z:=G.z++ZM x.2.1 (G.rg x.2.2.1) x.2.2.2 },rd,none⟩
def Y6 (W:Wd)(rd:List Int)(g:Nat)(x:zS):Dd :=
 let G:=W.g g
 if G.n≤1 then⟨{ W.zQ g 4 with en:=if g=0 then 1 else W.en },rd,none⟩
 else⟨W.ye g { G with n:=G.n-1,z:=(G.z.take ((G.n-1)*11)).set ((G.n-2)*11+2+(G.z.getD (G.o+10) 0).toNat) (G.rg x.2.1) },rd,none⟩
def ZK (W:Wd)(rd:List Int)(g:Nat)(x:zS):Dd :=
 if 100≤W.gs.length then⟨W,rd,some (-5)⟩
 else⟨({ W with gs:=W.gs++[⟨1,1,ZM x.2.1 ((W.g g).rg x.2.2.1) 0⟩] }:Wd).put g x.2.2.2 (W.gs.length:Int),rd++[(W.gs.length:Int)],none⟩
def Yh (W:Wd)(rd:List Int)(g:Nat)(x:zS):Dd :=
 let t:=if 1048576<(W.g g).rg x.2.1 then 1048576 else(W.g g).rg x.2.1
 if t≤0 then⟨W,rd,none⟩
 else⟨{ W.zQ g 3 with hp:=ZX W.hp ⟨(W.clock:Int)+t,(W.nx:Int),(g:Int)⟩,nx:=W.nx+1 },rd,none⟩
def Wd.lk (W:Wd)(i:Int):List Int:=W.Ls.getD i.toNat []
def ZR (W:Wd)(rd:List Int)(g:Nat)(x:zS):Dd :=
 let W1:={ W with Ls:=W.Ls.set x.2.1.toNat (W.lk x.2.1++[(g:Int)]) }
 Dd.mk (if W.lk x.2.1=[] then W1 else W1.zQ g 2) rd none
def xA (W:Wd)(rd:List Int)(g:Nat)(x:zS):Dd :=
 let L:=W.lk x.2.1
 if(xm L (g:Int)).2=0 then
  let W1:={ W with Ls:=W.Ls.set x.2.1.toNat (gaveL L (g:Int)) }
  if(xm L (g:Int)).1 = -1 then⟨W1,rd,none⟩ else⟨W1.zQ (xm L (g:Int)).1.toNat 1,rd++[(xm L (g:Int)).1],none⟩
 else⟨W,rd,some (-3)⟩
def ZE (W:Wd)(rd:List Int)(g:Nat)(x:zS):Dd :=
 if 1000≤W.out.length then⟨W,rd,some (-6)⟩ else⟨{ W with out:=W.out++[(W.g g).rg x.2.1] },rd,none⟩
def zT (W:Wd)(g:Nat)(x:zS)(drawn:Int)(TU:Bool):Dd :=
 if x.1=9 then ZD W [] g x
 else if x.1=10 then Y6 W [] g x
 else if x.1=11 then ZK W [] g x
 else if x.1=12 then⟨W,[],none⟩
 else if x.1=13 then xW W [] g x
 else if x.1=14 then xW W [] g x
 else if x.1=15 then xN W [] x
 else if x.1=16 then Zv W [] g x drawn TU
 else if x.1=17 then Yh W [] g x
 else if x.1=18 then ZR W [] g x
 else if x.1=19 then xA W [] g x
 else if x.1=20 then ZE W [] g x
 else if x.1=21 then⟨W.put g x.2.1 drawn,[],none⟩
 else⟨W,[],some x.2.1⟩
def Wd.step (W:Wd)(g:Nat):Wd:=W.ye g { W.g g with z:=(W.g g).z.set ((W.g g).o+1) ((W.g g).pc+1) }
def Dd.end_ (d:Dd):Wd:=match d.tr with
 | none=>d.W
 | some k=>{ d.W with en:=2,why:=k }
def doM (W:Wd)(g:Nat)(x:Option zS)(drawn:Int)(TU:Bool):Dd :=
 match x with
 | none=>⟨W,[],some (-7)⟩
 | some x=>match Zp x (W.g g).o (W.g g).z with
  | some z=>⟨W.ye g { W.g g with z:=z },[],none⟩
  | none=>zT (W.step g) g x drawn TU
def YV (W:Wd)(g:Nat)(x:zS):Bool:=decide (W.en=0)&&decide ((W.g g).st=1)&&!(decide (x.1=12)||decide (x.1=17))
def xI (W:Wd)(x:zS):Nat :=
 if x.1=21 then x.2.2.1.toNat else if x.1=16 then(enF (goesN W.Ns W.Cs) 0 (W.yA x)).length else 0
def WO (x:zS):Int:=if x.1=21 then 4 else 3
def xE (W:Wd)(x:zS)(d:Int):Int×Bool :=
 if x.1=21 then(ZL x.2.2.1 d,false)
 else if x.1=16 then
  if(enF (goesN W.Ns W.Cs) 0 (W.yA x)).length=0 then(0,false) else((enF (goesN W.Ns W.Cs) 0 (W.yA x)).getD (ZL ((enF (goesN W.Ns W.Cs) 0 (W.yA x)).length:Int) d).toNat 0,true)
 else(0,false)
def Wd.lets (W:Wd)(g:Int):Prop:=W.en=0∧0≤g∧g<(W.gs.length:Int)∧(W.g g.toNat).st=1
instance (W:Wd) (g:Int):Decidable (W.lets g):=by unfold Wd.lets;exact inferInstance
def zG (W:Wd)(g d:Int):Wd×Bool×List Int :=
 if W.lets g then
  let x:=(W.ins g.toNat).getD (0,0,0,0)
  let a:=xE W x d
  let r:=doM W g.toNat (W.ins g.toNat) a.1 a.2
  (r.end_,YV r.end_ g.toNat x,r.rd)
 else(W,false,[])
def wokeM (W:Wd):List It→Wd
 | []=>W
 | x::t=>wokeM (W.zQ x.id.toNat 1) t
def yO (W:Wd):Wd×List Int :=
 if W.en=0 then
  let r:=yW W.hp ((W.clock:Int)+1)
  (wokeM { W with clock:=W.clock+1,hp:=r.2 } r.1,r.1.map (·.id))
 else(W,[])
def Xs (W:Wd):Bool:=decide (W.en=0)&&!(W.gs.any fun G=>decide (G.st=1)||decide (G.st=3))
def xu (fs:List (List zS))(ks:List Zc)(rooms:List Int)(zN:Nat):Wd :=
 { fs:=fs,ks:=ks,gs:=[⟨1,1,ZM 0 0 0⟩],Ns:=rooms.map ZF,Cs:=rooms.map fun _=>⟨[],[],[],false⟩,Ls:=List.replicate zN [],hp:=[],nx:=0,clock:=0,out:=[],en:=0,why:=0 }
structure Pm where
 N:Nat
 q:LQ
 tu:Nat
 by_:Int
instance:Inhabited Pm:=⟨⟨0,⟨none,[]⟩,0,-1⟩⟩
structure Mm where
 P:Int
 G:Int
 L:Int
instance:Inhabited Mm:=⟨⟨-1,-1,0⟩⟩
structure Sd where
 W:Wd
 ps:List Pm
 ms:List Mm
 gl:List Int
 sl:Int
 st:Nat
def Sd.p (X:Sd)(i:Nat):Pm:=X.ps.getD i default
def Sd.m (X:Sd)(i:Nat):Mm:=X.ms.getD i default
theorem Sd.ZS {X:Sd}{i:Nat}(h:i<X.ps.length):X.ps[i]?=some (X.p i):=by
 unfold Sd.p;rw[List.getD_eq_getElem?_getD,List.getElem?_eq_getElem h];rfl
theorem Sd.Pr {X:Sd}{i:Nat}(h:i<X.ms.length):X.ms[i]?=some (X.m i):=by
 unfold Sd.m;rw[List.getD_eq_getElem?_getD,List.getElem?_eq_getElem h];rfl
def Sd.zH (X:Sd)(i:Nat)(p:Pm):Sd:={ X with ps:=X.ps.set i p }
def Sd.zL (X:Sd)(i:Nat)(m:Mm):Sd:={ X with ms:=X.ms.set i m }
def holdM (X:Sd)(m:Nat):Sd×Int:=match X.ps.findIdx? (fun p=>p.by_ == -1) with
 | some i=>((X.zH i { X.p i with by_:=(m:Int) }).zL m { X.m m with P:=(i:Int) },2)
 | none=>(X,3)
def yN (X:Sd)(i:Nat):Sd :=
 { X.zH i { X.p i with q:=(mTurn (X.p i).N (X.p i).q X.gl).1 } with gl:=(mTurn (X.p i).N (X.p i).q X.gl).2.1 }
def nearM (X:Sd)(i:Nat):Sd×Option Int :=
 if(X.p i).tu%7=6∧X.gl≠[] then({ X with gl:=X.gl.tail },X.gl.head?)
 else match (mGet (X.p i).q).2 with
  | some g=>(X.zH i { X.p i with q:=(mGet (X.p i).q).1 },some g)
  | none=>({ X.zH i { X.p i with q:=(mFetch (X.p i).N (X.p i).q X.gl 0).1 } with gl:=(mFetch (X.p i).N (X.p i).q X.gl 0).2.1 },(mFetch (X.p i).N (X.p i).q X.gl 0).2.2)
def XM (X:Sd)(i:Nat):Bool:=(nearM (yN X i) i).2.isNone&&decide (1<X.ps.length)
def zz (X:Sd)(i v:Nat):Sd×Int×Int :=
 let r:=nearM (yN X i) i
 match r.2 with
 | some g=>(r.1,4,g)
 | none =>
  if 1<X.ps.length∧v≠i then
   let s:=mSteal (r.1.p i).N (r.1.p i).q (r.1.p v).q
   match s.2.2 with
   | some g=>((r.1.zH i { r.1.p i with q:=s.1 }).zH v { r.1.p v with q:=s.2.1 },5,g)
   | none=>((r.1.zH i { r.1.p i with q:=s.1 }).zH v { r.1.p v with q:=s.2.1 },6,-1)
  else(r.1,6,-1)
def yG (X:Sd)(m v:Nat):Sd×Int×Int :=
 let i:=(X.m m).P.toNat
 if 0<(X.m m).L∧(X.p i).q.nx.isSome then
  let g:=((mGet (X.p i).q).2).getD (-1)
  ((X.zH i { X.p i with q:=(mGet (X.p i).q).1 }).zL m { X.m m with G:=g },4,g)
 else
  let r:=zz X i v
  if r.2.1=6 then((r.1.zH i { r.1.p i with by_:=-1 }).zL m ⟨-1,-1,0⟩,r.2)
  else((r.1.zH i { r.1.p i with tu:=(r.1.p i).tu+1 }).zL m { r.1.m m with G:=r.2.2,L:=r.1.sl },r.2)
def ym (X:Sd)(i:Nat):List Int→Sd
 | []=>X
 | g::t=>ym { X.zH i { X.p i with q:=(xt (X.p i).N (X.p i).q g X.gl).1 } with gl:=(xt (X.p i).N (X.p i).q g X.gl).2.1 } i t
def runM (X:Sd)(m:Nat)(v:Int):Sd×List Int :=
 let e:=zG X.W (X.m m).G v
 let Y:=ym { X with W:=e.1 } (X.m m).P.toNat e.2.2
 let L:=(X.m m).L-1
 if e.2.1=true∧0<L then(Y.zL m { Y.m m with L:=L },e.2.2)
 else({ Y.zL m { Y.m m with G:=-1,L:=L } with gl:=if(Y.W.g (X.m m).G.toNat).st=1 then Y.gl++[(X.m m).G] else Y.gl },e.2.2)
def Xn (X:Sd):Sd×List Int:=({ X with W:=(yO X.W).1,gl:=X.gl++(yO X.W).2 },(yO X.W).2)
def xC (X:Sd):Int:=if X.W.en=1 then 1 else if X.W.en=2 then 2 else if Xs X.W then 3 else 0
def yT (l:List zy):zy where
 at_ w F:=Sep w l F
 lt:=fun h=>h.lt
 yC:=fun h c d=>h.yC c d
theorem Own.DF {w0 w:World}{l R:List zy}(h:Own w0 w (yT l::R)):Own w0 w (l++R):=by
 obtain⟨As,rfl,h1⟩:=Own.unfold h (P:=fun As=>As=l) (fun F hF=>⟨l,rfl,hF⟩)
 exact h1
theorem Own.MW {w0 w:World}{l R:List zy}(h:Own w0 w (l++R)):Own w0 w (yT l::R):=Own.fold h (fun F hF=>hF)
theorem Own.ZZ {w0 w:World}{l R:List zy}(h:Own w0 w (yT l::R)){i:Nat}{A:zy}(hi:l[i]?=some A) :
  ∃R',Own w0 w (A::(R'++R))∧∀w' A' S,Own w0 w' (A'::(R'++S))→Own w0 w' (yT (l.set i A')::S):=by
 have hl:=(List.getElem?_eq_some_iff.1 hi).1
 refine⟨l.eraseIdx i,?_,fun w' A' S h'=>?_⟩
 ·exact h.DF.perm ((Zb l i A hi).append_right R)
 ·exact Own.MW (h'.perm ((Z2 l i A' hl).append_right S))
theorem Own.WG {w0 w:World}{l R:List zy}(h:Own w0 w (yT l::R)){i:Nat}{A:zy}(hi:l[i]?=some A):∃F,A.at_ w F∧∀x∈F,w0.heap.size≤x:=by
 obtain⟨R',h1,-⟩:=h.ZZ hi;exact h1.head
theorem Own.UF {w0 w:World}{l R:List zy}{A:zy}(h:Own w0 w (A::yT l::R)):Own w0 w (yT (l++[A])::R):=by
 have h1:=(h.pick 1 rfl).DF
 exact Own.MW (h1.perm (by rw[List.append_assoc];exact List.Perm.refl _))
def Yp (g n cap:Nat)(z:List Int):zy where
 at_ w F:=F=[g]∧zR w g n cap z
 lt:=by rintro w F ⟨rfl,h⟩ x hx;simp at hx;subst hx;exact h.lt
 yC:=by rintro w w' F G ⟨rfl,h⟩ c hd;exact⟨rfl,h.yC c (hd g (by simp))⟩
def xx (v:Value)(l:List It):zy where
 at_ w F:=F=v.ownBlock.toList∧yj w v l
 lt:=by rintro w F ⟨rfl,h⟩ x hx;exact h.lt x hx
 yC:=by rintro w w' F G ⟨rfl,h⟩ c hd;exact⟨rfl,h.yC c hd⟩
def DE (x:zS):List Value:=[.int .i64 x.1,.int .i64 x.2.1,.int .i64 x.2.2.1,.int .i64 x.2.2.2]
def Po (l:List zS):List Value:=l.flatMap DE
def Ot (fr:List (Option Addr×Nat))(fs:List (List zS)):List Value:=List.zipWith (fun r l=>.slice r.1 l.length r.2) fr fs
def Xl (fa:Option Addr)(fr:List (Option Addr×Nat))(fs:List (List zS))(ca:Option Addr)(ks:List Zc):zy where
 at_ w F:=(∀x∈F,x<w.heap.size)∧((∀x∈yf fa,x∈F)∧zt w fa (Ot fr fs))∧((∀x∈yf ca,x∈F)∧zt w ca (WN ks)) ∧
  ∀(i:Nat) (r:Option Addr×Nat) (l:List zS),fr[i]?=some r→fs[i]?=some l→(∀x∈yf r.1,x∈F)∧zt w r.1 (Po l)
 lt:=fun h=>h.1
 yC:=by
  rintro w w' F G ⟨h1,h2,h3,h4⟩ c hd
  exact⟨fun x hx=>Nat.lt_of_lt_of_le (h1 x hx) c.size,⟨h2.1,h2.2.yC c (fun x hx=>hd x (h2.1 x hx))⟩,⟨h3.1,h3.2.yC c (fun x hx=>hd x (h3.1 x hx))⟩,
   fun i r l hr hl=>⟨(h4 i r l hr hl).1,(h4 i r l hr hl).2.yC c (fun x hx=>hd x ((h4 i r l hr hl).1 x hx))⟩⟩
structure Wa where
 fa:Option Addr
 fc:Nat
 fr:List (Option Addr×Nat)
 ca:Option Addr
 cc:Nat
 aa:Option Addr
 ac:Nat
 sk:List (Nat×Nat)
 ha:Option Addr
 hc:Nat
 ps:List Nat
 la:Option Addr
 lc:Nat
 lp:List Nat
 sv:Value
 oa:Option Addr
 oc:Nat
def YE (sk:List (Nat×Nat))(gs:List Gt):List Value:=(List.zip sk gs).flatMap fun x=>[.int .i64 x.2.st,.slice (some ⟨x.1.1,0,none⟩) x.2.n x.1.2]
def YZ (sk:List (Nat×Nat))(gs:List Gt):List zy:=List.zipWith (fun s G=>Yp s.1 G.n s.2 G.z) sk gs
def RH (lp:List Nat)(Ls:List (List Int)):List zy:=List.zipWith Ye lp Ls
def W8 (lp:List Nat):List Value:=lp.map fun p=>.pointer (some ⟨p,0,none⟩)
def yD (W:Wd)(D:Wa):List Value :=
 [.slice D.fa W.fs.length D.fc,.slice D.ca W.ks.length D.cc,.slice D.aa W.gs.length D.ac,.slice D.ha W.Cs.length D.hc,.slice D.la W.Ls.length D.lc,D.sv,.int .u64 (W.nx:Int),.int .u64 (W.clock:Int),.slice D.oa W.out.length D.oc,.int .i64 W.en,.int .i64 W.why]
def zh (p:Nat)(W:Wd)(D:Wa)(T:List Value):List zy :=
 [zf p (yD W D++T),Xl D.fa D.fr W.fs D.ca W.ks,zd 2 D.aa D.ac W.gs.length (YE D.sk W.gs),yT (YZ D.sk W.gs),zd 1 D.ha D.hc W.Cs.length (xR (List.zip D.ps W.Ns)),yT (YF (List.zip D.ps W.Ns) W.Cs),
  zd 1 D.la D.lc W.Ls.length (W8 D.lp),yT (RH D.lp W.Ls),xx D.sv W.hp,zd 1 D.oa D.oc W.out.length (zr W.out)]
structure Wa.fits (D:Wa) (W:Wd):Prop where
 f:D.fr.length=W.fs.length
 g:D.sk.length=W.gs.length
 c:D.ps.length=W.Cs.length
 n:W.Ns.length=W.Cs.length
 l:D.lp.length=W.Ls.length
 k:W.ks.length≤D.cc
def yn (p:Nat)(g:Int)(x:zS)(th:Bool)(dr:Int)(go:Bool)(ra:Option Addr)(n rc:Nat):List Value :=
 [.pointer (some ⟨p,0,none⟩),.int .i64 g,.int .i64 x.1,.int .i64 x.2.1,.int .i64 x.2.2.1,.int .i64 x.2.2.2,.bool th,.int .i64 dr,.bool go,.slice ra n rc]
theorem OR (sk:List (Nat×Nat))(gs:List Gt):(YE sk gs).length=(List.zip sk gs).length*2:=ZP _ 2 (fun _=>rfl) _
theorem L0 {w:World}{aa:Option Addr}{sk:List (Nat×Nat)}{gs:List Gt}(h:zt w aa (YE sk gs)){g:Nat}{s:Nat×Nat}{G:Gt}(hs:sk[g]?=some s)(hG:gs[g]?=some G) :
  ∃b off,aa=some ⟨b,off,none⟩∧w.cell? ⟨b,off+g*2,none⟩=some (.int .i64 G.st)∧w.cell? ⟨b,off+g*2+1,none⟩=some (.slice (some ⟨s.1,0,none⟩) G.n s.2):=by
 have hz:(List.zip sk gs)[g]?=some (s,G):=by rw[List.getElem?_zip_eq_some];exact⟨hs,hG⟩
 obtain⟨hl,he⟩:=List.getElem?_eq_some_iff.1 hz
 obtain⟨b,off,rfl,hc⟩:=zt.rec (f:=fun x:(Nat×Nat)×Gt=>[.int .i64 x.2.st,.slice (some ⟨x.1.1,0,none⟩) x.2.n x.1.2]) (s:=2) (fun _=>rfl) h g hl (by omega)
 rw[he] at hc;exact⟨b,off,rfl,hc 0 _ rfl,hc 1 _ rfl⟩
theorem V0 {α β:Type}:∀(l:List α) (m:List β) (i:Nat) (a:α) (b:β),(List.zip l m).set i (a,b)=List.zip (l.set i a) (m.set i b)
 | [],m,i,a,b=>by simp
 | x::l,[],i,a,b=>by cases i<;>simp
 | x::l,y::m,0,a,b=>by simp
 | x::l,y::m,i+1,a,b=>by simp[V0 l m i a b]
theorem VH (sk:List (Nat×Nat))(gs:List Gt)(g:Nat)(s:Nat×Nat)(G:Gt)(h:g<(List.zip sk gs).length):((YE sk gs).set (g*2) (.int .i64 G.st)).set (g*2+1) (.slice (some ⟨s.1,0,none⟩) G.n s.2)=YE (sk.set g s) (gs.set g G):=by
 have:=UG (fun x:(Nat×Nat)×Gt=>[.int .i64 x.2.st,.slice (some ⟨x.1.1,0,none⟩) x.2.n x.1.2]) 2 (fun _=>rfl) (List.zip sk gs) g (s,G) h
 rw[V0] at this;exact this
theorem yt {α:Type}(l:List α)(i:Nat)(x:α)(h:l[i]?=some x):l.set i x=l:=by
 apply List.ext_getElem?
 intro j;by_cases e:i=j
 ·subst e;rw[List.getElem?_set_self (List.getElem?_eq_some_iff.1 h).1,h]
 ·rw[List.getElem?_set_ne e]
theorem Yl {sk:List (Nat×Nat)}{gs:List Gt}{g:Nat}{s:Nat×Nat}{G:Gt}(hs:sk[g]?=some s)(hG:gs[g]?=some G):(YZ sk gs)[g]?=some (Yp s.1 G.n s.2 G.z):=by
 unfold YZ;rw[List.getElem?_zipWith,hs,hG]
theorem Wh (sk:List (Nat×Nat))(gs:List Gt)(g:Nat)(s:Nat×Nat)(G:Gt):(YZ sk gs).set g (Yp s.1 G.n s.2 G.z)=YZ (sk.set g s) (gs.set g G):=by
 apply List.ext_getElem?
 intro j;unfold YZ;rw[List.getElem?_zipWith,List.getElem?_set,List.getElem?_set,List.getElem?_set,List.length_zipWith,List.getElem?_zipWith]
 by_cases e:g=j
 ·subst e
  by_cases h1:g<sk.length
  ·by_cases h2:g<gs.length
   ·rw[if_pos rfl,if_pos (by omega)];simp[h1,h2]
   ·rw[if_pos rfl,if_neg (by omega)];simp[h1,h2]
  ·rw[if_pos rfl,if_neg (by omega)];simp[h1]
 ·simp[e]
structure Q6 (w:World) (q p g b off s m cap n c:Nat):Prop where
 d0:w.cell? ⟨q,0,none⟩=some (.pointer (some ⟨p,0,none⟩))
 d1:w.cell? ⟨q,1,none⟩=some (.int .i64 (g:Int))
 a:w.cell? ⟨p,2,none⟩=some (.slice (some ⟨b,off,none⟩) n c)
 k:w.cell? ⟨b,off+g*2+1,none⟩=some (.slice (some ⟨s,0,none⟩) m cap)
 hg:g<n
 hm:1≤m∧m≤16
theorem Q6.drewN {w:World}{q p g b off s m cap n c:Nat}(h:Q6 w q p g b off s m cap n c)(k:Nat):Q6 (w.drewN k) q p g b off s m cap n c:=⟨h.d0,h.d1,h.a,h.k,h.hg,h.hm⟩
theorem QF {w:World}{q p g b off s m cap n c:Nat}(h:Q6 w q p g b off s m cap n c) :
  Calls Tryz.prog 121 #[.pointer (some ⟨q,0,none⟩)] w fun r w'=>r=.returned (.pointer (some ⟨b,off+g*2,none⟩))∧∃k,w'=w.drewN k:=by
 obtain⟨d0,d1,a,k,hg,hm⟩:=h;go_enter Tryz.func121,Tryz.ntmps121
 go_wp2_with fail;go_quiet (fail)
 go_wp2;go_ret;exact⟨rfl,_,rfl⟩
theorem Xo {w:World}{q p g b off s m cap n c:Nat}(h:Q6 w q p g b off s m cap n c) :
  Calls Tryz.prog 118 #[.pointer (some ⟨q,0,none⟩)] w fun r w'=>r=.returned (.pointer (some ⟨s,(m-1)*11,none⟩))∧∃k,w'=w.drewN k:=by
 have H:=Qq h;obtain⟨d0,d1,a,k,hg,hm⟩:=h;have ht:∀w,Calls Tryz.prog 112 #[.slice (some ⟨s,0,none⟩) m cap] w fun e w'=>e=.returned (.pointer (some ⟨s,(m-1)*11,none⟩))∧w'=w:=fun w=>by
  have:=WL s (m-1) cap w (by omega)
  rw[show m-1+1=m by omega] at this
  exact this
 have HT:=Qq ht;clear ht d0 d1 a;go_enter Tryz.func118,Tryz.ntmps118
 go_wp2_with fail;refine(QF H.out).mono ?_
 rintro r w1 ⟨rfl,k1,rfl⟩;go_wp2_with fail;refine(HT.out _).mono ?_
 rintro r w2 ⟨rfl,rfl⟩;go_wp2;go_ret;exact⟨rfl,_,rfl⟩
theorem Wd.Ck {W:Wd}{g:Nat}{G:Gt}(h:W.gs[g]?=some G):W.g g=G:=by unfold Wd.g;rw[List.getD_eq_getElem?_getD,h];rfl
theorem Wd.WS {W:Wd}{g:Nat}(h:g<W.gs.length):W.gs[g]?=some (W.g g):=by unfold Wd.g;rw[List.getD_eq_getElem?_getD,List.getElem?_eq_getElem h];rfl
theorem Wa.fits.Yn {D:Wa}{W:Wd}(h:D.fits W){g:Nat}(hg:g<W.gs.length):∃s cap,D.sk[g]?=some (s,cap):=by
 have:g<D.sk.length:=by rw[h.g];exact hg
 exact⟨_,_,List.getElem?_eq_getElem this⟩
theorem YT {w0 w:World}{p:Nat}{W:Wd}{D:Wa}{T:List Value}{R:List zy}(h:Own w0 w (zh p W D T++R)){g s cap:Nat}(hg:g<W.gs.length)(hs:D.sk[g]?=some (s,cap)):zR w s (W.g g).n cap (W.g g).z∧w0.heap.size≤s:=by
 obtain⟨F,⟨rfl,h1⟩,h2⟩:=(h.pick 3 rfl).WG (Yl hs (Wd.WS hg))
 exact⟨h1,h2 s (by simp)⟩
theorem Yx {w0 w:World}{p:Nat}{W:Wd}{D:Wa}{T:List Value}{R:List zy}(h:Own w0 w (zh p W D T++R)){g s cap:Nat}(hg:g<W.gs.length)(hs:D.sk[g]?=some (s,cap)) :
  ∃b off,D.aa=some ⟨b,off,none⟩∧w.cell? ⟨b,off+g*2,none⟩=some (.int .i64 (W.g g).st)∧w.frozen? ⟨b,off+g*2,none⟩=false∧w.cell? ⟨b,off+g*2+1,none⟩=some (.slice (some ⟨s,0,none⟩) (W.g g).n cap)∧w.frozen? ⟨b,off+g*2+1,none⟩=false:=by
 have hr:=h.yZ 2 rfl;obtain⟨b,off,h1,h2,h3⟩:=L0 hr.cells hs (Wd.WS hg)
 rw[h1] at hr;have hn:=hr.2.1;obtain⟨v,k1,k2⟩:=hr.spot (g*2) (by omega)
 obtain⟨v',k3,k4⟩:=hr.spot (g*2+1) (by omega)
 exact⟨b,off,h1,h2,k2,h3,by rw[Nat.add_assoc];exact k4⟩
theorem T8 {w0 w:World}{p q:Nat}{W:Wd}{D:Wa}{T:List Value}{R:List zy}(h:Own w0 w (zh p W D T++R)){g s cap b off:Nat}{cs:List Value}(hq:zF w q (.pointer (some ⟨p,0,none⟩)::.int .i64 (g:Int)::cs))(hg:g<W.gs.length)(hs:D.sk[g]?=some (s,cap))(ha:D.aa=some ⟨b,off,none⟩)(hm:1≤(W.g g).n∧(W.g g).n≤16) :
  Q6 w q p g b off s (W.g g).n cap W.gs.length D.ac:=by
 obtain⟨b',off',h1,h2,-,h3,-⟩:=Yx h hg hs;rw[ha] at h1;simp only[Option.some.injEq,Addr.mk.injEq,and_true] at h1;obtain⟨rfl,rfl⟩:=h1;have h4:=(h.zo 0 rfl 2 _ rfl).1
 rw[ha] at h4;exact⟨(hq 0 _ rfl).1,(hq 1 _ rfl).1,h4,h3,hg,hm⟩
theorem Wo {α β:Type}{l:List α}{m:List β}{i:Nat}{a:α}{b:β}(ha:l[i]?=some a)(hb:m[i]?=some b):(List.zip l m)[i]?=some (a,b):=by rw[List.getElem?_zip_eq_some];exact⟨ha,hb⟩
theorem Ru (sk:List (Nat×Nat))(gs:List Gt)(g:Nat)(G:Gt)(h:∀G0,gs[g]?=some G0→G0.st=G.st∧G0.n=G.n):YE sk (gs.set g G)=YE sk gs:=by
 by_cases hz:g<(List.zip sk gs).length
 ·have h1:g<sk.length:=by rw[List.length_zip] at hz;omega
  have h2:g<gs.length:=by rw[List.length_zip] at hz;omega
  have e1:YE sk (gs.set g G)=YE (sk.set g sk[g]) (gs.set g G):=by rw[List.set_getElem_self]
  have e2:YE sk gs=YE (sk.set g sk[g]) (gs.set g gs[g]):=by rw[List.set_getElem_self,List.set_getElem_self]
  obtain⟨k1,k2⟩:=h _ (List.getElem?_eq_getElem h2)
  rw[e1,e2,←VH _ _ _ _ _ hz,←VH _ _ _ _ _ hz,k1,k2]
 ·unfold YE
  congr 1
  apply List.ext_getElem?
  intro j;simp only[List.length_zip] at hz;by_cases e:g=j
  ·subst e
   rw[List.getElem?_eq_none (by simp;omega),List.getElem?_eq_none (by simp;omega)]
  ·simp only[List.getElem?_zip_eq_some,List.zip,List.getElem?_zipWith,List.getElem?_set_ne e]
theorem Wa.fits.ye {D:Wa}{W:Wd}(h:D.fits W)(g:Nat)(G:Gt):D.fits (W.ye g G):=⟨h.f,by have:=h.g;simp[Wd.ye,this],h.c,h.n,h.l,h.k⟩
theorem FA {w0 w:World}{p:Nat}{W:Wd}{D:Wa}{T:List Value}{R:List zy}(h:Own w0 w (zh p W D T++R)){g s cap:Nat}(hg:g<W.gs.length)(hs:D.sk[g]?=some (s,cap))(j:Nat)(v:Int) :
  Own w0 (w.setCell ⟨s,j,none⟩ (.int .i64 v)) (zh p (W.ye g { W.g g with z:=(W.g g).z.set j v }) D T++R):=by
 obtain⟨R',h1,h2⟩:=(h.pick 3 rfl).ZZ (Yl hs (Wd.WS hg))
 have h3:=Own.PM (As:=[Yp s (W.g g).n cap (W.g g).z]) (As':=[Yp s (W.g g).n cap ((W.g g).z.set j v)]) (R:=_) h1 (w':=w.setCell ⟨s,j,none⟩ (.int .i64 v)) (fun F hF=>by
  obtain⟨rfl,k⟩:=xo.1 hF;exact⟨[s],xo.2 ⟨rfl,k.set j v⟩,(zI.refl _ _).setCell _ (.inl (by simp)),fun x hx=>.inl hx⟩)
 have h4:=h2 _ _ _ h3;have e:=Wh D.sk W.gs g (s,cap) { W.g g with z:=(W.g g).z.set j v }
 simp only at e
 rw[e,yt _ _ _ hs] at h4;have h5:=h4.back (i:=3) (As:=zh p W D T++R) (by simp[zh])
 have e2:YE D.sk (W.gs.set g { W.g g with z:=(W.g g).z.set j v })=YE D.sk W.gs:=Ru _ _ _ _ (fun G0 h0=>by rw[Wd.Ck h0];exact⟨rfl,rfl⟩)
 have e3:(zh p W D T++R).set 3 (yT (YZ D.sk (W.gs.set g { W.g g with z:=(W.g g).z.set j v })))=zh p (W.ye g { W.g g with z:=(W.g g).z.set j v }) D T++R:=by
  simp only[zh,Wd.ye,yD,e2,List.length_set];rfl
 rw[e3] at h5;exact h5
theorem VE {w0 w:World}{p:Nat}{W:Wd}{D:Wa}{T:List Value}{R:List zy}(h:Own w0 w (zh p W D T++R)){g s cap:Nat}(hg:g<W.gs.length)(hs:D.sk[g]?=some (s,cap))(a:Nat)(v:Int) :
  Own w0 (w.setCell ⟨s,((W.g g).n-1)*11+2+a,none⟩ (.int .i64 v)) (zh p (W.put g (a:Int) v) D T++R):=FA h hg hs _ v
theorem Va {w0 w:World}{p:Nat}{W:Wd}{D:Wa}{T:List Value}{R:List zy}(h:Own w0 w (zh p W D T++R))(hf:D.fits W){g b off:Nat}(hg:g<W.gs.length)(ha:D.aa=some ⟨b,off,none⟩)(v:Int) :
  Own w0 (w.setCell ⟨b,off+g*2,none⟩ (.int .i64 v)) (zh p (W.zQ g v) D T++R):=by
 obtain⟨s,cap,hs⟩:=hf.Yn hg;have hzl:g<(List.zip D.sk W.gs).length:=by rw[List.length_zip,hf.g];omega
 have h1:=h.pick 2 rfl;rw[ha] at h1;have h2:=h1.ZG (g*2) (.int .i64 v) (by rw[OR];omega)
 rw[←ha] at h2;have e:(YE D.sk W.gs).set (g*2) (.int .i64 v)=YE D.sk (W.gs.set g { W.g g with st:=v }):=by
  have k:=VH D.sk W.gs g (s,cap) { W.g g with st:=v } hzl
  rw[yt _ _ _ hs] at k;rw[←k];have hc:((YE D.sk W.gs).set (g*2) (.int .i64 v))[g*2+1]?=some (.slice (some ⟨s,0,none⟩) (W.g g).n cap):=by
   rw[List.getElem?_set_ne (by omega)]
   have:=Zx (fun x:(Nat×Nat)×Gt=>[.int .i64 x.2.st,.slice (some ⟨x.1.1,0,none⟩) x.2.n x.1.2]) 2 (fun _=>rfl) (List.zip D.sk W.gs) g 1 hzl (by omega)
   have hz:=(List.getElem?_eq_some_iff.1 (Wo hs (Wd.WS hg))).2
   rw[hz] at this;exact this
  exact(yt _ _ _ hc).symm
 rw[e] at h2;have h3:=h2.back (i:=2) (As:=zh p W D T++R) (by simp[zh])
 have e2:YZ D.sk (W.gs.set g { W.g g with st:=v })=YZ D.sk W.gs:=by
  have:=Wh D.sk W.gs g (s,cap) { W.g g with st:=v }
  rw[yt _ _ _ hs] at this;rw[←this];have k:(YZ D.sk W.gs)[g]?=some (Yp s (W.g g).n cap (W.g g).z):=Yl hs (Wd.WS hg)
  exact yt _ _ _ k
 have e3:(zh p W D T++R).set 2 (zd 2 D.aa D.ac W.gs.length (YE D.sk (W.gs.set g { W.g g with st:=v })))=zh p (W.zQ g v) D T++R:=by
  simp only[zh,Wd.zQ,Wd.ye,yD,e2,List.length_set];rfl
 rw[e3] at h3;exact h3
theorem J2 {w0 w:World}{p:Nat}{W:Wd}{D:Wa}{T:List Value}{R:List zy}{s' n' cap':Nat}{z':List Int}(h:Own w0 w (Yp s' n' cap' z'::(zh p W D T++R)))(hf:D.fits W){g b off:Nat}(hg:g<W.gs.length)(ha:D.aa=some ⟨b,off,none⟩) :
  Own w0 (w.setCell ⟨b,off+g*2+1,none⟩ (.slice (some ⟨s',0,none⟩) n' cap')) (zh p (W.ye g ⟨(W.g g).st,n',z'⟩) { D with sk:=D.sk.set g (s',cap') } T++R)∧({ D with sk:=D.sk.set g (s',cap') }:Wa).fits (W.ye g ⟨(W.g g).st,n',z'⟩):=by
 obtain⟨s,cap,hs⟩:=hf.Yn hg;have hzl:g<(List.zip D.sk W.gs).length:=by rw[List.length_zip,hf.g];omega
 refine⟨?_,⟨hf.f,by have:=hf.g;simp[Wd.ye,this],hf.c,hf.n,hf.l,hf.k⟩⟩
 obtain⟨R',k1,k2⟩:=(h.pick 4 rfl).ZZ (Yl hs (Wd.WS hg))
 have k3:=k1.drop;have k4:Own w0 w (Yp s' n' cap' z'::(R'++[zf p (yD W D++T),Xl D.fa D.fr W.fs D.ca W.ks,zd 2 D.aa D.ac W.gs.length (YE D.sk W.gs),zd 1 D.ha D.hc W.Cs.length (xR (List.zip D.ps W.Ns)),yT (YF (List.zip D.ps W.Ns) W.Cs),
  zd 1 D.la D.lc W.Ls.length (W8 D.lp),yT (RH D.lp W.Ls),xx D.sv W.hp,zd 1 D.oa D.oc W.out.length (zr W.out)]++R)):=by
  rw[List.append_assoc];exact k3.perm List.perm_middle
 rw[List.append_assoc] at k4;have k5:=(k2 _ _ _ k4).pick 3 rfl
 rw[ha] at k5;have k6:=k5.ZG (g*2+1) (.slice (some ⟨s',0,none⟩) n' cap') (by rw[OR];omega)
 rw[←ha,←Nat.add_assoc] at k6;have e:(YE D.sk W.gs).set (g*2+1) (.slice (some ⟨s',0,none⟩) n' cap')=YE (D.sk.set g (s',cap')) (W.gs.set g ⟨(W.g g).st,n',z'⟩):=by
  have k:=VH D.sk W.gs g (s',cap') ⟨(W.g g).st,n',z'⟩ hzl
  rw[←k];have hc:(YE D.sk W.gs)[g*2]?=some (.int .i64 (W.g g).st):=by
   have:=Zx (fun x:(Nat×Nat)×Gt=>[.int .i64 x.2.st,.slice (some ⟨x.1.1,0,none⟩) x.2.n x.1.2]) 2 (fun _=>rfl) (List.zip D.sk W.gs) g 0 hzl (by omega)
   have hz:=(List.getElem?_eq_some_iff.1 (Wo hs (Wd.WS hg))).2
   rw[hz] at this;exact this
  rw[yt _ _ _ hc]
 have e2:=Wh D.sk W.gs g (s',cap') ⟨(W.g g).st,n',z'⟩
 simp only at e2
 rw[e,e2] at k6;have k7:=(k6.pick 3 rfl).pick 3 rfl
 have e3:zh p (W.ye g ⟨(W.g g).st,n',z'⟩) { D with sk:=D.sk.set g (s',cap') } T++R=[zf p (yD W D++T),Xl D.fa D.fr W.fs D.ca W.ks,zd 2 D.aa D.ac W.gs.length (YE (D.sk.set g (s',cap')) (W.gs.set g ⟨(W.g g).st,n',z'⟩)),yT (YZ (D.sk.set g (s',cap')) (W.gs.set g ⟨(W.g g).st,n',z'⟩)),zd 1 D.ha D.hc W.Cs.length (xR (List.zip D.ps W.Ns)),yT (YF (List.zip D.ps W.Ns) W.Cs),
  zd 1 D.la D.lc W.Ls.length (W8 D.lp),yT (RH D.lp W.Ls),xx D.sv W.hp,zd 1 D.oa D.oc W.out.length (zr W.out)]++R:=by
  simp only[zh,Wd.ye,yD,List.length_set]
 rw[e3];exact k7
section
variable {P:Program} {ops:Array Oper} {Q:Exit→Act→World→Prop} {S:World→Prop} {md:Region.Mode}
def Oh (md:Region.Mode)(ops:Array Oper)(i:Nat):Bool:=(List.range ops.size).all fun j=>j==i||(match ops[i]? with
 | some o=>o.after.any fun e=>Region.binds md e&&e.on==j
 | none=>false)
def Zm (P:Program)(md:Region.Mode)(ops:Array Oper)(Q:Exit→Act→World→Prop)(S:World→Prop):Nat→Array Bool→Act→World→Prop
 | 0,listed,a,w=>Region.ready md ops listed=[]∧Q .normal a w
 | fuel+1,listed,a,w =>
  (Region.ready md ops listed=[]→Q .normal a w) ∧
  ∀i∈Region.ready md ops listed,wpOp P ops Q i (fun a' w'=>(Oh md ops i=true∨S w')∧Zm P md ops Q S fuel (listed.setIfInBounds i true) a' w') a w
theorem UC:∀(fuel:Nat) (listed:Array Bool) (a:Act) (w:World),Zm P md ops Q S fuel listed a w→wpAny P md ops Q fuel listed a w
 | 0,_,_,_,h=>h
 | fuel+1,_,_,_,h=>⟨h.1,fun i hi=>wpOp_mono (fun a' w' h'=>UC fuel _ a' w' h'.2) (h.2 i hi)⟩
theorem Mk {i j:Nat}{listed:Array Bool}(hj:j∈Region.ready md ops listed)(hi:i∈Region.ready md ops listed)(hne:j≠i)(hil:i<ops.size)(he:Oh md ops j=true):False:=by
 obtain⟨_,oj,hoj,hall⟩:=mem_ready.1 hj;unfold Oh at he;rw[List.all_eq_true] at he;have h1:=he i (List.mem_range.2 hil)
 rw[hoj,Bool.or_eq_true] at h1;rcases h1 with h1|h1
 ·exact hne (by simpa using Eq.symm (by simpa using h1))
 ·obtain⟨e,he1,he2⟩:=Array.any_eq_true'.1 h1
  rw[Bool.and_eq_true] at he2;have h2:=hall e he1 he2.1;have h3:e.on=i:=by simpa using he2.2
  rw[h3] at h2;have h0:=(mem_ready.1 hi).1
  rcases Nat.lt_or_ge i listed.size with h'|h'
  ·simp[h'] at h0 h2;rw[h0] at h2;cases h2
  ·simp[Array.getElem?_eq_none h'] at h2
theorem YM {i:Nat}{oi:Oper}{v:Value}(hi:ops[i]?=some oi)(hsel:∀(j:Nat) (o:Oper) cs b,ops[j]?=some o→o.op≠.select cs b)
  (hQ:∀c a w,Q (.panic c) (a.put oi.dst v) w→Q (.panic c) a w) :
  ∀(fuel:Nat) (listed:Array Bool) (a:Act) (w:World),
   (∀j oj,ops[j]?=some oj→j≠i→listed.getD j true=false→(∀e∈oj.after,Region.binds md e=true→e.on≠i)→oi.apart ops oj=true) →
   i∈Region.ready md ops listed→YieldsIf P ops S oi v a→S w →
   Zm P md ops Q S fuel (listed.setIfInBounds i true) (a.put oi.dst v) w→Zm P md ops Q S (fuel+1) listed a w
 | 0,listed,a,w,_,hr,hy,hS,H=>by
  refine⟨fun h=>(by rw[h] at hr;cases hr),fun j hj=>?_⟩
  by_cases hji:j=i
  ·subst hji;exact hy.wpOp hi hS ⟨.inr hS,H⟩
  ·have:=ready_mono hj hji
   rw[H.1] at this;cases this
 | fuel+1,listed,a,w,hfree,hr,hy,hS,H=>by
  refine⟨fun h=>(by rw[h] at hr;cases hr),fun j hj=>?_⟩
  by_cases hji:j=i
  ·subst hji;exact hy.wpOp hi hS ⟨.inr hS,H⟩
  ·have h1:=H.2 j (ready_mono hj hji)
   obtain⟨hjun,oj,hoj,hall⟩:=mem_ready.1 hj;have hil:i<ops.size:=(Array.getElem?_eq_some_iff.1 hi).1
   have hnot:∀e∈oj.after,Region.binds md e=true→e.on≠i:=fun e he hb heq=>by
    have h2:=hall e he hb;have h0:=(mem_ready.1 hr).1
    rw[heq] at h2;rcases Nat.lt_or_ge i listed.size with h'|h'
    ·simp[h'] at h0 h2;rw[h0] at h2;cases h2
    ·simp[Array.getElem?_eq_none h'] at h2
   refine wpOp_mono (fun a' w' h3=>?_) (wpOp_putIf hoj (hfree j oj hoj hji hjun hnot) (fun cs b=>hsel i oi cs b hi) (fun cs b=>hsel j oj cs b hoj) hQ hy h1)
   have hS':S w':=by
    rcases h3.2.1 with h4|h4
    ·exact(Mk hj hr hji hil h4).elim
    ·exact h4
   refine⟨.inr hS',YM hi hsel hQ fuel (listed.setIfInBounds j true) a' w' (fun k ok hk hki hun hno=>hfree k ok hk hki ?_ hno) (ready_mono hr (Ne.symm hji)) h3.1 hS' ?_⟩
   ·by_cases hjk:j=k
    ·subst hjk;exact hjun
    ·rw[getD_set_ne true hjk] at hun;exact hun
   ·rw[Array.setIfInBounds_comm _ _ hji]
    exact h3.2.2
theorem Xe (hs:Region.noSelect ops=true)(hQ:∀(d:Option Tmp) (v:Value) c a w,Q (.panic c) (a.put d v) w→Q (.panic c) a w)(fuel:Nat)(w:World)(hS:S w) :
  ∀(l:List Oper) (k:Nat) (listed:Array Bool) (a:Act),(∀j,j<l.length→l[j]?=ops[k+j]?)→segB ops l.length k listed=true →
   xn P ops S (fun a'=>Zm P .any ops Q S fuel (marks l.length k listed) a' w) l a→Zm P .any ops Q S (l.length+fuel) listed a w
 | [],k,listed,a,_,_,h=>by rw[List.length_nil,Nat.zero_add];exact h
 | o::l,k,listed,a,hl,hB,h=>by
  have h0:ops[k]?=some o:=by simpa using (hl 0 (by simp)).symm
  simp only[List.length_cons,segB,Bool.and_eq_true] at hB;obtain⟨⟨hr,hf⟩,hB⟩:=hB;have hl':∀j,j<l.length→l[j]?=ops[k+1+j]?:=fun j hj=>by have:=hl (j+1) (by simp;omega);simpa [Nat.add_assoc,Nat.add_comm 1 j] using this
  rw[List.length_cons,show l.length+1+fuel=(l.length+fuel)+1 by omega]
  have hr':k∈Region.ready .any ops listed:=by simpa using hr
  rcases h with⟨hw,v,hv,h⟩|⟨hw,h⟩
  ·exact YM h0 (Region.noSelect_spec hs) (fun c a w=>hQ o.dst v c a w) _ listed a w (Region.free_spec h0 hf) hr' (.inl ⟨hw,hv⟩) hS (Xe hs hQ fuel w hS l (k+1) _ _ hl' hB h)
  ·exact YM h0 (Region.noSelect_spec hs) (fun c a w=>hQ o.dst undef c a w) _ listed a w (Region.free_spec h0 hf) hr' (.inr ⟨hw,rfl⟩) hS (Xe hs hQ fuel w hS l (k+1) _ _ hl' hB h)
theorem zY {l:List Oper}(k n:Nat)(listed listed':Array Bool)(fuel:Nat){a:Act}{w:World}(hs:Region.noSelect l.toArray=true)(hQ:∀(d:Option Tmp) (v:Value) c a w,Q (.panic c) (a.put d v) w→Q (.panic c) a w)(hS:S w)
  (hB:(segB l.toArray n k listed&&decide (k+n≤l.length)&&(marks n k listed==listed'))=true) (h:xn P l.toArray S (fun a'=>Zm P .any l.toArray Q S fuel listed' a' w) ((l.drop k).take n) a):Zm P .any l.toArray Q S (n+fuel) listed a w:=by
 simp only[Bool.and_eq_true,decide_eq_true_eq,beq_iff_eq] at hB;obtain⟨⟨hB,hn⟩,rfl⟩:=hB;have hln:((l.drop k).take n).length=n:=by rw[List.length_take,List.length_drop];omega
 have:=Xe (P:=P) (Q:=Q) (S:=S) hs hQ fuel w hS ((l.drop k).take n) k listed a (fun j hj=>by
  rw[hln] at hj;rw[List.getElem?_take,if_pos hj,List.getElem?_drop];simp) (by rw[hln];exact hB) (by rw[hln];exact h)
 rwa [hln] at this
theorem OQ {l:List Oper}{i:Nat}{a:Act}{w:World}{K:Act→World→Prop}(h1:Zq P l.toArray Q K a w (l.drop i)):wpOp P l.toArray Q i K a w:=by
 cases hd:l.drop i with
 | nil=>rw[hd] at h1;exact h1.elim
 | cons o r =>
  rw[hd] at h1;have h0:l.toArray[i]?=some o:=by
   have:(l.drop i)[0]?=some o:=by rw[hd];rfl
   rw[List.getElem?_drop] at this
   simpa using this
  unfold wpOp;simp only[h0];rw[if_pos h1.1];exact .inl h1.2
theorem yq {l:List Oper}(k:Nat)(listed listed':Array Bool)(fuel:Nat){a:Act}{w:World}(hB:(decide (Region.ready .any l.toArray listed=[k])&&(listed.setIfInBounds k true==listed'))=true)
  (h:∀K:Act→World→Prop,(∀a' w',S w'→Zm P .any l.toArray Q S fuel listed' a' w'→K a' w')→Zq P l.toArray Q K a w (l.drop k)):Zm P .any l.toArray Q S (fuel+1) listed a w:=by
 simp only[Bool.and_eq_true,decide_eq_true_eq,beq_iff_eq] at hB;obtain⟨hr,rfl⟩:=hB;refine⟨fun h0=>(by rw[hr] at h0;cases h0),fun i hi=>?_⟩
 rw[hr] at hi;have hik:i=k:=by simpa using hi
 subst hik;exact OQ (h _ (fun a' w' h2 h3=>⟨.inr h2,h3⟩))
theorem Zl {l:List Oper}(k k':Nat)(listed listed' listed'':Array Bool)(fuel:Nat){a:Act}{w:World}(hB:(decide (Region.ready .any l.toArray listed=[k,k'])&&(listed.setIfInBounds k true==listed')&&(listed.setIfInBounds k' true==listed''))=true)
  (h1:∀K:Act→World→Prop,(∀a' w',S w'→Zm P .any l.toArray Q S fuel listed' a' w'→K a' w')→Zq P l.toArray Q K a w (l.drop k))
  (h2:∀K:Act→World→Prop,(∀a' w',S w'→Zm P .any l.toArray Q S fuel listed'' a' w'→K a' w')→Zq P l.toArray Q K a w (l.drop k')):Zm P .any l.toArray Q S (fuel+1) listed a w:=by
 simp only[Bool.and_eq_true,decide_eq_true_eq,beq_iff_eq] at hB;obtain⟨⟨hr,rfl⟩,rfl⟩:=hB;refine⟨fun h0=>(by rw[hr] at h0;cases h0),fun i hi=>?_⟩
 rw[hr] at hi;have hik:i=k∨i=k':=by simpa using hi
 rcases hik with rfl|rfl
 ·exact OQ (h1 _ (fun a' w' h2 h3=>⟨.inr h2,h3⟩))
 ·exact OQ (h2 _ (fun a' w' h2 h3=>⟨.inr h2,h3⟩))
theorem xl {l:List Oper}(k:Nat)(listed listed':Array Bool){a:Act}{w:World}(hB:(decide (Region.ready .any l.toArray listed=[k])&&(listed.setIfInBounds k true==listed')&&Oh .any l.toArray k&&decide (Region.ready .any l.toArray listed'=[]))=true)
  (h:∀K:Act→World→Prop,(∀a' w',Q .normal a' w'→K a' w')→Zq P l.toArray Q K a w (l.drop k)):Zm P .any l.toArray Q S (0+1) listed a w:=by
 simp only[Bool.and_eq_true,decide_eq_true_eq,beq_iff_eq] at hB;obtain⟨⟨⟨hr,rfl⟩,he⟩,h0⟩:=hB;refine⟨fun h0=>(by rw[hr] at h0;cases h0),fun i hi=>?_⟩
 rw[hr] at hi;have hik:i=k:=by simpa using hi
 subst hik;exact OQ (h _ (fun a' w' h3=>⟨.inl he,h0,h3⟩))
theorem xY {id:Nat}{a:Act}{w:World}{l:List Oper}(S:World→Prop)(fuel:Nat)(listed:Array Bool)(hm:P.follows .mixedOrders=true)(hB:(decide (l.length=fuel)&&(Array.replicate l.length false==listed))=true)
  (h:Zm P .any l.toArray (NoPanic Q) S fuel listed a w.drew):(Code.region id l.toArray true).wp P Q a w:=by
 simp only[Bool.and_eq_true,decide_eq_true_eq,beq_iff_eq] at hB;obtain⟨rfl,rfl⟩:=hB;exact wp_region_noPanic (wp_region_any hm (UC _ _ _ _ (by simpa using h)))
end
end Go.Proofs.YtlkjheheofgdgaaGreat
