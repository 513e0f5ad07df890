/-
  Texts put together: SdPick, EnM, SdStepW, SdGets, SdNewW, SdShow, SdCnt, SdApA, WGrd1, WGrd2, SdLaw, SdApt, SdAwk, SdCfg, WCode1, WCode2, WCode3, WCode4, WCode5, WCRef0, WCRef1, WCRef2, WCRef3, WCRef4, WCRef5, WCRow, CodeR.
-/
import Derived.Test.YtlkjheheofgdgaaGreatLo6
import Derived.Test.YtlkjheheofgdgaaGreatLo5
import Derived.Maps.OwnSet
import Derived.WalkArith
import Derived.Recover
import Derived.Tactics
import Derived.Tactics2
import Derived.Deep.CutBlock
import Derived.Test.YtlkjheheofgdgaaGreatLo1
import Derived.Test.YtlkjheheofgdgaaGreatLo2
import Derived.Test.YtlkjheheofgdgaaGreatRows
import Derived.Deep.QuietTactic
import Derived.BigQuiet
import Derived.WalkSmall
import Derived.Deep.DeepCutAuto
import Derived.RegionTactic
import Derived.Deep.RegionHeld3
import Derived.Deep.RegionWith
import Derived.Deep.RegionLaw
import Derived.LoopTactic
set_option maxRecDepth 100000
set_option maxHeartbeats 16000000
set_option linter.unusedSimpArgs false
set_option linter.unusedVariables false
open Go Go.RowKit
namespace Go.Proofs.YtlkjheheofgdgaaGreat
def UK (e:Ev)(ra:Option Addr)(rc:Nat):Value:=.agg #[.int .i64 e.kind,.int .i64 e.M,.int .i64 e.G,.slice ra e.rd.length rc]
def Y8:List Value:=[.int .i64 0,.int .i64 0,.int .i64 0,.slice none 0 0]
theorem Y2 {w:World}{q:Nat}{a b c:Int}{ra:Option Addr}{n rc:Nat}(e0:w.cell? ⟨q,0,none⟩=some (.int .i64 a))(e1:w.cell? ⟨q,1,none⟩=some (.int .i64 b))(e2:w.cell? ⟨q,2,none⟩=some (.int .i64 c))(e3:w.cell? ⟨q,3,none⟩=some (.slice ra n rc)) :
  (loadVar 54 ⟨q,0,none⟩).run Tryz.prog w=.ok (.agg #[.int .i64 a,.int .i64 b,.int .i64 c,.slice ra n rc]) w:=by
 simp[go_sem,e0,e1,e2,e3]
theorem Mq {w0 w:World}{b sp:Nat}{L:Sl}{X:Sd}{R:List zv}{B:Nat}(h:zG w0 w b sp L X R)(wf:yF B X)(hB:B≤80000) :
  Calls Tryz.prog 71 #[.pointer (some ⟨b,0,none⟩)] w fun r w'=>∃ra rc,r=.returned (UK (yd X X.ms.length 0).2 ra rc)∧zG w0 w' b sp L (yd X X.ms.length 0).1 (zd 1 ra rc (yd X X.ms.length 0).2.rd.length (zt (yd X X.ms.length 0).2.rd)::R):=by
 have hpk:yd X X.ms.length 0=((Xy X).1,⟨1,-1,-1,(Xy X).2⟩):=by unfold yd;rw[if_pos rfl]
 rw[hpk];unfold Xy UK;simp only
 have h1:=h.box Y8 54;have HT:=Qq (Jt h1 wf.wf hB)
 have hl:(yY X.W).2.length≤100:=by
  have tk:=PM wf.wf;have hw:=wf.wf.tick.1;refine Nat.le_trans (ZY _ _ tk.nd (fun x hx=>?_)) hw.g1.2
  obtain⟨q,e,-,hs⟩:=tk.st x hx;refine⟨by omega,?_⟩
  rcases Nat.lt_or_ge q (yY X.W).1.gs.length with h1|h1
  ·omega
  ·rw[Ww (by omega)] at hs;exact absurd hs (by decide)
 have hgl:=wf.gl;generalize htk:yY X.W=tk at *
 obtain⟨W1,rd⟩:=tk;simp only at HT hl ⊢
 obtain⟨N,hN⟩:∃N,N=rd.length:=⟨_,rfl⟩
 rw[←hN] at HT hl ⊢;have HN:=Qq hN;have HPUT:=Qq (fun(wx:World) (a:Option Addr) (c:Nat) (Z:List zv) (hx:zG w0 wx b sp L { X with W:=W1 } (zd 1 a c N (zt rd)::Z))=>(by
  obtain⟨S,k1,k2⟩:=hx.tail;have hr:=Own.xl k1 0 rfl;exact XB hx a N c rd HN.out (zT.Lq hr).1.ints (by rw[←HN.out];show X.gl.length+N≤_;omega):Calls Tryz.prog 39 #[.pointer (some ⟨b,14,none⟩),.slice a N c] wx fun r w'=>r=.returned (.tuple #[])∧zG w0 w' b sp L { X with W:=W1,gl:=X.gl++rd } (zd 1 a c N (zt rd)::Z)))
 have H1:=Qq h1;clear h h1 wf hl hgl htk hN hpk;unfold Y8 at H1 HT;go_enter Tryz.func71,Tryz.ntmps71
 go_upto_region 1 with fail
 generalize w.alloc (.cells [.int .i64 0,.int .i64 0,.int .i64 0,.slice none 0 0].toArray 54)=w1 at *
 go_wp2_with fail;refine HT.out.mono ?_
 rintro r w2 ⟨ra,rc,rfl,h2⟩;have HP:=Qq (HPUT.out _ _ _ _ h2)
 clear h2 HPUT HT;go_wp2_with fail;refine HP.out.mono ?_
 rintro r w3 ⟨rfl,h3⟩;have h4:=h3.perm (List.Perm.swap _ _ _)
 generalize w.heap.size=q at *;obtain⟨x0,y0⟩:=h4.zi 0 _ rfl;obtain⟨x1,y1⟩:=h4.zi 1 _ rfl;obtain⟨x2,y2⟩:=h4.zi 2 _ rfl;obtain⟨x3,y3⟩:=h4.zi 3 _ rfl;have h5:=(((h4.zJ 0 (.int .i64 1)).zJ 1 (.int .i64 (-1))).zJ 2 (.int .i64 (-1))).zJ 3 (.slice ra N rc)
 obtain⟨u0,-⟩:=h5.zi 0 _ rfl;obtain⟨u1,-⟩:=h5.zi 1 _ rfl;obtain⟨u2,-⟩:=h5.zi 2 _ rfl;obtain⟨u3,-⟩:=h5.zi 3 _ rfl;have H5:=Qq h5.less;clear h3 h4 h5 H1 HP;have EG:=Y2 u0 u1 u2 u3;go_wp2;exact bodyPost_ret (zu Tryz.results71 _ ⟨q,0,none⟩ rfl EG) rfl ⟨ra,rc,rfl,H5.out⟩
theorem Zs {α:Type _}{a b:α}{A R:List α}:List.Perm (a::b::(A++R)) (A++(a::b::R)):=(List.Perm.cons a List.perm_middle.symm).trans List.perm_middle.symm
theorem Md {α:Type _}{a b c r:α}{A R:List α}:List.Perm (r::(A++(a::b::c::R))) (a::b::c::r::(A++R)):=(List.Perm.cons r (List.perm_middle.trans (List.Perm.cons a (List.perm_middle.trans (List.Perm.cons b List.perm_middle))))).trans ((List.Perm.swap _ _ _).trans (List.Perm.cons a ((List.Perm.swap _ _ _).trans (List.Perm.cons b (List.Perm.swap _ _ _)))))
theorem XW {α:Type _}{a b c:α}{A R:List α}:List.Perm (c::a::b::(A++R)) (A++(a::b::c::R)):=(List.Perm.cons c Zs).trans (List.perm_middle.symm.trans (List.Perm.append_left A (List.perm_middle (l₁:=[a,b]) (l₂:=R)).symm))
def Xa (w0:World)(b sp:Nat)(L:Sl)(D:UU sp)(s:D.T)(X:Sd)(R:List zv)(j m:Nat)(r:Ending)(w':World):Prop :=
 (∃v s' ra rc,Fit D s (xy X m) v s'∧D.ok j s'∧r=.returned (UK (yd X m v).2 ra rc)∧zG w0 w' b sp L (yd X m v).1 (zd 1 ra rc (yd X m v).2.rd.length (zt (yd X m v).2.rd)::(D.A s'++R))) ∨
 (∃ch s' kd n,r=.panicked ch∧xy X m=some (kd,n)∧D.Dp s kd n r s'∧D.ok j s'∧zG w0 w' b sp L X (D.A s'++R))
theorem zG.Vc {w0 w:World}{b sp:Nat}{L:Sl}{X:Sd}{R:List zv}(h:zG w0 w b sp L X R):zG w0 w b sp L X (zd 1 none 0 0 []::R):=by
 obtain⟨S,h1,h2⟩:=h.tail;exact h2 _ _ (Own.VD 1 h1)
theorem QO {w0 w:World}{b sp:Nat}{L:Sl}{X:Sd}{R:List zv}{D:UU sp}{s:D.T}{j B:Nat}(h:zG w0 w b sp L X (D.A s++R))(hok:D.ok (j+1) s)(wf:yF B X)(hB:B≤80000) :
  Calls Tryz.prog 51 #[.pointer (some ⟨b,0,none⟩),.int .i64 (X.ms.length:Int)] w (Xa w0 b sp L D s X R j X.ms.length):=by
 have h1:=h.box Y8 54;have HT:=Qq (Mq h1 wf hB)
 obtain⟨C13,xS⟩:=h1.xS;have ha:xy X X.ms.length=none:=by unfold xy;rw[if_pos rfl]
 have HEND:Hid (∀ra rc wx rr,rr=Ending.returned (UK (yd X X.ms.length 0).2 ra rc)→zG w0 wx b sp L (yd X X.ms.length 0).1 (zd 1 ra rc (yd X X.ms.length 0).2.rd.length (zt (yd X X.ms.length 0).2.rd)::(D.A s++R))→Xa w0 b sp L D s X R j X.ms.length rr wx):=Qq (fun ra rc wx rr e hx=>.inl ⟨0,s,ra,rc,.inl ⟨ha,rfl,rfl⟩,D.less _ _ hok,e,hx⟩)
 generalize yd X X.ms.length 0=pk at *;obtain⟨Y,k0,M0,G0,rd⟩:=pk;unfold UK at HT HEND;simp only at HT HEND
 obtain⟨K,hK⟩:∃K,K=X.ms.length:=⟨_,rfl⟩
 rw[←hK] at xS HEND ⊢;generalize rd.length=N at *;clear h h1 hok wf ha hK;unfold Y8 at HT xS;go_enter Tryz.func51,Tryz.ntmps51
 go_upto_region 1 with fail
 generalize w.alloc (.cells [.int .i64 0,.int .i64 0,.int .i64 0,.slice none 0 0].toArray 54)=w1 at *
 go_wp2_with fail;refine HT.out.mono ?_
 rintro r w2 ⟨ra,rc,rfl,h2⟩;generalize w.heap.size=q at *;have h3:=h2.perm (List.Perm.swap _ _ _)
 obtain⟨x0,y0⟩:=h3.zi 0 _ rfl;obtain⟨x1,y1⟩:=h3.zi 1 _ rfl;obtain⟨x2,y2⟩:=h3.zi 2 _ rfl;obtain⟨x3,y3⟩:=h3.zi 3 _ rfl;have h5:=(((h3.zJ 0 (.int .i64 k0)).zJ 1 (.int .i64 M0)).zJ 2 (.int .i64 G0)).zJ 3 (.slice ra N rc)
 have EG:=Y2 (h5.zi 0 _ rfl).1 (h5.zi 1 _ rfl).1 (h5.zi 2 _ rfl).1 (h5.zi 3 _ rfl).1
 have H5:=Qq h5.less;clear h2 h3 h5 HT;go_wp2;exact bodyPost_ret (zu Tryz.results51 _ ⟨q,0,none⟩ rfl EG) rfl (HEND.out ra rc _ _ rfl H5.out)
theorem Mj {w0 w:World}{b sp:Nat}{L:Sl}{X:Sd}{R:List zv}{D:UU sp}{s:D.T}{j B:Nat}(h:zG w0 w b sp L X (D.A s++R))(hok:D.ok (j+1) s)(wf:yF B X)(hB:B≤80000){m:Nat}(hm:m<X.ms.length)(hP:(X.m m).P = -1) :
  Calls Tryz.prog 51 #[.pointer (some ⟨b,0,none⟩),.int .i64 (m:Int)] w (Xa w0 b sp L D s X R j m):=by
 obtain⟨mb,off2,hma⟩:=h.ma hm;have hne:((m:Int)==(X.ms.length:Int))=false:=by rw[beq_eq_false_iff_ne];omega
 have hnp:=wf.np;have hnm:=wf.nm;have hmX:(m:Int)<(X.ms.length:Int):=by omega
 have hm0:(0:Int)≤(m:Int):=by omega
 have h1:=h.box Y8 54;obtain⟨C13,xS⟩:=h1.xS;rw[hma] at xS;obtain⟨K,hK⟩:∃K,K=X.ms.length:=⟨_,rfl⟩
 have HC13:=Qq (fun(wx:World) (Z:List zv) (hx:zG w0 wx b sp L X Z)=>(by
  obtain⟨C,hc⟩:=hx.xS;rw[hma,←hK] at hc;exact⟨C,hc⟩:∃C,wx.cell? ⟨b,13,none⟩=some (.slice (some ⟨mb,off2,none⟩) K C)))
 have HM:=Qq (fun(wx:World) (Z:List zv) (hx:zG w0 wx b sp L X Z)=>hx.xQ hm hma)
 have H1:=Qq h1;rw[←hK] at xS hne hmX;have ha:xy X m=none:=by unfold xy;rw[if_neg (by omega),if_pos hP]
 have hpk:∀v,yd X m v=((holdM X m).1,⟨(holdM X m).2,(m:Int),-1,[]⟩):=fun v=>by unfold yd;rw[if_neg (by omega),if_pos hP]
 have HH:=Qq (fun(wx:World) (Z:List zv) (hx:zG w0 wx b sp L X Z)=>L7 hx hm (by omega) (by omega))
 have HEND:Hid (∀wx rr,rr=Ending.returned (.agg #[.int .i64 (holdM X m).2,.int .i64 (m:Int),.int .i64 (-1),.slice none 0 0])→zG w0 wx b sp L (holdM X m).1 (D.A s++R)→Xa w0 b sp L D s X R j m rr wx):=Qq (fun wx rr e hx=>.inl ⟨0,s,none,0,.inl ⟨ha,rfl,rfl⟩,D.less _ _ hok,by rw[hpk,e];rfl,by rw[hpk];exact hx.Vc⟩)
 generalize holdM X m=hd at *;obtain⟨Y,kd⟩:=hd;simp only at HH HEND
 rw[hP] at HM;obtain⟨mP,hmP⟩:∃mP:Int,mP = -1:=⟨_,rfl⟩
 generalize (X.m m).G=mG at *
 generalize (X.m m).L=mL at *
 rw[←hmP] at HM;have HmP:=Qq hmP;clear h h1 hok wf hnp hnm hma ha hpk hm hP hK hmP;unfold Y8 at H1 xS;go_enter Tryz.func51,Tryz.ntmps51
 go_upto_region 1 with fail
 generalize w.alloc (.cells [.int .i64 0,.int .i64 0,.int .i64 0,.slice none 0 0].toArray 54)=w1 at *
 generalize w.heap.size=q at *;go_upto_region 4 with fail
 have H2:=Qq (H1.out.box [.int .i64 0,.int .i64 (m:Int),.int .i64 (-1),.slice none 0 0] 54)
 clear H1 xS;generalize w1.alloc (.cells #[.int .i64 0,.int .i64 (m:Int),.int .i64 (-1),.slice none 0 0] 54)=w2 at *
 generalize w1.heap.size=q5 at *;obtain⟨C2,d13⟩:=HC13.out _ _ H2.out;obtain⟨⟨z0,z1,z2⟩,-⟩:=HM.out _ _ H2.out;have H3:=Qq (H2.out.box [.int .i64 mP,.int .i64 mG,.int .i64 mL] 106)
 clear H2;go_upto_region 6 with fail
 clear z0 z1 z2 d13;generalize w2.alloc (.cells #[.int .i64 mP,.int .i64 mG,.int .i64 mL] 106)=w3 at *
 generalize w2.heap.size=q6 at *;have x0:=(H3.out.zi 0 _ rfl).1
 have x1:=(H3.out.zi 1 _ rfl).1
 obtain rfl:=HmP.out
 go_wp2_with fail;refine(HH.out _ _ H3.out).mono ?_
 rintro r w4 ⟨rfl,h4⟩;have h5:=h4.less;obtain⟨y0,v0⟩:=h5.zi 0 _ rfl;obtain⟨y1,v1⟩:=h5.zi 1 _ rfl;obtain⟨y2,v2⟩:=h5.zi 2 _ rfl;obtain⟨y3,v3⟩:=h5.zi 3 _ rfl;have h6:=h5.zJ 0 (.int .i64 kd)
 obtain⟨u0,-⟩:=h6.zi 0 _ rfl;obtain⟨u1,-⟩:=h6.zi 1 _ rfl;obtain⟨u2,-⟩:=h6.zi 2 _ rfl;obtain⟨u3,-⟩:=h6.zi 3 _ rfl;clear h4 h5 H3 HH HM HC13 x0 x1;go_upto_region 10 with fail
 clear y0 y1 y2 y3 v0 v1 v2 v3;generalize w4.setCell ⟨q5,0,none⟩ (.int .i64 kd)=w5 at *
 have h7:=h6.perm (List.Perm.swap _ _ _)
 obtain⟨p0,r0⟩:=h7.zi 0 _ rfl;obtain⟨p1,r1⟩:=h7.zi 1 _ rfl;obtain⟨p2,r2⟩:=h7.zi 2 _ rfl;obtain⟨p3,r3⟩:=h7.zi 3 _ rfl;have h8:=(((h7.zJ 0 (.int .i64 kd)).zJ 1 (.int .i64 (m:Int))).zJ 2 (.int .i64 (-1))).zJ 3 (.slice none 0 0)
 have EG:=Y2 (h8.zi 0 _ rfl).1 (h8.zi 1 _ rfl).1 (h8.zi 2 _ rfl).1 (h8.zi 3 _ rfl).1
 have H8:=Qq h8.less.less;clear h6 h7 h8;go_wp2;exact bodyPost_ret (zu Tryz.results51 _ ⟨q,0,none⟩ rfl EG) rfl (HEND.out _ _ rfl H8.out)
theorem OD {w0 w:World}{b sp:Nat}{L:Sl}{X:Sd}{R:List zv}{D:UU sp}{s:D.T}{j B:Nat}(h:zG w0 w b sp L X (D.A s++R))(hok:D.ok (j+1) s)(wf:yF B X)(hB:B≤80000){m:Nat}(hm:m<X.ms.length)(hP:(X.m m).P ≠ -1)(hG:(X.m m).G = -1) :
  Calls Tryz.prog 51 #[.pointer (some ⟨b,0,none⟩),.int .i64 (m:Int)] w (Xa w0 b sp L D s X R j m):=by
 obtain⟨mb,off2,hma⟩:=h.ma hm;have hne:((m:Int)==(X.ms.length:Int))=false:=by rw[beq_eq_false_iff_ne];omega
 have hnp:=wf.np;have hnm:=wf.nm;have hmX:(m:Int)<(X.ms.length:Int):=by omega
 have hm0:(0:Int)≤(m:Int):=by omega
 have h1:=h.box Y8 54;obtain⟨C13,xS⟩:=h1.xS;rw[hma] at xS;obtain⟨K,hK⟩:∃K,K=X.ms.length:=⟨_,rfl⟩
 have HC13:=Qq (fun(wx:World) (Z:List zv) (hx:zG w0 wx b sp L X Z)=>(by
  obtain⟨C,hc⟩:=hx.xS;rw[hma,←hK] at hc;exact⟨C,hc⟩:∃C,wx.cell? ⟨b,13,none⟩=some (.slice (some ⟨mb,off2,none⟩) K C)))
 have HM:=Qq (fun(wx:World) (Z:List zv) (hx:zG w0 wx b sp L X Z)=>hx.xQ hm hma)
 have H1:=Qq h1;rw[←hK] at xS hne hmX;have ha:xy X m=Uj X m:=by unfold xy Uj;rw[if_neg (by omega),if_neg hP,if_pos hG]
 have hpk:∀v,yd X m v=((yM X m v.toNat).1,⟨(yM X m v.toNat).2.1,(m:Int),(yM X m v.toNat).2.2,[]⟩):=fun v=>by unfold yd;rw[if_neg (by omega),if_neg hP,if_pos hG]
 have HH:=Qq (fun(wx:World) (Z:List zv) (hx:zG w0 wx b sp L X (D.A s++Z))=>Kj hx hok wf hB hm hP hG)
 have HEND:Hid (∀v s' wx rr,Fit D s (Uj X m) v s'→D.ok j s'→rr=Ending.returned (.agg #[.int .i64 (yM X m v.toNat).2.1,.int .i64 (m:Int),.int .i64 (yM X m v.toNat).2.2,.slice none 0 0])→zG w0 wx b sp L (yM X m v.toNat).1 (D.A s'++R)→Xa w0 b sp L D s X R j m rr wx):=Qq (fun v s' wx rr hf ho e hx=>.inl ⟨v,s',none,0,by rw[ha];exact hf,ho,by rw[hpk,e];rfl,by rw[hpk];exact hx.Vc⟩)
 have HDRY:Hid (∀ch s' kd n wx,Uj X m=some (kd,n)→D.Dp s kd n (.panicked ch) s'→D.ok j s'→zG w0 wx b sp L X (D.A s'++R)→Xa w0 b sp L D s X R j m (.panicked ch) wx):=Qq (fun ch s' kd n wx e h1 h2 h3=>.inr ⟨ch,s',kd,n,rfl,by rw[ha];exact e,h1,h2,h3⟩)
 have hPb:((X.m m).P == -1)=false:=by simpa using hP
 rw[hG] at HM;obtain⟨mG,hmG⟩:∃mG:Int,mG = -1:=⟨_,rfl⟩
 generalize (X.m m).P=mP at *
 generalize (X.m m).L=mL at *
 rw[←hmG] at HM;have HmG:=Qq hmG;clear h h1 hok wf hnp hnm hma ha hpk hm hP hG hK hmG;unfold Y8 at H1 xS;go_enter Tryz.func51,Tryz.ntmps51
 go_upto_region 1 with fail
 generalize w.alloc (.cells [.int .i64 0,.int .i64 0,.int .i64 0,.slice none 0 0].toArray 54)=w1 at *
 generalize w.heap.size=q at *;go_upto_region 4 with fail
 have H2:=Qq (H1.out.box [.int .i64 0,.int .i64 (m:Int),.int .i64 (-1),.slice none 0 0] 54)
 clear H1 xS;generalize w1.alloc (.cells #[.int .i64 0,.int .i64 (m:Int),.int .i64 (-1),.slice none 0 0] 54)=w2 at *
 generalize w1.heap.size=q5 at *;obtain⟨C2,d13⟩:=HC13.out _ _ H2.out;obtain⟨⟨z0,z1,z2⟩,-⟩:=HM.out _ _ H2.out;have H3:=Qq (H2.out.box [.int .i64 mP,.int .i64 mG,.int .i64 mL] 106)
 clear H2;go_upto_region 6 with fail
 clear z0 z1 z2 d13;generalize w2.alloc (.cells #[.int .i64 mP,.int .i64 mG,.int .i64 mL] 106)=w3 at *
 generalize w2.heap.size=q6 at *;have x0:=(H3.out.zi 0 _ rfl).1
 have x1:=(H3.out.zi 1 _ rfl).1
 obtain rfl:=HmG.out
 have H3b:Hid (zG w0 w3 b sp L X (D.A s++(ze q5 [.int .i64 0,.int .i64 (m:Int),.int .i64 (-1),.slice none 0 0]::ze q [.int .i64 0,.int .i64 0,.int .i64 0,.slice none 0 0]::R))):=Qq (H3.out.less.perm Zs)
 go_wp2_with fail;refine(HH.out _ _ H3b.out).mono ?_
 intro r w4 hp;clear H3 H3b HH HM HC13 x0 x1;rcases hp with⟨v,s',hf,ho,rfl,h4⟩|⟨ch,s',kd,n,rfl,hk,hdp,ho,h4⟩
 ·have HF:=Qq (And.intro hf ho)
  unfold xV at h4 ⊢
  simp only at h4 ⊢
  have HE2:=Qq (HEND.out v s')
  clear hf ho HEND HDRY;generalize yM X m v.toNat=lk at *;obtain⟨Y,kd,gg⟩:=lk;simp only at h4 HE2 ⊢
  have h5:=h4.perm Zs.symm;obtain⟨y0,v0⟩:=h5.zi 0 _ rfl;obtain⟨y1,v1⟩:=h5.zi 1 _ rfl;obtain⟨y2,v2⟩:=h5.zi 2 _ rfl;obtain⟨y3,v3⟩:=h5.zi 3 _ rfl;have h6:=(h5.zJ 0 (.int .i64 kd)).zJ 2 (.int .i64 gg)
  obtain⟨u0,-⟩:=h6.zi 0 _ rfl;obtain⟨u1,-⟩:=h6.zi 1 _ rfl;obtain⟨u2,-⟩:=h6.zi 2 _ rfl;obtain⟨u3,-⟩:=h6.zi 3 _ rfl;clear h4 h5;go_upto_region 10 with fail
  clear y0 y1 y2 y3 v0 v1 v2 v3;generalize (w4.setCell ⟨q5,0,none⟩ (.int .i64 kd)).setCell ⟨q5,2,none⟩ (.int .i64 gg)=w5 at *
  have h7:=h6.perm (List.Perm.swap _ _ _)
  obtain⟨p0,r0⟩:=h7.zi 0 _ rfl;obtain⟨p1,r1⟩:=h7.zi 1 _ rfl;obtain⟨p2,r2⟩:=h7.zi 2 _ rfl;obtain⟨p3,r3⟩:=h7.zi 3 _ rfl;have h8:=(((h7.zJ 0 (.int .i64 kd)).zJ 1 (.int .i64 (m:Int))).zJ 2 (.int .i64 gg)).zJ 3 (.slice none 0 0)
  have EG:=Y2 (h8.zi 0 _ rfl).1 (h8.zi 1 _ rfl).1 (h8.zi 2 _ rfl).1 (h8.zi 3 _ rfl).1
  have H8:=Qq h8.less.less;clear h6 h7 h8;go_wp2;exact bodyPost_ret (zu Tryz.results51 _ ⟨q,0,none⟩ rfl EG) rfl (HE2.out _ _ HF.out.1 HF.out.2 rfl H8.out)
 ·exact⟨rfl,HDRY.out ch s' kd n _ hk hdp ho (zG.less (zG.less (h4.perm Zs.symm)))⟩
theorem MO {w0 w:World}{b sp:Nat}{L:Sl}{X:Sd}{R:List zv}{D:UU sp}{s:D.T}{j B:Nat}(h:zG w0 w b sp L X (D.A s++R))(hok:D.ok (j+1) s)(wf:yF B X)(hB:B≤80000){m:Nat}(hm:m<X.ms.length)(hP:(X.m m).P ≠ -1)(hG:(X.m m).G ≠ -1)(hen:X.W.en=0) :
  Calls Tryz.prog 51 #[.pointer (some ⟨b,0,none⟩),.int .i64 (m:Int)] w (Xa w0 b sp L D s X R j m):=by
 obtain⟨mb,off2,hma⟩:=h.ma hm;have hne:((m:Int)==(X.ms.length:Int))=false:=by rw[beq_eq_false_iff_ne];omega
 have hnp:=wf.np;have hnm:=wf.nm;have hmX:(m:Int)<(X.ms.length:Int):=by omega
 have hm0:(0:Int)≤(m:Int):=by omega
 have h1:=h.box Y8 54;obtain⟨C13,xS⟩:=h1.xS;rw[hma] at xS;obtain⟨K,hK⟩:∃K,K=X.ms.length:=⟨_,rfl⟩
 have HC13:=Qq (fun(wx:World) (Z:List zv) (hx:zG w0 wx b sp L X Z)=>(by
  obtain⟨C,hc⟩:=hx.xS;rw[hma,←hK] at hc;exact⟨C,hc⟩:∃C,wx.cell? ⟨b,13,none⟩=some (.slice (some ⟨mb,off2,none⟩) K C)))
 have HM:=Qq (fun(wx:World) (Z:List zv) (hx:zG w0 wx b sp L X Z)=>hx.xQ hm hma)
 have H1:=Qq h1;rw[←hK] at xS hne hmX;obtain⟨k,hk,-,-⟩:=wf.lets hm hG;have ha:xy X m=Z8 X.W k:=by
  unfold xy Z8 Sd.ins;rw[if_neg (by omega),if_neg hP,if_neg hG,hk,Int.toNat_natCast]
 have hpk:∀v,yd X m v=((runM X m v).1,⟨7,(m:Int),(k:Int),(runM X m v).2⟩):=fun v=>by unfold yd;rw[if_neg (by omega),if_neg hP,if_neg hG,hk]
 have HH:=Qq (fun(wx:World) (Z:List zv) (hx:zG w0 wx b sp L X (D.A s++Z))=>JW hx hok wf hB hm hP hG hen hk)
 have HEND:Hid (∀v s' ra rc wx rr,Fit D s (Z8 X.W k) v s'→D.ok j s'→rr=Ending.returned (.agg #[.int .i64 7,.int .i64 (m:Int),.int .i64 (k:Int),.slice ra (runM X m v).2.length rc])→zG w0 wx b sp L (runM X m v).1 (zd 1 ra rc (runM X m v).2.length (zt (runM X m v).2)::(D.A s'++R))→Xa w0 b sp L D s X R j m rr wx):=Qq (fun v s' ra rc wx rr hf ho e hx=>.inl ⟨v,s',ra,rc,by rw[ha];exact hf,ho,by rw[hpk,e];rfl,by rw[hpk];exact hx⟩)
 have HDRY:Hid (∀ch s' kd n wx,Z8 X.W k=some (kd,n)→D.Dp s kd n (.panicked ch) s'→D.ok j s'→zG w0 wx b sp L X (D.A s'++R)→Xa w0 b sp L D s X R j m (.panicked ch) wx):=Qq (fun ch s' kd n wx e h1 h2 h3=>.inr ⟨ch,s',kd,n,rfl,by rw[ha];exact e,h1,h2,h3⟩)
 have hPb:((X.m m).P == -1)=false:=by simpa using hP
 have hGb:((k:Int) == -1)=false:=by rw[beq_eq_false_iff_ne];omega
 rw[hk] at HM;obtain⟨mG,hmG⟩:∃mG:Int,mG=(k:Int):=⟨_,rfl⟩
 generalize (X.m m).P=mP at *
 generalize (X.m m).L=mL at *
 rw[←hmG] at HM hGb;have HmG:=Qq hmG;clear h h1 hok wf hnp hnm hma ha hpk hm hP hG hK hmG hen hk;unfold Y8 at H1 xS;go_enter Tryz.func51,Tryz.ntmps51
 go_upto_region 1 with fail
 generalize w.alloc (.cells [.int .i64 0,.int .i64 0,.int .i64 0,.slice none 0 0].toArray 54)=w1 at *
 generalize w.heap.size=q at *;go_upto_region 4 with fail
 have H2:=Qq (H1.out.box [.int .i64 0,.int .i64 (m:Int),.int .i64 (-1),.slice none 0 0] 54)
 clear H1 xS;generalize w1.alloc (.cells #[.int .i64 0,.int .i64 (m:Int),.int .i64 (-1),.slice none 0 0] 54)=w2 at *
 generalize w1.heap.size=q5 at *;obtain⟨C2,d13⟩:=HC13.out _ _ H2.out;obtain⟨⟨z0,z1,z2⟩,-⟩:=HM.out _ _ H2.out;have H3:=Qq (H2.out.box [.int .i64 mP,.int .i64 mG,.int .i64 mL] 106)
 clear H2;go_upto_region 6 with fail
 clear z0 z1 z2 d13;generalize w2.alloc (.cells #[.int .i64 mP,.int .i64 mG,.int .i64 mL] 106)=w3 at *
 generalize w2.heap.size=q6 at *;have x0:=(H3.out.zi 0 _ rfl).1
 have x1:=(H3.out.zi 1 _ rfl).1
 have H3b:Hid (zG w0 w3 b sp L X (D.A s++(ze q5 [.int .i64 0,.int .i64 (m:Int),.int .i64 (-1),.slice none 0 0]::ze q [.int .i64 0,.int .i64 0,.int .i64 0,.slice none 0 0]::ze q6 [.int .i64 mP,.int .i64 mG,.int .i64 mL]::R))):=Qq (H3.out.perm XW)
 have HS:Hid (∀wx Y A,zG w0 wx b sp L Y (A++(ze q5 [.int .i64 0,.int .i64 (m:Int),.int .i64 (-1),.slice none 0 0]::ze q [.int .i64 0,.int .i64 0,.int .i64 0,.slice none 0 0]::ze q6 [.int .i64 mP,.int .i64 mG,.int .i64 mL]::R))→wx.cell? ⟨q6,1,none⟩=some (.int .i64 mG)):=Qq (fun wx Y A hx=>((hx.perm XW.symm).zi 1 _ rfl).1)
 go_upto_region 5 with fail
 have x1:=HS.out _ _ _ H3b.out;clear H3 HM HC13 x0;refine xY (fun wx=>wx.cell? ⟨q6,1,none⟩=some (.int .i64 mG)) 11 (Array.replicate 11 false) (by kernel_rfl) (by kernel_rfl) ?_
 have h4:=H3b.out.step (zg w3)
 generalize w3.drew=w4 at *;refine zm 0 4 _ (Qj 11 15) 7 (by kernel_rfl) (fun d _ _ _ _=>by cases d<;>exact fun h=>h) (HS.out _ _ _ h4) (by kernel_rfl) ?_
 simp only[QX,QV,QJ];(repeat((first|refine Qx (h:=?_)|refine Qv (h:=?_));simp only[Act.put,QW,QY,QZ]));refine zb ?_;refine zm 5 1 _ (Qj 11 47) 6 (by kernel_rfl) (fun d _ _ _ _=>by cases d<;>exact fun h=>h) (HS.out _ _ _ h4) (by kernel_rfl) ?_
 simp only[QX,QV,QQ,QJ];(repeat((first|refine Qx (h:=?_)|refine Qv (h:=?_));simp only[Act.put,QW,QY,QZ]));refine zb ?_;refine zh 4 _ (Qj 11 63) 5 (by kernel_rfl) (fun K hK=>?_)
 have HKK:=Qq hK;clear hK;simp only[QQ,QJ];refine zc (by rfl) ?_;go_simp;refine(HH.out _ _ h4).mono ?_
 intro r w5 hp;rcases hp with⟨v,s',ra,rc,hf,ho,rfl,h5⟩|⟨ch,s',kd,n,rfl,hkk,hdp,ho,h5⟩
 ·have HF:=Qq (And.intro hf ho)
  have HE2:=Qq (HEND.out v s')
  clear hf ho HEND HDRY HH H3b x1 h4;generalize runM X m v=lk at *;obtain⟨Y,rd⟩:=lk;simp only at h5 HE2 ⊢
  have HX:=Qq (HE2.out ra rc)
  clear HE2;generalize rd.length=N at *;have h6:zG w0 w5 b sp L Y (ze q5 [.int .i64 0,.int .i64 (m:Int),.int .i64 (-1),.slice none 0 0]::ze q [.int .i64 0,.int .i64 0,.int .i64 0,.slice none 0 0]::ze q6 [.int .i64 mP,.int .i64 mG,.int .i64 mL]::zd 1 ra rc N (zt rd)::(D.A s'++R)):=h5.perm Md
  have HS5:Hid (∀wx c0 c2 c3 Z,zG w0 wx b sp L Y (ze q5 [c0,.int .i64 (m:Int),c2,c3]::ze q [.int .i64 0,.int .i64 0,.int .i64 0,.slice none 0 0]::ze q6 [.int .i64 mP,.int .i64 mG,.int .i64 mL]::Z)→wx.cell? ⟨q6,1,none⟩=some (.int .i64 mG)):=Qq (fun wx c0 c2 c3 Z hx=>(hx.less.less.zi 1 _ rfl).1)
  refine HKK.out _ _ (HS5.out _ _ _ _ _ h6) ?_
  clear HKK K;obtain⟨y0,v0⟩:=h6.zi 0 _ rfl;have h7:=h6.zJ 0 (.int .i64 7)
  refine zh 6 _ (Qj 11 127) 4 (by kernel_rfl) (fun K hK=>?_)
  have HKK:=Qq hK;clear hK;simp only[QQ,QJ];refine zc (by rfl) ?_;go_simp;refine HKK.out _ _ (HS5.out _ _ _ _ _ h7) ?_
  clear HKK K;refine zm 7 1 _ (Qj 11 255) 3 (by kernel_rfl) (fun d _ _ _ _=>by cases d<;>exact fun h=>h) (HS5.out _ _ _ _ _ h7) (by kernel_rfl) ?_
  simp only[QX,QV,QQ,QJ];(repeat((first|refine Qx (h:=?_)|refine Qv (h:=?_));simp only[Act.put,QW,QY,QZ]));refine zb ?_;generalize w5.setCell ⟨q5,0,none⟩ (.int .i64 7)=w6 at *
  clear y0 v0;obtain⟨y2,v2⟩:=h7.zi 2 _ rfl;have h8:=h7.zJ 2 (.int .i64 mG)
  refine zh 8 _ (Qj 11 511) 2 (by kernel_rfl) (fun K hK=>?_)
  have HKK:=Qq hK;clear hK;simp only[QQ,QJ];refine zc (by rfl) ?_;go_simp;refine HKK.out _ _ (HS5.out _ _ _ _ _ h8) ?_
  clear HKK K;refine zm 9 1 _ (Qj 11 1023) 1 (by kernel_rfl) (fun d _ _ _ _=>by cases d<;>exact fun h=>h) (HS5.out _ _ _ _ _ h8) (by kernel_rfl) ?_
  simp only[QX,QV,QQ,QJ];(repeat((first|refine Qx (h:=?_)|refine Qv (h:=?_));simp only[Act.put,QW,QY,QZ]));refine zb ?_;generalize w6.setCell ⟨q5,2,none⟩ (.int .i64 mG)=w7 at *
  clear y2 v2;obtain⟨y3,v3⟩:=h8.zi 3 _ rfl;have h9:=h8.zJ 3 (.slice ra N rc)
  refine zh 10 _ (Qj 11 2047) 0 (by kernel_rfl) (fun K hK=>?_)
  have HKK:=Qq hK;clear hK;simp only[QQ,QJ];refine zc (by rfl) ?_;go_simp;refine HKK.out _ _ (HS5.out _ _ _ _ _ h9) ?_
  clear HKK K;refine wpAnyH_done (by kernel_rfl) (?_) _
  generalize w7.setCell ⟨q5,3,none⟩ (.slice ra N rc)=w8 at *
  clear y3 v3 h5 h6 h7 h8 HS HS5;obtain⟨u0,-⟩:=h9.zi 0 _ rfl;obtain⟨u1,-⟩:=h9.zi 1 _ rfl;obtain⟨u2,-⟩:=h9.zi 2 _ rfl;obtain⟨u3,-⟩:=h9.zi 3 _ rfl;have ha:=h9.perm (List.Perm.swap _ _ _)
  obtain⟨p0,r0⟩:=ha.zi 0 _ rfl;obtain⟨p1,r1⟩:=ha.zi 1 _ rfl;obtain⟨p2,r2⟩:=ha.zi 2 _ rfl;obtain⟨p3,r3⟩:=ha.zi 3 _ rfl;have h8:=(((ha.zJ 0 (.int .i64 7)).zJ 1 (.int .i64 (m:Int))).zJ 2 (.int .i64 mG)).zJ 3 (.slice ra N rc)
  have EG:=Y2 (h8.zi 0 _ rfl).1 (h8.zi 1 _ rfl).1 (h8.zi 2 _ rfl).1 (h8.zi 3 _ rfl).1
  have H8:=Qq h8.less.less.less;clear ha h8 h9;go_wp2;exact bodyPost_ret (zu Tryz.results51 _ ⟨q,0,none⟩ rfl EG) rfl (HX.out _ _ HF.out.1 HF.out.2 (by rw[HmG.out]) H8.out)
 ·exact⟨rfl,HDRY.out ch s' kd n _ hkk hdp ho (zG.less (zG.less (zG.less (h5.perm XW.symm))))⟩
def X7 (e:Int):Prop:=e=0∨e=1∨e=2
theorem Qg (W:Wd)(x:yq)(w:Wt)(s:Bool):(W.fin x w s).en=W.en:=by
 unfold Wd.fin;simp only
 split<;>split<;>(try split)<;>rfl
theorem Sn (W:Wd)(rd:List Int)(w:Wt)(s:Bool):(goOnM W rd w s).1.en=W.en:=by
 unfold goOnM;simp only
 split
 ·split
  ·exact Qg W _ w s
  ·rfl
 ·rfl
theorem SQ:∀(l:List Wt) (W:Wd) (rd:List Int),(goOnsM W rd l).1.en=W.en
 | [],W,rd=>rfl
 | r::t,W,rd=>by
  show(goOnsM (goOnM W rd r false).1 (goOnM W rd r false).2 t).1.en=W.en
  rw[SQ t,Sn]
theorem Ik {W:Wd}{rd:List Int}{g:Nat}{x:yq}{c:Zm}{place:Int}{d:Dd}(hd:Yy W rd g x c place=some d):d.W.en=W.en:=by
 unfold Yy at hd;simp only at hd
 split at hd
 ·cases hd;rfl
 ·split at hd
  ·cases hd
   simp only
   rw[Qg];split
   ·rw[Sn];rfl
   ·rfl
  ·cases hd
theorem J9 {W:Wd}{rd:List Int}{g:Nat}{x:yq}{c:Zm}{place:Int}{d:Dd}(hd:YA W rd g x c place=some d):d.W.en=W.en:=by
 unfold YA at hd;simp only at hd
 split at hd
 ·cases hd
  simp only
  rw[Qg];split
  ·rw[Sn];rfl
  ·rfl
 ·cases hd
theorem MA {W:Wd}{rd:List Int}{g:Nat}{x:yq}{place:Int}{d:Dd}(hd:YR W rd g x place=some d):d.W.en=W.en:=by
 unfold YR at hd;simp only at hd
 split at hd
 ·exact Ik hd
 ·exact J9 hd
theorem Oe (W:Wd)(rd:List Int)(g:Nat)(x:yq):(Yk W rd g x).W.en=W.en:=by
 unfold Yk;cases e:YR W rd g x 0 with
 | none=>rfl
 | some d=>exact MA e
theorem Nw (W:Wd)(rd:List Int)(g:Nat)(x:yq)(dr:Int)(go:Bool):(Zu W rd g x dr go).W.en=W.en:=by
 unfold Zu;split
 ·cases e:YR W rd g x dr with
  | none=>rfl
  | some d=>exact MA e
 ·split<;>rfl
theorem MB (W:Wd)(rd:List Int)(x:yq):(ZN W rd x).W.en=W.en:=by
 unfold ZN;simp only
 split
 ·rfl
 ·split
  ·exact SQ _ _ _
  ·rfl
theorem Jl (W:Wd)(g:Nat)(x:yq)(dr:Int)(go:Bool):(yf W g x dr go).W.en=W.en∨(yf W g x dr go).W.en=1:=by
 unfold yf;by_cases e:x.1=9
 ·rw[if_pos e];refine .inl ?_;unfold Yz;simp only;split<;>rfl
 rw[if_neg e];clear e
 by_cases e:x.1=10
 ·rw[if_pos e];unfold WV;simp only;split
  ·simp only;split
   ·exact .inr rfl
   ·exact .inl rfl
  ·exact .inl rfl
 rw[if_neg e];clear e
 refine .inl ?_
 by_cases e:x.1=11
 ·rw[if_pos e];unfold ZH;split<;>rfl
 rw[if_neg e];clear e
 by_cases e:x.1=12
 ·rw[if_pos e]
 rw[if_neg e];clear e
 by_cases e:x.1=13
 ·rw[if_pos e];exact Oe _ _ _ _
 rw[if_neg e];clear e
 by_cases e:x.1=14
 ·rw[if_pos e];exact Oe _ _ _ _
 rw[if_neg e];clear e
 by_cases e:x.1=15
 ·rw[if_pos e];exact MB _ _ _
 rw[if_neg e];clear e
 by_cases e:x.1=16
 ·rw[if_pos e];exact Nw _ _ _ _ _ _
 rw[if_neg e];clear e
 by_cases e:x.1=17
 ·rw[if_pos e];unfold Z7;simp only;generalize (if 1048576<(W.g g).rg x.2.1 then(1048576:Int) else(W.g g).rg x.2.1)=t;split<;>rfl
 rw[if_neg e];clear e
 by_cases e:x.1=18
 ·rw[if_pos e];unfold Xc;simp only;split<;>rfl
 rw[if_neg e];clear e
 by_cases e:x.1=19
 ·rw[if_pos e];unfold Zr;simp only;split
  ·split<;>rfl
  ·rfl
 rw[if_neg e];clear e
 by_cases e:x.1=20
 ·rw[if_pos e];unfold Yw;split<;>rfl
 rw[if_neg e];clear e
 by_cases e:x.1=21
 ·rw[if_pos e];rfl
 rw[if_neg e]
theorem Jd {W:Wd}(h:X7 W.en)(g v:Int):X7 (zR W g v).1.en:=by
 unfold zR;split
 ·simp only
  have key:∀d:Dd,(d.W.en=W.en∨d.W.en=1)→X7 d.end_.en:=fun d hd=>by
   unfold Dd.end_;split
   ·rcases hd with e|e
    ·rw[e];exact h
    ·rw[e];exact .inr (.inl rfl)
   ·exact .inr (.inr rfl)
  refine key _ ?_
  unfold doM;split
  ·exact .inl rfl
  ·split
   ·exact .inl rfl
   ·exact Jl _ _ _ _ _
 ·exact h
theorem Jn (X:Sd)(i:Nat):(nearM X i).1.st=X.st:=by unfold nearM;split<;>(try split)<;>rfl
theorem Gn (X:Sd)(i v:Nat):(zz X i v).1.st=X.st:=by
 have h:=Jn (yQ X i) i
 unfold zz;simp only
 split
 ·exact h
 ·split
  ·split<;>exact h
  ·exact h
theorem Ip (X:Sd)(m v:Nat):(yM X m v).1.st=X.st:=by
 unfold yM;simp only
 split
 ·rfl
 ·split<;>exact Gn X _ _
theorem RO:∀(l:List Int) (X:Sd) (i:Nat),(yn X i l).st=X.st
 | [],X,i=>rfl
 | g::t,X,i=>RO t _ i
theorem Gs (X:Sd)(m:Nat)(v:Int):(runM X m v).1.st=X.st:=by
 unfold runM;simp only
 split<;>exact RO _ _ _
theorem Ix (X:Sd)(m:Nat):(holdM X m).1.st=X.st:=by unfold holdM;split<;>rfl
theorem P2 (X:Sd)(m:Nat)(v:Int):(yd X m v).1.st=X.st:=by
 unfold yd;split
 ·rfl
 ·split
  ·exact Ix X m
  ·split
   ·exact Ip X m _
   ·exact Gs X m v
theorem JP (X:Sd)(i:Nat):(nearM X i).1.ms=X.ms:=by unfold nearM;split<;>(try split)<;>rfl
theorem Ge (X:Sd)(i v:Nat):(zz X i v).1.ms=X.ms:=by
 have h:=JP (yQ X i) i
 unfold zz;simp only
 split
 ·exact h
 ·split
  ·split<;>exact h
  ·exact h
theorem SC:∀(l:List Int) (X:Sd) (i:Nat),(yn X i l).ms=X.ms
 | [],X,i=>rfl
 | g::t,X,i=>SC t _ i
theorem Ig (X:Sd)(m:Nat)(v:Int):(yd X m v).1.ms.length=X.ms.length:=by
 unfold yd;split
 ·rfl
 ·split
  ·unfold holdM;split<;>simp[Sd.zP,Sd.zI]
  ·split
   ·unfold yM
    simp only
    split
    ·simp[Sd.zP,Sd.zI]
    ·split<;>simp[Sd.zP,Sd.zI,Ge]
   ·unfold runM
    simp only
    split<;>simp[Sd.zP,Sd.zI,SC]
def Ue (w0:World)(b sp:Nat)(L:Sl)(D:UU sp)(s:D.T)(X:Sd)(R:List zv)(j:Nat)(r:Ending)(w':World):Prop :=
 (∃m:Nat,∃v s1 s' ra rc,m≤X.ms.length∧D.Dv s 1 ((X.ms.length:Int)+1) (m:Int) s1∧Fit D s1 (xy X m) v s'∧D.ok j s'∧r=.returned (UK (xp X m v).2 ra rc)∧zG w0 w' b sp L (xp X m v).1 (zd 1 ra rc (xp X m v).2.rd.length (zt (xp X m v).2.rd)::(D.A s'++R))) ∨
 (∃ch s',r=.panicked ch∧(D.Dp s 1 ((X.ms.length:Int)+1) r s'∨∃m:Nat,∃s1 kd n,m≤X.ms.length∧D.Dv s 1 ((X.ms.length:Int)+1) (m:Int) s1∧xy X m=some (kd,n)∧D.Dp s1 kd n r s')∧D.ok j s'∧zG w0 w' b sp L X (D.A s'++R))
theorem Lz {w0 w:World}{b sp:Nat}{L:Sl}{X:Sd}{R:List zv}{D:UU sp}{s:D.T}{j B:Nat}(h:zG w0 w b sp L X (D.A s++R))(hok:D.ok (j+1) s)(wf:yF B X)(hB:B≤80000)(hen:X.W.en=0){m:Nat}(hm:m≤X.ms.length) :
  Calls Tryz.prog 51 #[.pointer (some ⟨b,0,none⟩),.int .i64 (m:Int)] w (Xa w0 b sp L D s X R j m):=by
 by_cases e:m=X.ms.length
 ·subst e;exact QO h hok wf hB
 ·have hml:m<X.ms.length:=by omega
  by_cases hP:(X.m m).P = -1
  ·exact Mj h hok wf hB hml hP
  ·by_cases hG:(X.m m).G = -1
   ·exact OD h hok wf hB hml hP hG
   ·exact MO h hok wf hB hml hP hG hen
theorem XH {α:Type _}{a c r:α}{A R:List α}:List.Perm (r::(A++(a::c::R))) (a::c::r::(A++R)):=(List.Perm.cons r (List.perm_middle.trans (List.Perm.cons a List.perm_middle))).trans ((List.Perm.swap _ _ _).trans (List.Perm.cons a (List.Perm.swap _ _ _)))
theorem SE {w0 w:World}{b sp:Nat}{L:Sl}{X:Sd}{R:List zv}{D:UU sp}{s:D.T}{j B:Nat}(h:zG w0 w b sp L X (D.A s++R))(hok:D.ok (j+2) s)(wf:yF B X)(hB:B≤80000)(hov:xU X=0)(hen:X.W.en=0) :
  Calls Tryz.prog 27 #[.pointer (some ⟨b,0,none⟩)] w (Ue w0 b sp L D s X R j):=by
 have hnm:=wf.nm;have h1:=(h.box Y8 54).perm List.perm_middle.symm
 have hg1:=wf.wf.g1;have HSTAT:=Qq (Wy h1 (by omega))
 rw[hov] at HSTAT;have HDR:=Qq (fun(wx:World) (n:Int) (Z:List zv) (hn:n=(X.ms.length:Int)+1) (hx:zG w0 wx b sp L X (D.A s++Z))=>(by
  subst hn;obtain⟨S,k1,k2⟩:=hx.tail;rw[List.append_assoc] at k1;refine(D.hd s 1 ((X.ms.length:Int)+1) (Z++S) (j+1) hok ⟨by omega,by omega⟩ k1).mono (fun r w' hh=>?_)
  rcases hh with⟨v,s',a1,a2,a3,a4,a5⟩|⟨ch,s',a1,a2,a3,a4⟩
  ·exact .inl ⟨v.toNat,s',by rw[a1];congr 2;omega,by omega,by rw[show((v.toNat:Nat):Int)=v by omega];exact a3,a4,k2 _ _ (by rw[List.append_assoc];exact a5)⟩
  ·exact .inr ⟨ch,s',a1,a2,D.less _ _ a3,k2 _ _ (by rw[List.append_assoc];exact a4)⟩:Calls Tryz.prog 52 #[.pointer (some ⟨sp,0,none⟩),.int .i64 1,.int .i64 n] wx fun r w' =>
   (∃m:Nat,∃s1,r=.returned (.int .i64 (m:Int))∧m≤X.ms.length∧D.Dv s 1 ((X.ms.length:Int)+1) (m:Int) s1∧D.ok (j+1) s1∧zG w0 w' b sp L X (D.A s1++Z))∨(∃ch s',r=.panicked ch∧D.Dp s 1 ((X.ms.length:Int)+1) r s'∧D.ok j s'∧zG w0 w' b sp L X (D.A s'++Z))))
 have HPK:=Qq (fun(wx:World) (s1:D.T) (m:Nat) (Z:List zv) (ho:D.ok (j+1) s1) (hm:m≤X.ms.length) (hx:zG w0 wx b sp L X (D.A s1++Z))=>Lz hx ho wf hB hen hm)
 have hst:=wf.st;have HEND:Hid (∀(m:Nat) v s1 s' ra rc wx rr,m≤X.ms.length→D.Dv s 1 ((X.ms.length:Int)+1) (m:Int) s1→Fit D s1 (xy X m) v s'→D.ok j s'→rr=Ending.returned (UK (yd X m v).2 ra rc)→zG w0 wx b sp L { (yd X m v).1 with st:=(yd X m v).1.st+1 } (zd 1 ra rc (yd X m v).2.rd.length (zt (yd X m v).2.rd)::(D.A s'++R))→Ue w0 b sp L D s X R j rr wx):=Qq (fun m v s1 s' ra rc wx rr h1 h2 h3 h4 h5 h6=>.inl ⟨m,v,s1,s',ra,rc,h1,h2,h3,h4,h5,by rw[P2] at h6;exact h6⟩)
 have HST:Hid (∀m v,(yd X m v).1.st≤80000):=Qq (fun m v=>by rw[P2];omega)
 have HD1:Hid (∀ch s' wx,D.Dp s 1 ((X.ms.length:Int)+1) (.panicked ch) s'→D.ok j s'→zG w0 wx b sp L X (D.A s'++R)→Ue w0 b sp L D s X R j (.panicked ch) wx):=Qq (fun ch s' wx h1 h2 h3=>.inr ⟨ch,s',rfl,.inl h1,h2,h3⟩)
 have HD2:Hid (∀ch (m:Nat) s1 s' kd n wx,m≤X.ms.length→D.Dv s 1 ((X.ms.length:Int)+1) (m:Int) s1→xy X m=some (kd,n)→D.Dp s1 kd n (.panicked ch) s'→D.ok j s'→zG w0 wx b sp L X (D.A s'++R)→Ue w0 b sp L D s X R j (.panicked ch) wx):=Qq (fun ch m s1 s' kd n wx h0 h1 h2 h3 h4 h5=>.inr ⟨ch,s',rfl,.inr ⟨m,s1,kd,n,h0,h1,h2,h3⟩,h4,h5⟩)
 have HSB:Hid (∀wx (Y:Sd) Z,zG w0 wx b sp L Y Z→Y.ms.length=X.ms.length→wx.cell? ⟨b,11,none⟩=some (.pointer (some ⟨sp,0,none⟩))∧wx.cell? ⟨b,13,none⟩=some (.slice L.ma X.ms.length L.mc)):=Qq (fun wx Y Z hx e=>⟨hx.ZP,by rw[←e];exact hx.Eb⟩)
 have HLM:Hid (∀m v,m≤X.ms.length→(yd X m v).1.ms.length=X.ms.length):=Qq (fun m v hm=>Ig X m v)
 have hwr:IntKind.i64.wrap ((X.ms.length:Int)+1)=(X.ms.length:Int)+1:=by rw[IntKind.wrap_i64];omega
 obtain⟨K,hK⟩:∃K,K=X.ms.length:=⟨_,rfl⟩
 simp only[←hK] at HDR HPK HEND HD1 HD2 HSB HLM hwr hnm
 have H1:=Qq h1;have HKX:=Qq hK.symm;clear h h1 hok wf hov hen hg1 hst hK;unfold Y8 at H1 HSTAT;go_enter Tryz.func27,Tryz.ntmps27
 go_upto_region 1 with fail
 generalize w.alloc (.cells [.int .i64 0,.int .i64 0,.int .i64 0,.slice none 0 0].toArray 54)=w1 at *
 generalize w.heap.size=q at *;go_wp2_with fail;refine HSTAT.out.mono ?_
 rintro r w2 ⟨rfl,hb⟩;have H2:=Qq (H1.out.step hb)
 clear H1 hb HSTAT;go_upto_region 3 with fail
 have h3:=H2.out.step (zg w2)
 refine xY (fun wx=>wx.cell? ⟨b,11,none⟩=some (.pointer (some ⟨sp,0,none⟩))∧wx.cell? ⟨b,13,none⟩=some (.slice L.ma K L.mc)) 15 (Array.replicate 15 false) (by kernel_rfl) (by kernel_rfl) ?_
 generalize w2.drew=w3 at *;refine zm 0 11 _ (Qj 15 2047) 4 (by kernel_rfl) Xn (HSB.out _ _ _ h3 HKX.out) (by kernel_rfl) ?_
 simp only[QX,QV,QJ];(repeat((first|refine Qx (h:=?_)|refine Qv (h:=?_));simp only[Act.put,QW,QY,QZ]));refine zb ?_;refine yz 11 13 _ (Qj 15 4095) (Qj 15 10239) 3 (by kernel_rfl) (fun K hK=>?_) (fun K hK=>?_)
 ·skip
  have HKK:=Qq hK;clear hK;simp only[QQ,QJ];refine zc (by rfl) ?_;go_simp;refine(HDR.out _ _ _ rfl h3).mono ?_
  intro r w4 hp;rcases hp with⟨m,s1,rfl,hm,hdv,ho1,h4⟩|⟨ch,s',rfl,hdp,ho1,h4⟩
  ·skip
   have e4:=HSB.out _ _ _ h4 HKX.out;refine HKK.out _ _ (e4) ?_
   clear HKK K;refine yz 12 13 _ (Qj 15 8191) (Qj 15 12287) 2 (by kernel_rfl) (fun K hK=>?_) (fun K hK=>?_)
   ·skip
    have HKK:=Qq hK;clear hK;simp only[QQ,QJ];refine zc (by rfl) ?_;go_simp;refine(HPK.out _ _ _ _ ho1 hm h4).mono ?_
    intro r w6 hp;rcases hp with⟨v,s',ra,rc,hf,ho,rfl,h6⟩|⟨ch,s',kd,n,rfl,hk,hdp,ho,h6⟩
    ·skip
     have HFF:=Qq (And.intro hm (And.intro hdv (And.intro hf ho)))
     have HE2:=Qq (fun wx rr=>HEND.out m v s1 s' ra rc wx rr)
     have hst:=HST.out m v;have hlm:=HLM.out m v hm;generalize yd X m v=pk at *;obtain⟨Y,k0,M0,G0,rd⟩:=pk;unfold UK at HE2 ⊢
     simp only at h6 HE2 hst hlm ⊢
     generalize rd.length=N at *;have e6:=HSB.out _ _ _ h6 hlm;refine HKK.out _ _ (e6) ?_
     clear HKK K;have h5:=h6;have h7:=((h6.perm ((List.Perm.cons _ List.perm_middle).trans (List.Perm.swap _ _ _))).box Y8 54)
     unfold Y8 at h7;have e7:=HSB.out _ _ _ h7 hlm;refine zh 13 _ (Qj 15 16383) 1 (by kernel_rfl) (fun K hK=>?_)
     have HKK:=Qq hK;clear hK;simp only[QQ,QJ];refine zc (by rfl) ?_;go_simp;refine HKK.out _ _ (e7) ?_
     clear HKK K;generalize w6.alloc (.cells [.int .i64 0,.int .i64 0,.int .i64 0,.slice none 0 0].toArray 54)=w7 at *
     generalize w6.heap.size=q3 at *;obtain⟨x0,y0⟩:=h7.zi 0 _ rfl;obtain⟨x1,y1⟩:=h7.zi 1 _ rfl;obtain⟨x2,y2⟩:=h7.zi 2 _ rfl;obtain⟨x3,y3⟩:=h7.zi 3 _ rfl;have h9:=(((h7.zJ 0 (.int .i64 k0)).zJ 1 (.int .i64 M0)).zJ 2 (.int .i64 G0)).zJ 3 (.slice ra N rc)
     have e9:=HSB.out _ _ _ h9 hlm;refine zh 14 _ (Qj 15 32767) 0 (by kernel_rfl) (fun K hK=>?_)
     have HKK:=Qq hK;clear hK;simp only[QQ,QJ];refine zc (by rfl) ?_;go_simp;refine HKK.out _ _ (e9) ?_
     clear HKK K;refine wpAnyH_done (by kernel_rfl) (?_) _
     clear HEND HST HLM HD1 HD2 HPK HDR hm hdv hf ho;have HQ:=Qq h9;generalize (((w7.setCell ⟨q3,0,none⟩ (.int .i64 k0)).setCell ⟨q3,1,none⟩ (.int .i64 M0)).setCell ⟨q3,2,none⟩ (.int .i64 G0)).setCell ⟨q3,3,none⟩ (.slice ra N rc)=w8 at *
     clear h3 h4 h5 h6 h7 h9 H2;obtain⟨Mc,f16⟩:=HQ.out.Mc;have hwr2:IntKind.i64.wrap ((Y.st:Int)+1)=(Y.st:Int)+1:=by rw[IntKind.wrap_i64];omega
     have ha:=HQ.out.zU (Y.st+1)
     rw[show((Y.st+1:Nat):Int)=(Y.st:Int)+1 by omega] at ha
     have HA:=Qq ha;clear ha HQ HSB;go_upto_region 5 with fail
     clear Mc f16;generalize w8.setCell ⟨b,16,none⟩ (.int .i64 ((Y.st:Int)+1))=w9 at *
     obtain⟨u0,-⟩:=HA.out.zi 0 _ rfl;obtain⟨u1,-⟩:=HA.out.zi 1 _ rfl;obtain⟨u2,-⟩:=HA.out.zi 2 _ rfl;obtain⟨u3,-⟩:=HA.out.zi 3 _ rfl;have hb:=HA.out.perm (List.Perm.swap _ _ _)
     obtain⟨p0,r0⟩:=hb.zi 0 _ rfl;obtain⟨p1,r1⟩:=hb.zi 1 _ rfl;obtain⟨p2,r2⟩:=hb.zi 2 _ rfl;obtain⟨p3,r3⟩:=hb.zi 3 _ rfl;have hc:=(((hb.zJ 0 (.int .i64 k0)).zJ 1 (.int .i64 M0)).zJ 2 (.int .i64 G0)).zJ 3 (.slice ra N rc)
     have EG:=Y2 (hc.zi 0 _ rfl).1 (hc.zi 1 _ rfl).1 (hc.zi 2 _ rfl).1 (hc.zi 3 _ rfl).1
     have HC:=Qq hc.less.less;clear hb hc HA;go_wp2;exact bodyPost_ret (zu Tryz.results27 _ ⟨q,0,none⟩ rfl EG) rfl (HE2.out _ _ HFF.out.1 HFF.out.2.1 HFF.out.2.2.1 HFF.out.2.2.2 rfl HC.out)
    ·exact⟨rfl,HD2.out ch m s1 s' kd n _ hm hdv hk hdp ho (zG.less (h6.perm List.perm_middle))⟩
   ·skip
    have h5:=(h4.perm List.perm_middle).box Y8 54
    unfold Y8 at h5;have e5:=HSB.out _ _ _ h5 HKX.out;have HKK:=Qq hK;clear hK;simp only[QQ,QJ];refine zc (by rfl) ?_;go_simp;refine HKK.out _ _ (e5) ?_
    clear HKK K;generalize w4.alloc (.cells [.int .i64 0,.int .i64 0,.int .i64 0,.slice none 0 0].toArray 54)=w5 at *
    generalize w4.heap.size=q3 at *;refine zh 12 _ (Qj 15 16383) 1 (by kernel_rfl) (fun K hK=>?_)
    have HKK:=Qq hK;clear hK;simp only[QQ,QJ];refine zc (by rfl) ?_;go_simp;refine(HPK.out _ _ _ _ ho1 hm (h5.perm Zs)).mono ?_
    intro r w7 hp;rcases hp with⟨v,s',ra,rc,hf,ho,rfl,h6⟩|⟨ch,s',kd,n,rfl,hk,hdp,ho,h6⟩
    ·skip
     have HFF:=Qq (And.intro hm (And.intro hdv (And.intro hf ho)))
     have HE2:=Qq (fun wx rr=>HEND.out m v s1 s' ra rc wx rr)
     have hst:=HST.out m v;have hlm:=HLM.out m v hm;generalize yd X m v=pk at *;obtain⟨Y,k0,M0,G0,rd⟩:=pk;unfold UK at HE2 ⊢
     simp only at h6 HE2 hst hlm ⊢
     generalize rd.length=N at *;have e6:=HSB.out _ _ _ h6 hlm;refine HKK.out _ _ (e6) ?_
     clear HKK K;have h7:=h6.perm XH;obtain⟨x0,y0⟩:=h7.zi 0 _ rfl;obtain⟨x1,y1⟩:=h7.zi 1 _ rfl;obtain⟨x2,y2⟩:=h7.zi 2 _ rfl;obtain⟨x3,y3⟩:=h7.zi 3 _ rfl;have h9:=(((h7.zJ 0 (.int .i64 k0)).zJ 1 (.int .i64 M0)).zJ 2 (.int .i64 G0)).zJ 3 (.slice ra N rc)
     have e9:=HSB.out _ _ _ h9 hlm;refine zh 14 _ (Qj 15 32767) 0 (by kernel_rfl) (fun K hK=>?_)
     have HKK:=Qq hK;clear hK;simp only[QQ,QJ];refine zc (by rfl) ?_;go_simp;refine HKK.out _ _ (e9) ?_
     clear HKK K;refine wpAnyH_done (by kernel_rfl) (?_) _
     clear HEND HST HLM HD1 HD2 HPK HDR hm hdv hf ho;have HQ:=Qq h9;generalize (((w7.setCell ⟨q3,0,none⟩ (.int .i64 k0)).setCell ⟨q3,1,none⟩ (.int .i64 M0)).setCell ⟨q3,2,none⟩ (.int .i64 G0)).setCell ⟨q3,3,none⟩ (.slice ra N rc)=w8 at *
     clear h3 h4 h5 h6 h7 h9 H2;obtain⟨Mc,f16⟩:=HQ.out.Mc;have hwr2:IntKind.i64.wrap ((Y.st:Int)+1)=(Y.st:Int)+1:=by rw[IntKind.wrap_i64];omega
     have ha:=HQ.out.zU (Y.st+1)
     rw[show((Y.st+1:Nat):Int)=(Y.st:Int)+1 by omega] at ha
     have HA:=Qq ha;clear ha HQ HSB;go_upto_region 5 with fail
     clear Mc f16;generalize w8.setCell ⟨b,16,none⟩ (.int .i64 ((Y.st:Int)+1))=w9 at *
     obtain⟨u0,-⟩:=HA.out.zi 0 _ rfl;obtain⟨u1,-⟩:=HA.out.zi 1 _ rfl;obtain⟨u2,-⟩:=HA.out.zi 2 _ rfl;obtain⟨u3,-⟩:=HA.out.zi 3 _ rfl;have hb:=HA.out.perm (List.Perm.swap _ _ _)
     obtain⟨p0,r0⟩:=hb.zi 0 _ rfl;obtain⟨p1,r1⟩:=hb.zi 1 _ rfl;obtain⟨p2,r2⟩:=hb.zi 2 _ rfl;obtain⟨p3,r3⟩:=hb.zi 3 _ rfl;have hc:=(((hb.zJ 0 (.int .i64 k0)).zJ 1 (.int .i64 M0)).zJ 2 (.int .i64 G0)).zJ 3 (.slice ra N rc)
     have EG:=Y2 (hc.zi 0 _ rfl).1 (hc.zi 1 _ rfl).1 (hc.zi 2 _ rfl).1 (hc.zi 3 _ rfl).1
     have HC:=Qq hc.less.less;clear hb hc HA;go_wp2;exact bodyPost_ret (zu Tryz.results27 _ ⟨q,0,none⟩ rfl EG) rfl (HE2.out _ _ HFF.out.1 HFF.out.2.1 HFF.out.2.2.1 HFF.out.2.2.2 rfl HC.out)
    ·exact⟨rfl,HD2.out ch m s1 s' kd n _ hm hdv hk hdp ho (zG.less (zG.less (h6.perm Zs.symm)))⟩
  ·exact⟨rfl,HD1.out ch s' _ hdp ho1 (zG.less (h4.perm List.perm_middle))⟩
 ·skip
  have h4:=(h3.perm List.perm_middle).box Y8 54
  unfold Y8 at h4;have e4:=HSB.out _ _ _ h4 HKX.out;have HKK:=Qq hK;clear hK;simp only[QQ,QJ];refine zc (by rfl) ?_;go_simp;refine HKK.out _ _ (e4) ?_
  clear HKK K;generalize w3.alloc (.cells [.int .i64 0,.int .i64 0,.int .i64 0,.slice none 0 0].toArray 54)=w4 at *
  generalize w3.heap.size=q3 at *;refine zh 11 _ (Qj 15 12287) 2 (by kernel_rfl) (fun K hK=>?_)
  have HKK:=Qq hK;clear hK;simp only[QQ,QJ];refine zc (by rfl) ?_;go_simp;refine(HDR.out _ _ _ rfl (h4.perm Zs)).mono ?_
  intro r w5 hp;rcases hp with⟨m,s1,rfl,hm,hdv,ho1,h5⟩|⟨ch,s',rfl,hdp,ho1,h5⟩
  ·have e5:=HSB.out _ _ _ h5 HKX.out
   refine HKK.out _ _ (e5) ?_
   clear HKK K;refine zh 12 _ (Qj 15 16383) 1 (by kernel_rfl) (fun K hK=>?_)
   have HKK:=Qq hK;clear hK;simp only[QQ,QJ];refine zc (by rfl) ?_;go_simp;refine(HPK.out _ _ _ _ ho1 hm h5).mono ?_
   intro r w7 hp;rcases hp with⟨v,s',ra,rc,hf,ho,rfl,h6⟩|⟨ch,s',kd,n,rfl,hk,hdp,ho,h6⟩
   ·skip
    have HFF:=Qq (And.intro hm (And.intro hdv (And.intro hf ho)))
    have HE2:=Qq (fun wx rr=>HEND.out m v s1 s' ra rc wx rr)
    have hst:=HST.out m v;have hlm:=HLM.out m v hm;generalize yd X m v=pk at *;obtain⟨Y,k0,M0,G0,rd⟩:=pk;unfold UK at HE2 ⊢
    simp only at h6 HE2 hst hlm ⊢
    generalize rd.length=N at *;have e6:=HSB.out _ _ _ h6 hlm;refine HKK.out _ _ (e6) ?_
    clear HKK K;have h7:=h6.perm XH;obtain⟨x0,y0⟩:=h7.zi 0 _ rfl;obtain⟨x1,y1⟩:=h7.zi 1 _ rfl;obtain⟨x2,y2⟩:=h7.zi 2 _ rfl;obtain⟨x3,y3⟩:=h7.zi 3 _ rfl;have h9:=(((h7.zJ 0 (.int .i64 k0)).zJ 1 (.int .i64 M0)).zJ 2 (.int .i64 G0)).zJ 3 (.slice ra N rc)
    have e9:=HSB.out _ _ _ h9 hlm;refine zh 14 _ (Qj 15 32767) 0 (by kernel_rfl) (fun K hK=>?_)
    have HKK:=Qq hK;clear hK;simp only[QQ,QJ];refine zc (by rfl) ?_;go_simp;refine HKK.out _ _ (e9) ?_
    clear HKK K;refine wpAnyH_done (by kernel_rfl) (?_) _
    clear HEND HST HLM HD1 HD2 HPK HDR hm hdv hf ho;have HQ:=Qq h9;generalize (((w7.setCell ⟨q3,0,none⟩ (.int .i64 k0)).setCell ⟨q3,1,none⟩ (.int .i64 M0)).setCell ⟨q3,2,none⟩ (.int .i64 G0)).setCell ⟨q3,3,none⟩ (.slice ra N rc)=w8 at *
    clear h3 h4 h5 h6 h7 h9 H2;obtain⟨Mc,f16⟩:=HQ.out.Mc;have hwr2:IntKind.i64.wrap ((Y.st:Int)+1)=(Y.st:Int)+1:=by rw[IntKind.wrap_i64];omega
    have ha:=HQ.out.zU (Y.st+1)
    rw[show((Y.st+1:Nat):Int)=(Y.st:Int)+1 by omega] at ha
    have HA:=Qq ha;clear ha HQ HSB;go_upto_region 5 with fail
    clear Mc f16;generalize w8.setCell ⟨b,16,none⟩ (.int .i64 ((Y.st:Int)+1))=w9 at *
    obtain⟨u0,-⟩:=HA.out.zi 0 _ rfl;obtain⟨u1,-⟩:=HA.out.zi 1 _ rfl;obtain⟨u2,-⟩:=HA.out.zi 2 _ rfl;obtain⟨u3,-⟩:=HA.out.zi 3 _ rfl;have hb:=HA.out.perm (List.Perm.swap _ _ _)
    obtain⟨p0,r0⟩:=hb.zi 0 _ rfl;obtain⟨p1,r1⟩:=hb.zi 1 _ rfl;obtain⟨p2,r2⟩:=hb.zi 2 _ rfl;obtain⟨p3,r3⟩:=hb.zi 3 _ rfl;have hc:=(((hb.zJ 0 (.int .i64 k0)).zJ 1 (.int .i64 M0)).zJ 2 (.int .i64 G0)).zJ 3 (.slice ra N rc)
    have EG:=Y2 (hc.zi 0 _ rfl).1 (hc.zi 1 _ rfl).1 (hc.zi 2 _ rfl).1 (hc.zi 3 _ rfl).1
    have HC:=Qq hc.less.less;clear hb hc HA;go_wp2;exact bodyPost_ret (zu Tryz.results27 _ ⟨q,0,none⟩ rfl EG) rfl (HE2.out _ _ HFF.out.1 HFF.out.2.1 HFF.out.2.2.1 HFF.out.2.2.2 rfl HC.out)
   ·exact⟨rfl,HD2.out ch m s1 s' kd n _ hm hdv hk hdp ho (zG.less (zG.less (h6.perm Zs.symm)))⟩
  ·exact⟨rfl,HD1.out ch s' _ hdp ho1 (zG.less (zG.less (h5.perm Zs.symm)))⟩
theorem Mi {w0 w:World}{b sp:Nat}{L:Sl}{X:Sd}{R:List zv}(h:zG w0 w b sp L X R)(hl:X.W.gs.length≤1000000)(hov:xU X≠0) :
  Calls Tryz.prog 27 #[.pointer (some ⟨b,0,none⟩)] w fun r w'=>r=.returned (UK ⟨0,0,0,[]⟩ none 0)∧zG w0 w' b sp L X R:=by
 have h1:=h.box Y8 54;have HSTAT:=Qq (Wy h1 hl)
 have hb:(xU X !=0)=true:=by simpa using hov
 have H1:=Qq h1;generalize xU X=ov at *;clear h h1 hl hov;unfold Y8 at H1 HSTAT;unfold UK;go_enter Tryz.func27,Tryz.ntmps27
 go_upto_region 1 with fail
 generalize w.alloc (.cells [.int .i64 0,.int .i64 0,.int .i64 0,.slice none 0 0].toArray 54)=w1 at *
 generalize w.heap.size=q at *;go_wp2_with fail;refine HSTAT.out.mono ?_
 rintro r w2 ⟨rfl,hb2⟩;have h2:=H1.out.step hb2;obtain⟨x0,y0⟩:=h2.zi 0 _ rfl;obtain⟨x1,y1⟩:=h2.zi 1 _ rfl;obtain⟨x2,y2⟩:=h2.zi 2 _ rfl;obtain⟨x3,y3⟩:=h2.zi 3 _ rfl;have h3:=(((h2.zJ 0 (.int .i64 0)).zJ 1 (.int .i64 0)).zJ 2 (.int .i64 0)).zJ 3 (.slice none 0 0)
 have EG:=Y2 (h3.zi 0 _ rfl).1 (h3.zi 1 _ rfl).1 (h3.zi 2 _ rfl).1 (h3.zi 3 _ rfl).1
 have H3:=Qq h3.less;clear hb2 h2 h3 H1 HSTAT;go_wp2;exact bodyPost_ret (zu Tryz.results27 _ ⟨q,0,none⟩ rfl EG) rfl ⟨rfl,H3.out⟩
theorem Pt {w0 w:World}{b sp:Nat}{L:Sl}{X:Sd}{R:List zv}(h:zG w0 w b sp L X R):Calls Tryz.prog 20 #[.pointer (some ⟨b,0,none⟩)] w fun r w'=>r=.returned (.pointer (some ⟨b,0,none⟩))∧w'=w:=by
 have hc:=h.ZP;clear h;go_enter Tryz.func20,Tryz.ntmps20
 go_wp2;go_ret;exact⟨rfl,rfl⟩
theorem QF {w0 w:World}{b sp:Nat}{L:Sl}{X:Sd}{R:List zv}(h:zG w0 w b sp L X R):Calls Tryz.prog 19 #[.pointer (some ⟨b,0,none⟩)] w fun r w'=>r=.returned (.int .i64 (X.st:Int))∧w'=w:=by
 obtain⟨hc,-⟩:=h.Mc;clear h;go_enter Tryz.func19,Tryz.ntmps19
 go_wp2;go_ret;exact⟨rfl,rfl⟩
theorem LO {w0 w:World}{b sp:Nat}{L:Sl}{X:Sd}{R:List zv}(h:zG w0 w b sp L X R)(hl:X.gl.length≤1000000) :
  Calls Tryz.prog 42 #[.pointer (some ⟨b,14,none⟩)] w fun r w'=>∃a' c',r=.returned (.slice a' X.gl.length c')∧zG w0 w' b sp L X (zd 1 a' c' X.gl.length (zt X.gl)::R):=by
 have h0:=h;obtain⟨S,hf,e,h⟩:=h;obtain⟨F,hF,-⟩:=h.EP.head;refine(OJ w _ X.gl F hF hl).mono (fun r w' hh=>?_)
 obtain⟨a',c',h1,h2,h3,h4⟩:=hh;obtain⟨Q,k1,k2⟩:=h0.tail;exact⟨a',c',h1,k2 _ _ (Own.add k1 h4 (A:=zd 1 a' c' X.gl.length (zt X.gl)) (F:=zY a') ⟨rfl,zT.L5 h2⟩ h3)⟩
theorem S7 {w0 w:World}{b sp:Nat}{L:Sl}{X:Sd}{R:List zv}(h:zG w0 w b sp L X R)(hl:X.gl.length≤1000000) :
  Calls Tryz.prog 18 #[.pointer (some ⟨b,0,none⟩)] w fun r w'=>∃a' c',r=.returned (.slice a' X.gl.length c')∧zG w0 w' b sp L X (zd 1 a' c' X.gl.length (zt X.gl)::R):=by
 have hc:=h.ZP;have HL:=Qq (LO h hl)
 generalize X.gl.length=N at *;clear h hl;go_enter Tryz.func18,Tryz.ntmps18
 go_wp2_with fail;refine HL.out.mono ?_
 rintro r w1 ⟨a',c',rfl,h1⟩;have H1:=Qq h1;clear h1 HL;go_wp2;go_ret;exact⟨a',c',rfl,H1.out⟩
theorem Xe.below {w w':World}{fa:Option Addr}{fr:List (Option Addr×Nat)}{fs:List (List yq)}{ra:Option Addr}{rooms:List Int}{ca:Option Addr}{cc:Nat}{ks:List Zm}(h:Xe w fa fr fs ra rooms ca cc ks)(hb:Below w.heap.size w w'):Xe w' fa fr fs ra rooms ca cc ks :=
 ⟨h.f.below hb,h.fl,fun i r l hr hl=>by obtain⟨a,b⟩:=h.each i r l hr hl;exact⟨a.below hb,b⟩,h.c.below hb,h.k.below hb,h.kn,h.kl,h.nf,h.nc⟩
theorem Nb:(Tryz.prog.info? 125).map (fun i=>(i.zero,i.size,i.bytes))=some (some (.agg #[.pointer none,.int .i64 0,.int .i64 0]),3,24):=by kernel_rfl
theorem TA:(Tryz.prog.info? 106).map (fun i=>(i.zero,i.size,i.bytes))=some (some (.agg #[.int .i64 0,.int .i64 0,.int .i64 0]),3,24):=by kernel_rfl
def yX (W:Wd)(i j:Nat)(ring sl:Int)(gl:List Int):Sd :=
 { W:=W,ps:=List.replicate i ⟨Zp ring,⟨none,[]⟩,0,-1⟩,ms:=List.replicate j ⟨-1,-1,0⟩,gl:=gl,sl:=sl,st:=0 }
theorem JM {ld:List (Nat×Nat)}{ps:List Pm}(h:ld.length=ps.length)(l:Nat×Nat)(P:Pm):YK (ld++[l]) (ps++[P])=YK ld ps++FE (l,P):=by
 unfold YK;rw[List.zip_append h,List.flatMap_append];simp
theorem I5 {ld:List (Nat×Nat)}{ps:List Pm}(h:ld.length=ps.length)(l:Nat×Nat)(P:Pm):WY (ld++[l]) (ps++[P])=WY ld ps++[Kq l P]:=by
 unfold WY;rw[List.zipWith_append h];rfl
theorem I8 (ms:List Mm)(M:Mm):Ys (ms++[M])=Ys ms++KX M:=by unfold Ys;rw[List.flatMap_append];simp
theorem Ra {w0 w:World}{R:List zv}(h:Own w0 w R)(fa:Option Addr)(fc:Nat)(fr:List (Option Addr×Nat))(fs:List (List yq))(ra:Option Addr)(rc:Nat)(rooms:List Int)(yr:Nat)(ca:Option Addr)(cc:Nat)(ks:List Zm)(hp:Xe w fa fr fs ra rooms ca cc ks)(hlk:yr≤1000)(np nm:Nat)(ring sl:Int)(hnp:np≤1000)(hnm:nm≤1000)(sp:Nat) :
  Calls Tryz.prog 12 #[.agg #[.slice fa fs.length fc,.slice ra rooms.length rc,.int .i64 (yr:Int),.slice ca ks.length cc],.agg #[.int .i64 (np:Int),.int .i64 (nm:Int),.int .i64 ring,.int .i64 sl],.pointer (some ⟨sp,0,none⟩)] w fun r w'=>∃b,r=.returned (.pointer (some ⟨b,0,none⟩))∧Own w0 w' (Zb b sp (Zy (Za fs ks rooms yr) np nm ring sl)::R):=by
 have h1:=h.alloc [.slice fa fs.length fc,.slice ra rooms.length rc,.int .i64 (yr:Int),.slice ca ks.length cc] 65 (b:=w.heap.size) rfl
 have b1:=below_alloc1 w (.cells [.slice fa fs.length fc,.slice ra rooms.length rc,.int .i64 (yr:Int),.slice ca ks.length cc].toArray 65)
 have h2:=h1.alloc [.int .i64 (np:Int),.int .i64 (nm:Int),.int .i64 ring,.int .i64 sl] 67 (b:=w.heap.size+1) (by simp)
 have b2:=zB b1 (below_alloc1 _ (.cells [.int .i64 (np:Int),.int .i64 (nm:Int),.int .i64 ring,.int .i64 sl].toArray 67))
 have H2:=Qq h2;have HNW:=Qq (fun(wx:World) (hb:Below w.heap.size w wx)=>Eh wx fa fc fr fs ra rc rooms yr ca cc ks (hp.below hb) hlk)
 have B2:=Qq b2;generalize hW:Za fs ks rooms yr=W0 at *
 have HWhp:Hid (W0.hp=[]):=Qq (by rw[←hW];rfl)
 clear h h1 h2 b1 b2 hp hlk hW;go_enter Tryz.func12,Tryz.ntmps12
 go_upto_region 1 with fail
 generalize ((w.alloc (.cells [.slice fa fs.length fc,.slice ra rooms.length rc,.int .i64 (yr:Int),.slice ca ks.length cc].toArray 65)).alloc (.cells [.int .i64 (np:Int),.int .i64 (nm:Int),.int .i64 ring,.int .i64 sl].toArray 67))=w2 at *
 have hB2:=B2.out;have hB3:=zB hB2 (zg w2)
 generalize hqb:w.heap.size+1=qb at *
 generalize hpb:w.heap.size=pb at *
 have h3:=H2.out.step (zg w2)
 have HSB:Hid (∀(wx:World) (As:List zv),Own w0 wx (As++(ze qb [.int .i64 (np:Int),.int .i64 (nm:Int),.int .i64 ring,.int .i64 sl]::ze pb [.slice fa fs.length fc,.slice ra rooms.length rc,.int .i64 (yr:Int),.slice ca ks.length cc]::R))→wx.cell? ⟨qb,3,none⟩=some (.int .i64 sl)∧wx.cell? ⟨pb,0,none⟩=some (.slice fa fs.length fc)∧wx.cell? ⟨pb,1,none⟩=some (.slice ra rooms.length rc)∧wx.cell? ⟨pb,2,none⟩=some (.int .i64 (yr:Int))∧wx.cell? ⟨pb,3,none⟩=some (.slice ca ks.length cc)):=Qq (fun wx As hx=>by
  have h:=Own.Zj hx;exact⟨(h.zi 0 rfl 3 _ rfl).1,(h.zi 1 rfl 0 _ rfl).1,(h.zi 1 rfl 1 _ rfl).1,(h.zi 1 rfl 2 _ rfl).1,(h.zi 1 rfl 3 _ rfl).1⟩)
 clear hB2 B2;refine zV (fun wx=>wx.cell? ⟨qb,3,none⟩=some (.int .i64 sl)∧wx.cell? ⟨pb,0,none⟩=some (.slice fa fs.length fc)∧wx.cell? ⟨pb,1,none⟩=some (.slice ra rooms.length rc)∧wx.cell? ⟨pb,2,none⟩=some (.int .i64 (yr:Int))∧wx.cell? ⟨pb,3,none⟩=some (.slice ca ks.length cc)) 10 (Array.replicate 10 false) (by kernel_rfl) (by kernel_rfl) ?_
 generalize w2.drew=w3 at *;refine zm 0 1 _ (Qj 10 1) 9 (by kernel_rfl) za (HSB.out _ [] h3) (by kernel_rfl) ?_
 simp only[QX,QV,QJ];(repeat((first|refine Qx (h:=?_)|refine Qv (h:=?_));simp only[Act.put,QW,QY,QZ]));refine zb ?_;refine zm 4 3 _ (Qj 10 113) 6 (by kernel_rfl) za (HSB.out _ [] h3) (by kernel_rfl) ?_
 simp only[QX,QV,QQ,QJ];(repeat((first|refine Qx (h:=?_)|refine Qv (h:=?_));simp only[Act.put,QW,QY,QZ]));refine zb ?_;refine zh 1 _ (Qj 10 115) 5 (by kernel_rfl) (fun K hK=>?_)
 have HKK:=Qq hK;clear hK;simp only[QQ,QJ];refine zc (by rfl) ?_;go_simp;refine(HNW.out _ hB3).mono ?_
 rintro r w4 ⟨b0,rfl,hk⟩;have h4:=h3.join hk;obtain⟨D,hD,h5⟩:=h4.Hd;have e5:=HSB.out _ _ h5;refine HKK.out _ _ (e5) ?_
 clear HKK K;obtain⟨Fi,⟨-,hit⟩,-⟩:=h5.fact 8 (A:=xv D.sv W0.hp) rfl
 obtain⟨a5,c5,hv5,hc5⟩:=hit.slice;rw[HWhp.out] at hv5;simp only[List.length_nil] at hv5;have y0:=(h5.zi 0 rfl 0 _ rfl).1
 have y1:=(h5.zi 0 rfl 1 _ rfl).1
 have y2:=(h5.zi 0 rfl 2 _ rfl).1
 have y3:=(h5.zi 0 rfl 3 _ rfl).1
 have y4:=(h5.zi 0 rfl 4 _ rfl).1
 have y5:=(h5.zi 0 rfl 5 _ rfl).1
 have y6:=(h5.zi 0 rfl 6 _ rfl).1
 have y7:=(h5.zi 0 rfl 7 _ rfl).1
 have y8:=(h5.zi 0 rfl 8 _ rfl).1
 have y9:=(h5.zi 0 rfl 9 _ rfl).1
 have y10:=(h5.zi 0 rfl 10 _ rfl).1
 rw[hv5] at y5;refine zh 2 _ (Qj 10 119) 4 (by kernel_rfl) (fun K hK=>?_)
 have HKK:=Qq hK;clear hK;simp only[QQ,QJ];refine zc (by rfl) ?_;go_simp;refine HKK.out _ _ (e5) ?_
 clear HKK K;refine zh 3 _ (Qj 10 127) 3 (by kernel_rfl) (fun K hK=>?_)
 have HKK:=Qq hK;clear hK;simp only[QQ,QJ];refine zc (by rfl) ?_;go_simp;refine HKK.out _ _ (e5) ?_
 clear HKK K;refine zh 7 _ (Qj 10 255) 2 (by kernel_rfl) (fun K hK=>?_)
 have HKK:=Qq hK;clear hK;simp only[QQ,QJ];refine zc (by rfl) ?_;go_simp;refine HKK.out _ _ (e5) ?_
 clear HKK K;refine zh 8 _ (Qj 10 511) 1 (by kernel_rfl) (fun K hK=>?_)
 have HKK:=Qq hK;clear hK;simp only[QQ,QJ];refine zc (by rfl) ?_;go_simp;have h6:=h5.drop;have h7:Own w0 w4 (yD (KW W0 D)::ze qb [.int .i64 (np:Int),.int .i64 (nm:Int),.int .i64 ring,.int .i64 sl]::ze pb [.slice fa fs.length fc,.slice ra rooms.length rc,.int .i64 (yr:Int),.slice ca ks.length cc]::R):=Own.Qz h6
 have h8:=((((((h7.pick 2 rfl).drop).Yr 1).Yr 3).Qz (l:=[])).Yr 3).alloc [.slice D.fa W0.fs.length D.fc,.slice D.ca W0.ks.length D.cc,.slice D.aa W0.gs.length D.ac,.slice D.ha W0.Cs.length D.hc,.slice D.la W0.Ls.length D.lc,.slice a5 0 c5,.int .u64 (W0.nx:Int),.int .u64 (W0.clock:Int),.slice D.oa W0.out.length D.oc,.int .i64 W0.en,.int .i64 W0.why,.pointer (some ⟨sp,0,none⟩),.slice none 0 0,.slice none 0 0,.slice none 0 0,.int .i64 sl,.int .i64 0] 120 (b:=w4.heap.size) rfl
 have hbx:=below_alloc1 w4 (.cells [.slice D.fa W0.fs.length D.fc,.slice D.ca W0.ks.length D.cc,.slice D.aa W0.gs.length D.ac,.slice D.ha W0.Cs.length D.hc,.slice D.la W0.Ls.length D.lc,.slice a5 0 c5,.int .u64 (W0.nx:Int),.int .u64 (W0.clock:Int),.slice D.oa W0.out.length D.oc,.int .i64 W0.en,.int .i64 W0.why,.pointer (some ⟨sp,0,none⟩),.slice none 0 0,.slice none 0 0,.slice none 0 0,.int .i64 sl,.int .i64 0].toArray 120)
 have e6:=HSB.out _ _ (h5.step hbx)
 refine HKK.out _ _ (e6) ?_
 clear HKK K;refine zm 9 1 _ (Qj 10 1023) 0 (by kernel_rfl) za (e6) (by kernel_rfl) ?_
 simp only[QX,QV,QQ,QJ];(repeat((first|refine Qx (h:=?_)|refine Qv (h:=?_));simp only[Act.put,QW,QY,QZ]));refine zb ?_;refine wpAnyH_done (by kernel_rfl) (NoPanic.normal ?_) _
 obtain⟨S0,hS0⟩:∃S0:Sa,S0=⟨D,none,0,[],none,0,none,0⟩:=⟨_,rfl⟩
 have HS:Hid (S0.fits (yX W0 0 0 ring sl [])∧Own w0 (w4.alloc (.cells [.slice D.fa W0.fs.length D.fc,.slice D.ca W0.ks.length D.cc,.slice D.aa W0.gs.length D.ac,.slice D.ha W0.Cs.length D.hc,.slice D.la W0.Ls.length D.lc,.slice a5 0 c5,.int .u64 (W0.nx:Int),.int .u64 (W0.clock:Int),.slice D.oa W0.out.length D.oc,.int .i64 W0.en,.int .i64 W0.why,.pointer (some ⟨sp,0,none⟩),.slice none 0 0,.slice none 0 0,.slice none 0 0,.int .i64 sl,.int .i64 0].toArray 120)) (yV w4.heap.size sp (yX W0 0 0 ring sl []) S0++(ze qb [.int .i64 (np:Int),.int .i64 (nm:Int),.int .i64 ring,.int .i64 sl]::R))):=Qq (by
  subst hS0;refine⟨⟨hD,rfl⟩,?_⟩
  have e:[Value.slice D.fa W0.fs.length D.fc,.slice D.ca W0.ks.length D.cc,.slice D.aa W0.gs.length D.ac,.slice D.ha W0.Cs.length D.hc,.slice D.la W0.Ls.length D.lc,.slice a5 0 c5,.int .u64 (W0.nx:Int),.int .u64 (W0.clock:Int),.slice D.oa W0.out.length D.oc,.int .i64 W0.en,.int .i64 W0.why,.pointer (some ⟨sp,0,none⟩),.slice none 0 0,.slice none 0 0,.slice none 0 0,.int .i64 sl,.int .i64 0]=yH W0 D++UI sp (yX W0 0 0 ring sl []) ⟨D,none,0,[],none,0,none,0⟩:=by
   unfold yH;rw[hv5];rfl
  have h9:=h8;rw[e] at h9;rw[e];exact h9)
 generalize w4.alloc (.cells [.slice D.fa W0.fs.length D.fc,.slice D.ca W0.ks.length D.cc,.slice D.aa W0.gs.length D.ac,.slice D.ha W0.Cs.length D.hc,.slice D.la W0.Ls.length D.lc,.slice a5 0 c5,.int .u64 (W0.nx:Int),.int .u64 (W0.clock:Int),.slice D.oa W0.out.length D.oc,.int .i64 W0.en,.int .i64 W0.why,.pointer (some ⟨sp,0,none⟩),.slice none 0 0,.slice none 0 0,.slice none 0 0,.int .i64 sl,.int .i64 0].toArray 120)=w5 at *
 generalize w4.heap.size=b at *;clear hk h4 h5 h6 h7 h8 hbx e5 e6 hit hv5 hc5 y0 y1 y2 y3 y4 y5 y6 y7 y8 y9 y10 h3 hB3 HNW H2 HSB HWhp hqb hpb hS0 hD;have g0:=(HS.out.2.zi 6 rfl 0 _ rfl).1
 go_wp2_with fail;go_loopw [19] (fun iv wr=>∃i:Nat,∃S:Sa,i≤np∧iv=.int .i64 i∧Hid (S.fits (yX W0 i 0 ring sl [])∧Own w0 wr (yV b sp (yX W0 i 0 ring sl []) S++(ze qb [.int .i64 (np:Int),.int .i64 (nm:Int),.int .i64 ring,.int .i64 sl]::R)))) (fun iv _=>np-(intOf iv).toNat)
 case atStart=>exact⟨0,S0,by omega,rfl,HS⟩
 case round =>
  obtain⟨i,S,hi,rfl,hr⟩:=hrel;clear HS g0;by_cases hlt:i<np
  ·have hlt2:(i:Int)<(np:Int):=by omega
   have hi0:(0:Int)≤(i:Int):=by omega
   have HSB:Hid (∀(wx:World) (As:List zv) (k k2:Nat),Own w0 wx As→As[k]?=some (ze b (yH W0 S.D++UI sp (yX W0 i 0 ring sl []) S))→As[k2]?=some (ze qb [.int .i64 (np:Int),.int .i64 (nm:Int),.int .i64 ring,.int .i64 sl])→wx.cell? ⟨b,12,none⟩=some (.slice S.pa i S.pc)∧wx.cell? ⟨qb,2,none⟩=some (.int .i64 ring)):=Qq (fun wx As k k2 hx h1 h2=>by
    have h3:=(hx.zi k h1 12 _ rfl).1
    have e:(yX W0 i 0 ring sl []).ps.length=i:=by simp[yX]
    rw[e] at h3;exact⟨h3,(hx.zi k2 h2 2 _ rfl).1⟩)
   have HFI:=Qq hr.out.1;have o1:=hr.out.2.step (zg wr)
   have HLN:=Qq (fun wx=>Ko ring wx)
   have hpl:(YK S.ld (yX W0 i 0 ring sl []).ps).length=i*3:=by rw[VJ _ _ hr.out.1.l];simp[yX]
   obtain⟨i0,hi1,hz0,hz1,hz2⟩:=info_parts Nb;have Hi:=Qq hi1;clear hi1
   have Hz0:=Qq hz0;clear hz0
   have Hz1:=Qq hz1;clear hz1
   have Hz2:=Qq hz2;clear hz2
   clear hr;go_upto_region 4 with fail
   refine xg (fun wx=>wx.cell? ⟨b,12,none⟩=some (.slice S.pa i S.pc)∧wx.cell? ⟨qb,2,none⟩=some (.int .i64 ring)) 13 14 (Array.replicate 14 false) (by kernel_rfl) (by kernel_rfl) ?_
   generalize wr.drew=w6 at *;refine yw 0 7 _ (Qj 14 127) 7 (by kernel_rfl) za (HSB.out _ _ 0 6 o1 rfl rfl) (by kernel_rfl) ?_
   simp only[QX,QV,QJ];(repeat((first|refine Qx (h:=?_)|refine Qv (h:=?_));simp only[Act.put,QW,QY,QZ]));refine zb ?_;refine yj 7 _ (Qj 14 255) 6 (by kernel_rfl) (fun K hK=>?_)
   have HKK:=Qq hK;clear hK;simp only[QQ,QJ];refine zc (by rfl) ?_;go_simp;refine(HLN.out _).mono ?_
   rintro r w7 ⟨p,g,rfl,hloc,hpp,hgg,hb7⟩;have o2:=o1.add hb7 (A:=Zx ⟨p,g,Zp ring,⟨none,[]⟩,none,0⟩) (F:=[p,g]) ⟨rfl,hloc⟩ (by intro x hx;simp at hx;rcases hx with rfl|rfl<;>assumption)
   refine HKK.out _ _ (HSB.out _ _ 1 7 o2 rfl rfl) ?_
   clear HKK K;refine yw 8 1 _ (Qj 14 511) 5 (by kernel_rfl) za (HSB.out _ _ 1 7 o2 rfl rfl) (by kernel_rfl) ?_
   simp only[QX,QV,QQ,QJ];(repeat((first|refine Qx (h:=?_)|refine Qv (h:=?_));simp only[Act.put,QW,QY,QZ]));refine zb ?_;have o3:=o2.step (below_alloc1 w7 (.cells #[.pointer (some ⟨p,0,none⟩),.int .i64 0,.int .i64 (-1)] 125))
   refine yj 9 _ (Qj 14 1023) 4 (by kernel_rfl) (fun K hK=>?_)
   have HKK:=Qq hK;clear hK;simp only[QQ,QJ];refine zc (by rfl) ?_;go_simp;refine HKK.out _ _ (HSB.out _ _ 1 7 o3 rfl rfl) ?_
   clear HKK K;refine yj 10 _ (Qj 14 2047) 3 (by kernel_rfl) (fun K hK=>?_)
   have HKK:=Qq hK;clear hK;simp only[QQ,QJ];refine zc (by rfl) ?_;have hrow3:=o3.xl 2 rfl;rw[show(yX W0 i 0 ring sl []).ps.length=i by simp[yX]] at hrow3
   refine yx (n:=i) (m:=1) (cs:=YK S.ld (yX W0 i 0 ring sl []).ps) (ds:=[.pointer (some ⟨p,0,none⟩),.int .i64 0,.int .i64 (-1)]) _ _ 116 (by rfl) 125 i0 _ Tryz.underlying116 Hi.out Hz0.out Hz1.out Hz2.out rfl (by omega) (by omega) (by rfl) (by rfl) hrow3 (zr.new _ [.pointer (some ⟨p,0,none⟩),.int .i64 0,.int .i64 (-1)] _ rfl) rfl (by simp[Value.oneCell']) (by omega) ?_
   intro a9 c9 w9 k9 ch9 f9;have o4:=Own.yJ (o3.pick 2 rfl) k9 ch9 f9
   refine HKK.out _ _ (HSB.out _ _ 2 7 o4 rfl rfl) ?_
   clear HKK K;refine xF 11 1 _ (Qj 14 4095) 2 (by kernel_rfl) za (by kernel_rfl) ?_
   simp only[QX,QV,QQ,QJ];(repeat((first|refine Qx (h:=?_)|refine Qv (h:=?_));simp only[Act.put,QW,QY,QZ]));refine zb ?_;refine yw 12 1 _ (Qj 14 8191) 1 (by kernel_rfl) za (HSB.out _ _ 2 7 o4 rfl rfl) (by kernel_rfl) ?_
   simp only[QX,QV,QQ,QJ];(repeat((first|refine Qx (h:=?_)|refine Qv (h:=?_));simp only[Act.put,QW,QY,QZ]));refine zb ?_;obtain⟨z8,f8⟩:=o4.zi 2 rfl 12 _ rfl;have o5:=((((((o4.setAt 2 rfl 12 (.slice a9 (i+1) c9)).pick 1 rfl).pick 3 rfl).pick 1 rfl).Xx).pick 1 rfl).pick 2 rfl
   have H5:=Qq o5;clear o1 o2 o3 o4 o5 k9 ch9 f9 hrow3 hloc hpp hgg hb7 HSB HLN;refine xE 13 _ (Qj 14 16383) 0 (by kernel_rfl) (fun K hK=>?_)
   have HKK:=Qq hK;clear hK;simp only[QQ,QJ];refine zc (by rfl) ?_;go_simp;refine HKK.out _ _ ?_
   clear HKK K;refine xG (by kernel_rfl) (NoPanic.normal ?_) _
   have HFIN:Hid (Sa.fits { S with pa:=a9,pc:=c9,ld:=S.ld++[(p,g)] } (yX W0 (i+1) 0 ring sl [])∧Own w0 (w9.setCell ⟨b,12,none⟩ (.slice a9 (i+1) c9)) (yV b sp (yX W0 (i+1) 0 ring sl []) { S with pa:=a9,pc:=c9,ld:=S.ld++[(p,g)] }++(ze qb [.int .i64 (np:Int),.int .i64 (nm:Int),.int .i64 ring,.int .i64 sl]::R))):=Qq (by
    have hl:=HFI.out.l;have e1:(yX W0 (i+1) 0 ring sl []).ps=(yX W0 i 0 ring sl []).ps++[⟨Zp ring,⟨none,[]⟩,0,-1⟩]:=by unfold yX;exact List.replicate_succ'
    have e2:(yX W0 (i+1) 0 ring sl []).ps.length=i+1:=by simp[yX]
    refine⟨⟨HFI.out.w,by simp only[List.length_append,List.length_singleton];rw[hl,e2];simp[yX]⟩,?_⟩
    unfold yV UI;simp only
    rw[e2,e1,JM hl,I5 hl,Y6,List.map_append];exact H5.out)
   clear H5 HFI hpl;generalize w9.setCell ⟨b,12,none⟩ (.slice a9 (i+1) c9)=w10 at *
   go_wp2;exact⟨⟨i+1,_,by omega,by go_num,HFIN⟩,by simp[intOf];omega⟩
  ·have hge:¬(i:Int)<(np:Int):=by omega
   obtain rfl:i=np:=by omega
   have g1:=(hr.out.2.zi 6 rfl 1 _ rfl).1
   go_wp2_with fail;go_loopw [37] (fun iv wr=>∃j:Nat,∃S:Sa,j≤nm∧iv=.int .i64 j∧Hid (S.fits (yX W0 i j ring sl [])∧Own w0 wr (yV b sp (yX W0 i j ring sl []) S++(ze qb [.int .i64 (i:Int),.int .i64 (nm:Int),.int .i64 ring,.int .i64 sl]::R)))) (fun iv _=>nm-(intOf iv).toNat)
   case atStart=>exact⟨0,S,by omega,rfl,hr⟩
   case round =>
    obtain⟨j,S1,hj,rfl,hq⟩:=hrel;clear hr g1;by_cases hlt2:j<nm
    ·have hlt3:(j:Int)<(nm:Int):=by omega
     have hj0:(0:Int)≤(j:Int):=by omega
     have em:(yX W0 i j ring sl []).ms.length=j:=by simp[yX]
     have z13:=(hq.out.2.zi 0 rfl 13 _ rfl).1
     rw[em] at z13;have o3:=hq.out.2.step (below_alloc1 wr (.cells #[.int .i64 (-1),.int .i64 (-1),.int .i64 0] 106))
     have z14:=(o3.zi 0 rfl 13 _ rfl)
     rw[em] at z14;have hrow3:=o3.xl 3 rfl;rw[em] at hrow3;have hpl:(Ys (yX W0 i j ring sl []).ms).length=j*3:=by rw[T9];simp[yX]
     have O3:=Qq (And.intro o3 hrow3)
     have HFI:=Qq hq.out.1;obtain⟨i0,hi1,hz0,hz1,hz2⟩:=info_parts TA;have Hi:=Qq hi1;clear hi1
     have Hz0:=Qq hz0;clear hz0
     have Hz1:=Qq hz1;clear hz1
     have Hz2:=Qq hz2;clear hz2
     clear o3 hrow3 hq;go_wp2_with (at_builtin;go_loud (refine yk rfl _ _ 103 rfl 106 i0 _ Tryz.underlying103 Hi.out Hz0.out Hz1.out Hz2.out rfl (by decide) (by decide) (n:=j) (m:=1) (cs:=Ys (yX W0 i j ring sl []).ms) (ds:=[.int .i64 (-1),.int .i64 (-1),.int .i64 0]) (by rfl) (by rfl) O3.out.2 (zr.new _ [.int .i64 (-1),.int .i64 (-1),.int .i64 0] _ rfl) rfl (by simp[Value.oneCell']) (by omega) ?_))
     intro a9 c9 w9 k9 ch9 f9;have o4:=Own.yJ (O3.out.1.pick 3 rfl) k9 ch9 (fun x hx=>by simpa using f9 x hx)
     obtain⟨z8,f8⟩:=o4.zi 1 rfl 13 _ rfl;have o5:=(((o4.setAt 1 rfl 13 (.slice a9 (j+1) c9)).pick 3 rfl).pick 3 rfl).pick 3 rfl
     have HFIN:Hid (Sa.fits { S1 with ma:=a9,mc:=c9 } (yX W0 i (j+1) ring sl [])∧Own w0 (w9.setCell ⟨b,13,none⟩ (.slice a9 (j+1) c9)) (yV b sp (yX W0 i (j+1) ring sl []) { S1 with ma:=a9,mc:=c9 }++(ze qb [.int .i64 (i:Int),.int .i64 (nm:Int),.int .i64 ring,.int .i64 sl]::R))):=Qq (by
      have e1:(yX W0 i (j+1) ring sl []).ms=(yX W0 i j ring sl []).ms++[⟨-1,-1,0⟩]:=by unfold yX;exact List.replicate_succ'
      have e2:(yX W0 i (j+1) ring sl []).ms.length=j+1:=by simp[yX]
      refine⟨⟨HFI.out.w,HFI.out.l⟩,?_⟩
      unfold yV UI;simp only
      rw[e2,e1,I8];exact o5)
     clear o4 o5 k9 ch9 f9 O3 HFI hpl z13 z14 em;go_wp2;exact⟨⟨j+1,_,by omega,by go_num,HFIN⟩,by simp[intOf];omega⟩
    ·have hge3:¬(j:Int)<(nm:Int):=by omega
     obtain rfl:j=nm:=by omega
     have HP:=Qq (fun(wx:World) (hx:Own w0 wx (yV b sp (yX W0 i j ring sl []) S1++(ze qb [.int .i64 (i:Int),.int .i64 (j:Int),.int .i64 ring,.int .i64 sl]::R))) (a:Option Addr) (hm:yT wx a [0])=>XB (L:=⟨S1.pa,S1.ma,S1.ld,S1.mc⟩) ⟨S1,hq.out.1,⟨rfl,⟨rfl,rfl⟩,rfl⟩,hx⟩ a 1 1 [0] rfl hm (by simp[yX]))
     have HO:=Qq (hq.out.2.step (below_alloc1 wr (.cells #[.int .i64 0] 3)))
     clear hq;go_wp2_with fail;refine(HP.out _ HO.out _ (zN.one wr 0 3 rfl).ints).mono ?_
     rintro r w9 ⟨rfl,h9⟩;have HF:Hid (Own w0 w9 (Zb b sp (Zy W0 i j ring sl)::R)):=Qq (h9.less.to)
     clear h9 HP HO;go_wp2;go_ret;exact⟨b,rfl,HF.out⟩
theorem Uc {α β:Type}:∀(rs:List α) (ps:List β) (r:α) (p:β),ps[rs.length]?=some p→List.zip (rs++[r]) ps=List.zip rs ps++[(r,p)]
 | [],[],r,p,h=>by simp at h
 | [],q::ps,r,p,h=>by simp at h;subst h;simp
 | x::rs,[],r,p,h=>by simp at h
 | x::rs,y::ps,r,p,h=>by
  have:=Uc rs ps r p (by simpa using h)
  simp[this]
def Hw (x:Nat×Pm):List Value:=[.int .i64 x.2.q.num,.slice (some ⟨x.1,0,none⟩) x.2.q.l.length x.2.q.l.length,.int .i64 (x.2.tu:Int),.int .i64 x.2.by_]
def R0 (rs:List Nat)(ps:List Pm):List Value:=(List.zip rs ps).flatMap Hw
def OS (rs:List Nat)(ps:List Pm):List zv:=(List.zip rs ps).map fun x=>Y3 (some ⟨x.1,0,none⟩) x.2.q.l.length x.2.q.l
theorem LX {rs:List Nat}{ps:List Pm}{r:Nat}{p:Pm}(h:ps[rs.length]?=some p):R0 (rs++[r]) ps=R0 rs ps++Hw (r,p):=by simp[R0,Uc rs ps r p h]
theorem LC {rs:List Nat}{ps:List Pm}{r:Nat}{p:Pm}(h:ps[rs.length]?=some p):OS (rs++[r]) ps=OS rs ps++[Y3 (some ⟨r,0,none⟩) p.q.l.length p.q.l]:=by simp[OS,Uc rs ps r p h]
theorem KZ {rs:List Nat}{ps:List Pm}(h:rs.length≤ps.length):(R0 rs ps).length=rs.length*4:=by
 unfold R0;rw[ZK _ 4 (fun _=>rfl) _]
 simp;omega
theorem QU:(Tryz.prog.info? 102).map (fun i=>(i.zero,i.size,i.bytes))=some (some (.agg #[.int .i64 0,.slice none 0 0,.int .i64 0,.int .i64 0]),4,48):=by kernel_rfl
section
variable {w0 w:World} {b sp:Nat} {L:Sl} {X:Sd} {R:List zv}
theorem zG.Gj {w':World}{a:Option Addr}{cap:Nat}{l:List Int}(h:zG w0 w b sp L X R)(hb:Below w.heap.size w w')(hr:zN w' a cap l)(hf:∀x∈zY a,w.heap.size≤x):zG w0 w' b sp L X (Y3 a cap l::R):=by
 obtain⟨Q,k1,k2⟩:=h.tail;exact k2 _ (Y3 a cap l::R) (Own.newRow k1 hb hr hf)
theorem zG.yJ {w':World}{s n n' cap cap':Nat}{a a':Option Addr}{cs cs':List Value}(h:zG w0 w b sp L X (zd s a cap n cs::R))(hr:zT s w' a' cap' n' cs')(c:zK (zY a) w w')(hf:∀x∈zY a',x∈zY a∨w.heap.size≤x):zG w0 w' b sp L X (zd s a' cap' n' cs'::R):=by
 obtain⟨Q,k1,k2⟩:=h.tail;exact k2 _ (zd s a' cap' n' cs'::R) (Own.yJ (As:=R++Q) k1 hr c hf)
theorem zG.Kl {s n cap:Nat}{a:Option Addr}{cs:List Value}(h:zG w0 w b sp L X (zd s a cap n cs::R)):zT s w a cap n cs:=by
 obtain⟨Q,k1,-⟩:=h.tail;exact Own.xl k1 0 rfl
theorem zG.Qz {l:List zv}(h:zG w0 w b sp L X (l++R)):zG w0 w b sp L X (yD l::R):=by
 obtain⟨Q,k1,k2⟩:=h.tail;exact k2 _ (yD l::R) (Own.Qz (by rw[List.append_assoc] at k1;exact k1))
theorem zG.Xx {l:List zv}{A:zv}(h:zG w0 w b sp L X (A::yD l::R)):zG w0 w b sp L X (yD (l++[A])::R):=by
 obtain⟨Q,k1,k2⟩:=h.tail;exact k2 _ (yD (l++[A])::R) (Own.Xx k1)
theorem zG.Yr (h:zG w0 w b sp L X R)(s:Nat):zG w0 w b sp L X (zd s none 0 0 []::R):=by
 obtain⟨Q,k1,k2⟩:=h.tail;exact k2 _ (zd s none 0 0 []::R) (Own.Yr k1 s)
end
theorem Ud {w0 w:World}{b sp:Nat}{L:Sl}{X:Sd}{R:List zv}(h:zG w0 w b sp L X R)(hn:X.ps.length≤1000) :
  Calls Tryz.prog 32 #[.pointer (some ⟨b,0,none⟩)] w fun r w'=>∃a c rs,rs.length=X.ps.length∧r=.returned (.slice a X.ps.length c)∧zG w0 w' b sp L X (zd 4 a c X.ps.length (R0 rs X.ps)::yD (OS rs X.ps)::R):=by
 obtain⟨c12v,hc12⟩:=h.Zw;have h0:zG w0 w b sp L X (zd 4 none 0 0 (R0 [] X.ps)::yD (OS [] X.ps)::R):=zG.Yr (zG.Qz (l:=[]) h) 4
 have H0:=Qq h0;obtain⟨n,hN⟩:∃n,n=X.ps.length:=⟨_,rfl⟩
 rw[←hN] at hc12 hn ⊢;have HN:=Qq hN;clear h h0 hN;go_enter Tryz.func32,Tryz.ntmps32
 go_wp2_with fail;go_loopw [3,11] (fun s iv wr=>∃i:Nat,∃a c,∃rs:List Nat,i≤n∧iv=.int .i64 i∧s=.slice a i c∧rs.length=i∧Hid (zG w0 wr b sp L X (zd 4 a c i (R0 rs X.ps)::yD (OS rs X.ps)::R))) (fun _ iv _=>n-(intOf iv).toNat)
 case atStart=>exact⟨0,none,0,[],by omega,rfl,rfl,rfl,H0⟩
 case round =>
  obtain⟨i,a,c,rs,hi,rfl,rfl,hrs,hr⟩:=hrel;clear hc12 H0;by_cases hlt:i<n
  ·have hlt2:(i:Int)<(n:Int):=by omega
   have hi0:(0:Int)≤(i:Int):=by omega
   have hiX:i<X.ps.length:=by have:=HN.out;omega
   obtain⟨pb,off,p,g,hpa,hld⟩:=hr.out.pa hiX;obtain⟨⟨z0,z1,z2⟩,-,-⟩:=hr.out.proc hiX hpa hld;rw[hpa];have h1:=hr.out.box [.pointer (some ⟨p,0,none⟩),.int .i64 ((X.p i).tu:Int),.int .i64 (X.p i).by_] 125
   have hpi:X.ps[rs.length]?=some (X.p i):=by rw[hrs];exact X.Zt hiX
   have hpl:(R0 rs X.ps).length=i*4:=by rw[KZ (by omega),hrs]
   have HP:=Qq (And.intro hiX (And.intro hld (And.intro hpi hpl)))
   clear hr hpa hiX hld hpi hpl;obtain⟨i0,hi1,hz0,hz1,hz2⟩:=info_parts QU;have Hi:=Qq hi1;clear hi1
   have Hz0:=Qq hz0;clear hz0
   have Hz1:=Qq hz1;clear hz1
   have Hz2:=Qq hz2;clear hz2
   go_upto_region 5 with fail
   generalize wr.alloc (.cells [.pointer (some ⟨p,0,none⟩),.int .i64 ((X.p i).tu:Int),.int .i64 (X.p i).by_].toArray 125)=w1 at *
   generalize wr.heap.size=q at *;have h2:=h1.step (zg w1)
   have HSB:Hid (∀(wx:World) (R':List zv),zG w0 wx b sp L X (ze q [.pointer (some ⟨p,0,none⟩),.int .i64 ((X.p i).tu:Int),.int .i64 (X.p i).by_]::R')→wx.cell? ⟨q,0,none⟩=some (.pointer (some ⟨p,0,none⟩))∧wx.cell? ⟨q,1,none⟩=some (.int .i64 ((X.p i).tu:Int))∧wx.cell? ⟨q,2,none⟩=some (.int .i64 (X.p i).by_)) :=
    Qq (fun wx R' hx=>⟨(hx.zi 0 _ rfl).1,(hx.zi 1 _ rfl).1,(hx.zi 2 _ rfl).1⟩)
   clear h1 z0 z1 z2;refine zV (fun wx=>wx.cell? ⟨q,0,none⟩=some (.pointer (some ⟨p,0,none⟩))∧wx.cell? ⟨q,1,none⟩=some (.int .i64 ((X.p i).tu:Int))∧wx.cell? ⟨q,2,none⟩=some (.int .i64 (X.p i).by_)) 15 (Array.replicate 15 false) (by kernel_rfl) (by kernel_rfl) ?_
   generalize w1.drew=w2 at *;refine zm 0 3 _ (Qj 15 7) 12 (by kernel_rfl) za (HSB.out _ _ h2) (by kernel_rfl) ?_
   simp only[QX,QV,QJ];(repeat((first|refine Qx (h:=?_)|refine Qv (h:=?_));simp only[Act.put,QW,QY,QZ]));refine zb ?_;refine zm 4 2 _ (Qj 15 55) 10 (by kernel_rfl) za (HSB.out _ _ h2) (by kernel_rfl) ?_
   simp only[QX,QV,QQ,QJ];(repeat((first|refine Qx (h:=?_)|refine Qv (h:=?_));simp only[Act.put,QW,QY,QZ]));refine zb ?_;refine zm 7 4 _ (Qj 15 1975) 6 (by kernel_rfl) za (HSB.out _ _ h2) (by kernel_rfl) ?_
   simp only[QX,QV,QQ,QJ];(repeat((first|refine Qx (h:=?_)|refine Qv (h:=?_));simp only[Act.put,QW,QY,QZ]));refine zb ?_;refine zh 3 _ (Qj 15 1983) 5 (by kernel_rfl) (fun K hK=>?_)
   have HKK:=Qq hK;clear hK;simp only[QQ,QJ];refine zc (by rfl) ?_;go_simp;refine(P8 h2 HP.out.1 HP.out.2.1).mono ?_
   rintro r w3 ⟨rfl,rfl⟩;refine HKK.out _ _ (HSB.out _ _ h2) ?_
   clear HKK K;refine zh 6 _ (Qj 15 2047) 4 (by kernel_rfl) (fun K hK=>?_)
   have HKK:=Qq hK;clear hK;simp only[QQ,QJ];refine zc (by rfl) ?_;go_simp;refine(NU w3 p g _ _ (h2.loc HP.out.1 HP.out.2.1)).mono ?_
   rintro r w4 ⟨rb,rfl,hrb,hrow,hb4⟩;have h3:=h2.Gj hb4 hrow (by intro x hx;simp[zY] at hx;omega)
   have h4:=h3.perm (List.Perm.swap _ _ _)
   refine HKK.out _ _ (HSB.out _ _ h4) ?_
   clear HKK K;refine zm 11 1 _ (Qj 15 4095) 3 (by kernel_rfl) za (HSB.out _ _ h4) (by kernel_rfl) ?_
   simp only[QX,QV,QQ,QJ];(repeat((first|refine Qx (h:=?_)|refine Qv (h:=?_));simp only[Act.put,QW,QY,QZ]));refine zb ?_;have h5:=h4.step (below_alloc1 w4 (.cells #[.int .i64 (X.p i).q.num,.slice (some ⟨rb,0,none⟩) (X.p i).q.l.length (X.p i).q.l.length,.int .i64 ((X.p i).tu:Int),.int .i64 (X.p i).by_] 102))
   refine zh 12 _ (Qj 15 8191) 2 (by kernel_rfl) (fun K hK=>?_)
   have HKK:=Qq hK;clear hK;simp only[QQ,QJ];refine zc (by rfl) ?_;go_simp;refine HKK.out _ _ (HSB.out _ _ h5) ?_
   clear HKK K;refine zh 13 _ (Qj 15 16383) 1 (by kernel_rfl) (fun K hK=>?_)
   have HKK:=Qq hK;clear hK;simp only[QQ,QJ];refine zc (by rfl) ?_;have h6:=h5.perm ((List.perm_middle (a:=zd 4 a c i (R0 rs X.ps)) (l₁:=[ze q _,Y3 _ _ _])))
   refine yx (n:=i) (m:=1) (cs:=R0 rs X.ps) (ds:=Hw (rb,X.p i)) _ _ 99 (by rfl) 102 i0 _ Tryz.underlying99 Hi.out Hz0.out Hz1.out Hz2.out rfl (by omega) (by omega) (by rfl) (by rfl) h6.Kl (zr.new _ (Hw (rb,X.p i)) _ rfl) rfl (by simp[Hw,Value.oneCell']) (by omega) ?_
   intro a9 c9 w9 k9 ch9 f9;have h7:=h6.yJ k9 ch9 f9;have h8:=h7.perm (List.Perm.swap _ _ _)
   refine HKK.out _ _ (HSB.out _ _ h8) ?_
   clear HKK K;refine zm 14 1 _ (Qj 15 32767) 0 (by kernel_rfl) za (HSB.out _ _ h8) (by kernel_rfl) ?_
   simp only[QX,QV,QQ,QJ];(repeat((first|refine Qx (h:=?_)|refine Qv (h:=?_));simp only[Act.put,QW,QY,QZ]));refine zb ?_;refine wpAnyH_done (by kernel_rfl) (NoPanic.normal ?_) _
   have HF:Hid (zG w0 w9 b sp L X (zd 4 a9 c9 (i+1) (R0 (rs++[rb]) X.ps)::yD (OS (rs++[rb]) X.ps)::R)):=Qq (by
    rw[LX HP.out.2.2.1,LC HP.out.2.2.1];have ha:=h8.less;have hb:=(ha.perm (List.perm_middle (a:=zd 4 a9 c9 (i+1) (R0 rs X.ps++Hw (rb,X.p i))) (l₁:=[Y3 (some ⟨rb,0,none⟩) (X.p i).q.l.length (X.p i).q.l,yD (OS rs X.ps)]) (l₂:=R)).symm).Xx
    exact hb.perm (List.Perm.swap _ _ _))
   go_wp2;exact⟨⟨i+1,a9,c9,rs++[rb],by omega,by go_num,rfl,by simp[hrs],HF⟩,by simp[intOf];omega⟩
  ·have hge:¬(i:Int)<(n:Int):=by omega
   obtain rfl:i=n:=by omega
   go_wp2;go_ret;exact⟨a,c,rs,hrs,rfl,hr.out⟩
theorem QT (w:World)(a:Option Addr)(n c:Nat)(cs:List Value)(h:zT 3 w a c n cs)(hone:∀u∈cs,u.oneCell'=true)(hl:n≤1000000) :
  Calls Tryz.prog 58 #[.slice a n c] w fun r w'=>∃a' c',r=.returned (.slice a' n c')∧zT 3 w' a' c' n cs∧(∀x∈zY a',w.heap.size≤x)∧Below w.heap.size w w':=by
 cases a with
 | none =>
  obtain⟨rfl,rfl,rfl⟩:=RH (by omega) h
  clear h hone;have he:∀w:World,(binOp .eql 103 (.slice none 0 0) (.slice none 0 0)).run Tryz.prog w=.ok (.bool true) w:=fun _=>rfl
  go_enter Tryz.func58,Tryz.ntmps58
  go_wp2;go_ret;exact⟨none,0,rfl,zT.nil _ _,fun x hx=>by simp[zY] at hx,Below.refl _ _⟩
 | some ad =>
  obtain⟨i0,hi0,hz0,hz1,hz2⟩:=info_parts TA;have Hi:=Qq hi0;clear hi0
  have Hz0:=Qq hz0;clear hz0
  have Hz1:=Qq hz1;clear hz1
  have Hz2:=Qq hz2;clear hz2
  have H:=Qq h;have HO:=Qq hone;clear h hone;have he:∀w:World,(binOp .eql 103 (.slice (some ad) n c) (.slice none 0 0)).run Tryz.prog w=.ok (.bool false) w:=fun _=>rfl
  go_enter Tryz.func58,Tryz.ntmps58
  go_wp2_with (at_builtin;refine yk (m:=n) (n:=0) (cs:=[]) (ds:=cs) rfl _ _ 103 rfl 106 i0 _ Tryz.underlying103 Hi.out Hz0.out Hz1.out Hz2.out rfl (by omega) (by omega) rfl rfl (zT.zero (by simp)) ((H.out.below (below_alloc1 _ _)).cells) H.out.1 HO.out (by omega) ?_)
  intro a1 c1 w1 k1 ch1 f1;have hf:zT 3 w1 a1 c1 n cs∧(∀x∈zY a1,w.heap.size≤x)∧Below w.heap.size w w1:=by
   refine⟨by simpa using k1,fun x hx=>?_,zK.below (below_alloc1 _ _) ch1 (fun x hx=>by simp[zY] at hx;omega)⟩
   rcases f1 x hx with h|h
   ·simp[zY] at h;omega
   ·first|omega|(simp at h;omega)
  have HF:=Qq hf;clear hf k1 ch1 f1;go_wp2;go_ret;exact⟨a1,c1,by simp,HF.out⟩
theorem R6 {w0 w:World}{b sp:Nat}{L:Sl}{X:Sd}{R:List zv}(h:zG w0 w b sp L X R)(hn:X.ms.length≤1000) :
  Calls Tryz.prog 33 #[.pointer (some ⟨b,0,none⟩)] w fun r w'=>∃a c,r=.returned (.slice a X.ms.length c)∧zG w0 w' b sp L X (zd 3 a c X.ms.length (Ys X.ms)::R):=by
 have xS:=h.Eb;obtain⟨n,hN⟩:∃n,n=X.ms.length:=⟨_,rfl⟩
 have hr:zT 3 w L.ma L.mc n (Ys X.ms):=by
  obtain⟨S,hf,⟨-,e,-⟩,h1⟩:=h;rw[←e.1,←e.2,hN];exact h1.xl 3 rfl
 rw[←hN] at xS hn ⊢;have HC:=Qq (QT w L.ma n L.mc (Ys X.ms) hr (by
  intro u hu;simp[Ys] at hu
  obtain⟨x,-,hx⟩:=hu;simp[KX] at hx
  rcases hx with rfl|rfl|rfl<;>rfl) (by omega))
 have H:=Qq h;clear h hr hN;go_enter Tryz.func33,Tryz.ntmps33
 go_wp2_with fail;refine HC.out.mono ?_
 rintro r w1 ⟨a1,c1,rfl,k1,f1,b1⟩;have hs:zG w0 w1 b sp L X (zd 3 a1 c1 n (Ys X.ms)::R):=by
  obtain⟨Q,q1,q2⟩:=H.out.tail;exact q2 _ (zd 3 a1 c1 n (Ys X.ms)::R) (q1.add b1 (A:=zd 3 a1 c1 n (Ys X.ms)) (F:=zY a1) ⟨rfl,k1⟩ f1)
 have HS:=Qq hs;clear hs k1 f1 b1;go_wp2;go_ret;exact⟨a1,c1,rfl,HS.out⟩
theorem Pz {w:World}{a:Option Addr}{l:List Int}(h:yT w a l):zr w a (zt l):=fun j v hj=>by
 simp[zt] at hj
 obtain⟨x,hx,rfl⟩:=hj;obtain⟨hl,rfl⟩:=List.getElem?_eq_some_iff.1 hx
 exact h j hl
end Go.Proofs.YtlkjheheofgdgaaGreat
open Go Go.RowKit Go.Maps
namespace Go.Proofs.YtlkjheheofgdgaaGreat
theorem Ol:Keyed Tryz.prog 3:=int_keyed Tryz.underlying3
theorem L3 (w:World):(zeroValue 3).run Tryz.prog w=.ok (.int .i64 0) w:=by kernel_rfl
def Dn (w:World)(r:Nat)(M:List Int):Prop :=
 ∃D,w.ownsMap (H:=Unit) Tryz.prog 3 (plainElem Tryz.prog 3) r M.length D∧(∀v,v∈M→has D (.int .i64 v)=true∧D.atKey (.int .i64 v) (.lit (.int .i64 0))=.lit (.int .i64 1))∧(∀v,v∉M→has D (.int .i64 v)=false)∧Maps.size D=M.length
def xD (r:Nat)(M:List Int):zv where
 at_ w F:=F=[r]∧Dn w r M
 lt:=by rintro w F ⟨rfl,D,h,_⟩ x hx;simp at hx;subst hx;exact h.lt
 yE:=by
  rintro w w' F G ⟨rfl,D,h,h2⟩ c hd
  have hl:=h.lt;obtain⟨es,clock,hb,hF,hs,hD⟩:=h;exact⟨rfl,D,⟨es,clock,by rw[c.block r hl (hd r (by simp))];exact hb,hF,hs,hD⟩,h2⟩
theorem Dh {v:Int}(h:0≤v∧v<1000):(Lit.int .i64 v).wf=true:=WalkArith.wf_i64 (by omega)
theorem Gx {v:Int}(h:0≤v∧v<1000):keyOf Tryz.prog 3 (.int .i64 v)=some (.int .i64 v):=keyOf_int_mk Tryz.underlying3 (Dh h)
theorem Own.St {w0 w:World}{R:List zv}(h:Own w0 w R){r:Nat}(hr:r=w.heap.size):Own w0 (w.alloc (.map #[] 0)) (xD r []::R):=by
 subst hr;exact h.add (below_alloc1 _ _) (A:=xD w.heap.size []) (F:=[w.heap.size]) ⟨rfl,_,World.ownsMap_made _ _ _ _,fun v hv=>by simp at hv,fun v _=>rfl,rfl⟩ (fun x hx=>by simp at hx;omega)
theorem Own.XD {w0 w:World}{r:Nat}{M:List Int}{R:List zv}(h:Own w0 w (xD r M::R))(v:Int)(hv:0≤v∧v<1000)(hn:v∉M)(hl:M.length≤1000) :
  (Instr.lookup 98 (.map (some r)) (.int .i64 v) false).run Tryz.prog w=.ok (.int .i64 0) w∧∃w',(Instr.mapUpdate 98 (.map (some r)) (.int .i64 v) (.int .i64 1)).run Tryz.prog w=.ok () w'∧Own w0 w' (xD r (M++[v])::R):=by
 obtain⟨F,⟨_,D,hD,h1,h2,h3⟩,_⟩:=h.fact 0 rfl;refine⟨?_,?_⟩
 ·obtain⟨c,hrun,hat,hwc⟩:=hD.lookup_int Ol Tryz.underlying98 Tryz.underlying3 (L3 _) (Gx hv)
  rw[atKey_of_not_has (h2 v hn)] at hat
  have hc:c=0:=by simpa using hat.symm
  rw[hc] at hrun;exact hrun
 ·obtain⟨w',hrun,hD',hg⟩:=hD.update Ol Tryz.underlying98 (by unfold maxLen;omega) (Gx hv) (plainElem_int Tryz.underlying3 (a:=1) (by decide))
  refine⟨w',hrun,Own.SY (As:=[xD r M]) (As':=[xD r (M++[v])]) (R:=R) h (fun F hF=>?_)⟩
  obtain⟨rfl,_⟩:=xe.1 hF;refine⟨[r],xe.2 ⟨rfl,D.put (.int .i64 v) (.lit (.int .i64 1)),by rw[List.length_append];exact hD',fun u hu=>?_,fun u hu=>?_,?_⟩,(yy hg).mono (by simp),fun x hx=>.inl hx⟩
  ·have hkl:WideAt.IsKeyLit (Lit.int .i64 v):=by first|trivial|simp[WideAt.IsKeyLit]
   by_cases e:u=v
   ·subst e
    exact⟨has_put_same hD.isMap hkl _,atKey_put_same hD.isMap hkl _ _⟩
   ·have hu':u∈M:=by rcases List.mem_append.1 hu with h|h;exact h;exact absurd (List.mem_singleton.1 h) e
    have hne:(Lit.int .i64 u)≠.int .i64 v:=fun hc=>e (by injection hc)
    rw[has_put_other hne,atKey_put_other hne];exact h1 u hu'
  ·have e:u≠v:=fun hc=>hu (by rw[hc];simp)
   have hne:(Lit.int .i64 u)≠.int .i64 v:=fun hc=>e (by injection hc)
   rw[has_put_other hne];exact h2 u (fun hc=>hu (List.mem_append.2 (.inl hc)))
  ·rw[size_put (hD.tidy Ol),h2 v hn,h3,List.length_append];rfl
theorem Own.TW {w0 w:World}{r:Nat}{M:List Int}{R:List zv}(h:Own w0 w (xD r M::R))(v:Int)(hv:0≤v∧v<1000)(hn:v∈M) :
  (Instr.lookup 98 (.map (some r)) (.int .i64 v) false).run Tryz.prog w=.ok (.int .i64 1) w:=by
 obtain⟨F,⟨_,D,hD,h1,h2,h3⟩,_⟩:=h.fact 0 rfl;obtain⟨c,hrun,hat,hwc⟩:=hD.lookup_int Ol Tryz.underlying98 Tryz.underlying3 (L3 _) (Gx hv)
 rw[(h1 v hn).2] at hat
 have hc:c=1:=by simpa using hat.symm
 rw[hc] at hrun;exact hrun
theorem X0 {M l rest:List Int}(h:(M++(l++rest)).Nodup)(j:Nat)(hj:j<l.length):l[j]∉M++l.take j:=fun hc=>by
 have e:M++(l++rest)=(M++l.take j)++(l[j]::(l.drop (j+1)++rest)):=by
  have h1:=List.take_append_drop j l;rw[List.drop_eq_getElem_cons hj] at h1;have h2:l++rest=l.take j++(l[j]::(l.drop (j+1)++rest)):=by
   rw[←List.cons_append,←List.append_assoc,h1]
  rw[h2];simp
 rw[e] at h;exact(List.nodup_append.1 h).2.2 _ hc _ (List.mem_cons_self ..) rfl
theorem Th (M l:List Int)(j:Nat)(hj:j<l.length):(M++l.take j)++[l[j]]=M++l.take (j+1):=by
 rw[List.take_add_one,List.getElem?_eq_getElem hj,List.append_assoc];rfl
def Pm.c (P:Pm):List Int:=P.q.l++P.q.nx.toList
def YZ (X:Sd):List Int:=X.gl++(X.ps.flatMap Pm.c++X.ms.flatMap Mm.l)
theorem VN:∀l:List Pm,(l.flatMap Pm.c).Perm (l.flatMap Pm.l)
 | []=>List.Perm.refl _
 | p::t=>by
  rw[List.flatMap_cons,List.flatMap_cons];exact List.Perm.append List.perm_append_comm (VN t)
theorem US (X:Sd):(YZ X).Perm X.all:=(List.Perm.append_right _ (VN X.ps)).append_left _
structure GB (X:Sd):Prop where
 nd:(YZ X).Nodup
 mem:∀v,v∈YZ X↔∃k:Nat,v=(k:Int)∧(X.W.g k).st=1
 rg:∀v∈YZ X,0≤v∧v<1000
 len:(YZ X).length≤1000
theorem yF.E8 {B:Nat}{X:Sd}(h:yF B X):GB X:=by
 have h1:∀v,v∈YZ X↔∃k:Nat,v=(k:Int)∧(X.W.g k).st=1:=fun v=>((US X).mem_iff).trans (h.mem v)
 have h2:∀v∈YZ X,0≤v∧v<((100:Nat):Int):=fun v hv=>by
  obtain⟨k,rfl,hk⟩:=(h1 v).1 hv
  have hg:=h.wf.g1.2;rcases Nat.lt_or_ge k X.W.gs.length with h3|h3
  ·omega
  ·rw[Ww (by omega)] at hk;exact absurd hk (by decide)
 have h3:(YZ X).Nodup:=((US X).nodup_iff).2 h.nd
 exact⟨h3,h1,fun v hv=>by have:=h2 v hv;omega,by have:=ZY 100 _ h3 h2;omega⟩
section
variable {w0 w:World} {b sp:Nat} {L:Sl} {X:Sd} {R:List zv} {r:Nat} {M:List Int}
theorem zG.St (h:zG w0 w b sp L X R):zG w0 (w.alloc (.map #[] 0)) b sp L X (xD w.heap.size []::R):=by
 obtain⟨Q,k1,k2⟩:=h.tail;exact k2 _ (xD w.heap.size []::R) (Own.St k1 rfl)
theorem zG.XD (h:zG w0 w b sp L X (xD r M::R))(v:Int)(hv:0≤v∧v<1000)(hn:v∉M)(hl:M.length≤1000) :
  (Instr.lookup 98 (.map (some r)) (.int .i64 v) false).run Tryz.prog w=.ok (.int .i64 0) w∧∃w',(Instr.mapUpdate 98 (.map (some r)) (.int .i64 v) (.int .i64 1)).run Tryz.prog w=.ok () w'∧zG w0 w' b sp L X (xD r (M++[v])::R):=by
 obtain⟨Q,k1,k2⟩:=h.tail;obtain⟨h1,w',h2,h3⟩:=Own.XD k1 v hv hn hl;exact⟨h1,w',h2,k2 _ (xD r (M++[v])::R) h3⟩
theorem zG.TW (h:zG w0 w b sp L X (xD r M::R))(v:Int)(hv:0≤v∧v<1000)(hl:M.length≤1000) :
  (Instr.lookup 98 (.map (some r)) (.int .i64 v) false).run Tryz.prog w=.ok (.int .i64 (if v∈M then 1 else 0)) w:=by
 obtain⟨Q,k1,k2⟩:=h.tail;by_cases e:v∈M
 ·rw[if_pos e];exact Own.TW k1 v hv e
 ·rw[if_neg e];exact(Own.XD k1 v hv e hl).1
end
theorem XT {α:Type}(f:α→List Int)(l:List α)(k:Nat)(a:α)(h:l[k]?=some a):(l.take (k+1)).flatMap f=(l.take k).flatMap f++f a∧l.flatMap f=(l.take k).flatMap f++(f a++(l.drop (k+1)).flatMap f):=by
 have hl:=(List.getElem?_eq_some_iff.1 h).1
 have ha:=(List.getElem?_eq_some_iff.1 h).2
 refine⟨by rw[List.take_add_one,h,List.flatMap_append];simp,?_⟩
 have e:l=l.take k++a::l.drop (k+1):=by rw[←ha,List.getElem_cons_drop,List.take_append_drop]
 have e2:=congrArg (fun x=>x.flatMap f) e
 simp only[List.flatMap_append,List.flatMap_cons] at e2;exact e2
theorem zG.GH {w0 w:World}{b sp:Nat}{L:Sl}{X:Sd}{R:List zv}{rs:List Nat}(h:zG w0 w b sp L X (yD (OS rs X.ps)::R)){i r:Nat}{p:Pm}(hr:rs[i]?=some r)(hp:X.ps[i]?=some p):zN w (some ⟨r,0,none⟩) p.q.l.length p.q.l:=by
 obtain⟨Q,k1,-⟩:=h.tail;have e:(OS rs X.ps)[i]?=some (Y3 (some ⟨r,0,none⟩) p.q.l.length p.q.l):=by
  have e0:(List.zip rs X.ps)[i]?=some (r,p):=List.getElem?_zip_eq_some.2 ⟨hr,hp⟩
  unfold OS;rw[List.getElem?_map,e0]
  rfl
 obtain⟨F,⟨-,h1⟩,-⟩:=Own.XC k1 e;exact h1
theorem V2 {rs:List Nat}{ps:List Pm}{i r:Nat}{p:Pm}(hr:rs[i]?=some r)(hp:ps[i]?=some p)(j:Nat)(hj:j<4):(R0 rs ps)[i*4+j]?=(Hw (r,p))[j]?:=by
 have e:(List.zip rs ps)[i]?=some (r,p):=List.getElem?_zip_eq_some.2 ⟨hr,hp⟩
 have hl:=(List.getElem?_eq_some_iff.1 e).1
 have h1:=x6 Hw 4 (fun _=>rfl) (List.zip rs ps) i j hl hj
 rw[(List.getElem?_eq_some_iff.1 e).2] at h1
 exact h1
def Mm.p (M:Mm):List Int:=if M.P = -1 then[] else[M.P]
theorem TO {ms:List Mm}{i:Nat}{m:Mm}(h:ms[i]?=some m)(j:Nat)(hj:j<3):(Ys ms)[i*3+j]?=(KX m)[j]?:=by
 have hl:=(List.getElem?_eq_some_iff.1 h).1
 have h1:=x6 KX 3 (fun _=>rfl) ms i j hl hj
 rw[(List.getElem?_eq_some_iff.1 h).2] at h1
 exact h1
theorem yF.held {B:Nat}{X:Sd}(h:yF B X){i:Nat}(hi:i<X.ms.length)(hP:(X.m i).P ≠ -1):(X.m i).P∉(X.ms.take i).flatMap Mm.p∧(0≤(X.m i).P∧(X.m i).P<1000)∧((X.ms.take i).flatMap Mm.p).length≤64:=by
 have hnp:=h.np;have hnm:=h.nm;obtain⟨⟨h1,h2⟩,h3⟩:=h.m1 i hi hP;have hlen:∀l:List Mm,(l.flatMap Mm.p).length≤l.length:=fun l=>by
  induction l with
  | nil=>simp
  | cons x t ih =>
   rw[List.flatMap_cons,List.length_append,List.length_cons];have:x.p.length≤1:=by unfold Mm.p;split<;>simp
   omega
 refine⟨fun hc=>?_,⟨h1,by omega⟩,by have:=hlen (X.ms.take i);rw[List.length_take] at this;omega⟩
 obtain⟨m,hm,hv⟩:=List.mem_flatMap.1 hc;obtain⟨j,hj,hjm⟩:=List.getElem_of_mem hm;rw[List.length_take] at hj;have e:X.m j=m:=by
  unfold Sd.m;rw[List.getElem_take] at hjm;rw[List.getD_eq_getElem?_getD,List.getElem?_eq_getElem (by omega),hjm];rfl
 unfold Mm.p at hv;split at hv
 ·simp at hv
 ·rename_i hne
  simp at hv
  rw[←e] at hne hv;obtain⟨-,h5⟩:=h.m1 j (by omega) hne
  rw[←hv,h3] at h5;omega
theorem GB.next {l A:List Int}{v:Int}{Z:List Int}(hn:l.Nodup)(e:l=A++(v::Z)):v∉A:=fun hc=>by
 rw[e] at hn;exact(List.nodup_append.1 hn).2.2 _ hc _ (List.mem_cons_self ..) rfl
end Go.Proofs.YtlkjheheofgdgaaGreat
open Go Go.RowKit
namespace Go.Proofs.YtlkjheheofgdgaaGreat
theorem Ku (a b V:Value):(#[a,b]++(Array.replicate 14 undef).setIfInBounds 4 V)=#[a,b,undef,undef,undef,undef,V,undef,undef,undef,undef,undef,undef,undef,undef,undef]:=rfl
theorem R5 (p q:Addr)(w:World) :
  CallsD Tryz.prog 55 #[.pointer (some p),.pointer (some q)] .returning w fun e u' w'=>e=.returned (.tuple #[])∧u'=.returning∧w'=w:=by
 refine callsD_of_wpS Tryz.func55 rfl fun c₀ cs hu=>?_
 apply wpS_seq
 apply wpS_region
 simp[wpOpsS,go_sem,recoverD,hu,Tryz.ntmps55,Exit.thenS]
 rw[Ku];refine wpS_of_wp ?_;go_wp2;cases c₀
 simp_all [bodyPostS,results,Tryz.results55]
theorem Fw (w:World):(Instr.typeAssert (.iface 153 (.agg #[])) 20 153 true).run Tryz.prog w=.ok (.tuple #[.agg #[],.bool true]) w:=by kernel_rfl
theorem FT (v:Value)(w:World):(Instr.typeAssert (.iface 95 v) 20 153 true).run Tryz.prog w=.ok (.tuple #[.agg #[],.bool false]) w:=by kernel_rfl
theorem OH (v:Value)(w:World):(Instr.typeAssert (.iface 95 v) 20 95 true).run Tryz.prog w=.ok (.tuple #[v,.bool true]) w:=by kernel_rfl
def uz:List Value:=[.int .i64 0,.int .i64 0,.int .i64 0,.int .i64 0,.int .u64 0]
def uv (a0 a1 a2 a3 a4:Int):List Value:=[.int .i64 a0,.int .i64 a1,.int .i64 a2,.int .i64 a3,.int .u64 a4]
theorem Mh {w0 w:World}{R:List zv}{p q:Nat}{x:Value}(h:Own w0 w (ze p [x]::ze q uz::R))(older:List PanicEntry) :
  CallsD Tryz.prog 55 #[.pointer (some ⟨p,0,none⟩),.pointer (some ⟨q,0,none⟩)] (.panicking ({ v:=.iface 153 (.agg #[]),recovered:=false }::older)) w fun e u' w' =>
   e=.returned (.tuple #[])∧u'=.panicking ({ v:=.iface 153 (.agg #[]),recovered:=true }::older)∧Own w0 w' (ze p [.int .i64 1]::ze q uz::R):=by
 have h1:=Fw;obtain⟨g0,f0⟩:=h.zi 0 rfl 0 _ rfl;have hpl:=World.block_lt_of_cell? w _ g0
 have H:=Qq ((h.set 0 (.int .i64 1)).step (below_alloc1 _ (.cells #[] 153)))
 clear h;refine callsD_of_wpS Tryz.func55 rfl fun c₀ cs hu=>?_
 apply wpS_seq
 apply wpS_region
 simp[wpOpsS,go_sem,recoverD,hu,Tryz.ntmps55,Exit.thenS]
 rw[Ku];refine wpS_of_wp ?_;go_wp2;refine⟨rfl,_,rfl,.tuple #[],by simp[results,Tryz.results55],rfl,rfl,H.out⟩
theorem TJ {w0 w:World}{R:List zv}{p q:Nat}{x:Value}(a0 a1 a2 a3 a4:Int)(h:Own w0 w (ze p [x]::ze q uz::R))(older:List PanicEntry) :
  CallsD Tryz.prog 55 #[.pointer (some ⟨p,0,none⟩),.pointer (some ⟨q,0,none⟩)] (.panicking ({ v:=.iface 95 (.agg (uv a0 a1 a2 a3 a4).toArray),recovered:=false }::older)) w fun e u' w' =>
   e=.returned (.tuple #[])∧u'=.panicking ({ v:=.iface 95 (.agg (uv a0 a1 a2 a3 a4).toArray),recovered:=true }::older)∧Own w0 w' (ze p [.int .i64 2]::ze q (uv a0 a1 a2 a3 a4)::R):=by
 have h1:=fun w=>FT (.agg (uv a0 a1 a2 a3 a4).toArray) w
 have h2:=fun w=>OH (.agg (uv a0 a1 a2 a3 a4).toArray) w
 have h3:∀w:World,(binOp .eql 20 (.iface 95 (.agg (uv a0 a1 a2 a3 a4).toArray)) .nilIface).run Tryz.prog w=.ok (.bool false) w:=fun w=>rfl
 have h4:∀w:World,(eqGuard .eql 20 (.tmp 6) (.const .nilIface) (.iface 95 (.agg (uv a0 a1 a2 a3 a4).toArray)) .nilIface).run Tryz.prog w=.ok () w:=fun w=>rfl
 generalize Value.iface 95 (.agg (uv a0 a1 a2 a3 a4).toArray)=V at *
 unfold uv at h2;unfold uz at h;unfold uv;obtain⟨g0,f0⟩:=h.zi 0 rfl 0 _ rfl;have hpl:=World.block_lt_of_cell? w _ g0
 have H:=Qq h;clear h;refine callsD_of_wpS Tryz.func55 rfl fun c₀ cs hu=>?_
 apply wpS_seq
 apply wpS_region
 simp[wpOpsS,go_sem,recoverD,hu,Tryz.ntmps55,Exit.thenS]
 rw[Ku];refine wpS_of_wp ?_;go_upto_region 10 with fail
 obtain⟨q0,e0⟩:=H.out.zi 1 rfl 0 _ rfl;obtain⟨q1,e1⟩:=H.out.zi 1 rfl 1 _ rfl;obtain⟨q2,e2⟩:=H.out.zi 1 rfl 2 _ rfl;obtain⟨q3,e3⟩:=H.out.zi 1 rfl 3 _ rfl;obtain⟨q4,e4⟩:=H.out.zi 1 rfl 4 _ rfl;have hql:=World.block_lt_of_cell? w _ q0
 have hpq:p≠q:=by
  obtain⟨_,F,⟨F1,F2,rfl,⟨rfl,_,_⟩,hd,⟨F3,F4,rfl,⟨rfl,_,_⟩,_,_⟩⟩,_⟩:=H.out;intro he;subst he;exact hd p (by simp) (by simp)
 go_region
 have h5:=((H.out.set 0 (.int .i64 2)).pick 1 rfl)
 have h6:=((((((h5.set 0 (.int .i64 a0)).set 1 (.int .i64 a1)).set 2 (.int .i64 a2)).set 3 (.int .i64 a3)).set 4 (.int .u64 a4)).pick 1 rfl).step (below_alloc1 _ (.cells #[.int .i64 a0,.int .i64 a1,.int .i64 a2,.int .i64 a3,.int .u64 a4] 95))
 exact⟨rfl,_,rfl,.tuple #[],by simp[results,Tryz.results55],rfl,rfl,h6.step (zg _)⟩
def YH (r:Ending)(k:Int)(u:List Value):Prop :=
 (r=.returned (.tuple #[])∧k=0∧u=uz)∨(r=KV∧k=1∧u=uz)∨∃i kd n x,r=ZI i kd n x∧k=2∧u=uv (i:Int) kd (n:Int) x.1 (x.2:Int)
theorem Da {u:List Value}{r:Ending}{k:Int}(h:YH r k u):∃a0 a1 a2 a3 a4,u=uv a0 a1 a2 a3 a4:=by
 rcases h with⟨_,_,rfl⟩|⟨_,_,rfl⟩|⟨i,kd,n,x,_,_,rfl⟩
 ·exact⟨_,_,_,_,_,rfl⟩
 ·exact⟨_,_,_,_,_,rfl⟩
 ·exact⟨_,_,_,_,_,rfl⟩
theorem GP {w0 w:World}{R:List zv}{p q:Nat}{x y:List Value}(h:Own w0 w (ze p x::ze q y::R)):p≠q:=by
 obtain⟨_,F,⟨F1,F2,rfl,⟨rfl,_,_⟩,hd,⟨F3,F4,rfl,⟨rfl,_,_⟩,_,_⟩⟩,_⟩:=h;intro he;subst he;exact hd p (by simp) (by simp)
theorem Yu {w0 w:World}{R:List zv}{g g':Nat}{k a0 a1 a2 a3 a4:Int}(h:Own w0 w (ze g [.int .i64 k]::ze g' (uv a0 a1 a2 a3 a4)::R))(tmps:Array Value)(h2:tmps.getD 2 undef=.pointer (some ⟨g,0,none⟩))(h3:tmps.getD 3 undef=.pointer (some ⟨g',0,none⟩)) :
  (results Tryz.f30 tmps).run Tryz.prog w=.ok (.tuple #[.int .i64 k,.agg (uv a0 a1 a2 a3 a4).toArray]) w:=by
 unfold uv at *;obtain⟨g0,-⟩:=h.zi 0 rfl 0 _ rfl;obtain⟨q0,-⟩:=h.zi 1 rfl 0 _ rfl;obtain⟨q1,-⟩:=h.zi 1 rfl 1 _ rfl;obtain⟨q2,-⟩:=h.zi 1 rfl 2 _ rfl;obtain⟨q3,-⟩:=h.zi 1 rfl 3 _ rfl;obtain⟨q4,-⟩:=h.zi 1 rfl 4 _ rfl;have h2':tmps[2]?.getD undef=.pointer (some ⟨g,0,none⟩):=by simpa using h2
 have h3':tmps[3]?.getD undef=.pointer (some ⟨g',0,none⟩):=by simpa using h3
 simp[results,Tryz.results30,go_sem,h2',h3',asAddr,g0,q0,q1,q2,q3,q4]
theorem OE {w0 w:World}{R:List zv}(h:Own w0 w R)(F:Nat)(cap:Array Value)(en:∀(args:Array Value) (w:World),(callFunc F args).run Tryz.prog w=.ok (.enter F args) w)(Qr:Ending→List zv→Prop)
  (hrun:∀w1 g,Own w0 w1 (ze g [.int .i64 0]::ze (g+1) uz::R)→Calls Tryz.prog F cap w1 fun r w2=>∃R' k u,Own w0 w2 (ze g [.int .i64 0]::ze (g+1) uz::R')∧Qr r R'∧YH r k u) :
  Calls Tryz.prog 30 #[.func (.func F) #[] cap] w fun e w'=>∃r R' k u,Own w0 w' R'∧Qr r R'∧YH r k u∧e=.returned (.tuple #[.int .i64 k,.agg u.toArray]):=by
 have hmf:∀(fn:Fn) (first cap:Array Value) (w:World),(Instr.makeFunc fn first cap).run Tryz.prog w=.ok (.func fn first cap) w:=fun _ _ _ _=>rfl
 have hA:=((h.alloc [.int .i64 0] 3 (b:=w.heap.size) rfl).alloc uz 95 (b:=w.heap.size+1) (by simp)).pick 1 rfl
 have hC:=hrun _ _ hA;have HC:=Qq hC;clear hrun hA hC h;unfold uz at HC;go_enter_defers Tryz.func30,Tryz.ntmps30
 go_wp2_with fail;refine HC.out.mono ?_
 rintro r w2 ⟨R',k,u,ho,hq,he⟩;clear HC;generalize w.heap.size=g at *;rcases he with⟨rfl,rfl,rfl⟩|⟨rfl,rfl,rfl⟩|⟨i,kd,n,x,rfl,rfl,rfl⟩
 ·have HO:=Qq ho
  have hpq:=GP ho;have h5:=((ho.set 0 (.int .i64 0)).pick 1 rfl)
  have h6:=(((((h5.set 0 (.int .i64 0)).set 1 (.int .i64 0)).set 2 (.int .i64 0)).set 3 (.int .i64 0)).set 4 (.int .u64 0)).pick 1 rfl
  have H6:=Qq h6;have HQ:=Qq hq;obtain⟨g0,f0⟩:=ho.zi 0 rfl 0 _ rfl;obtain⟨q0,e0⟩:=ho.zi 1 rfl 0 _ rfl;obtain⟨q1,e1⟩:=ho.zi 1 rfl 1 _ rfl;obtain⟨q2,e2⟩:=ho.zi 1 rfl 2 _ rfl;obtain⟨q3,e3⟩:=ho.zi 1 rfl 3 _ rfl;obtain⟨q4,e4⟩:=ho.zi 1 rfl 4 _ rfl;clear ho h5 h6 hq;go_wp2;refine leaves_cons (f:=55) (args:=#[.pointer (some ⟨g,0,none⟩),.pointer (some ⟨g+1,0,none⟩)]) (by simp) (by simp[go_sem]) ?_
  refine(R5 _ _ _).mono ?_
  rintro e u' w'' ⟨rfl,rfl,rfl⟩;exact⟨_,Yu (H6.out) _ rfl rfl,.returned (.tuple #[]),R',0,uz,(H6.out).drop.drop,HQ.out,.inl ⟨rfl,rfl,rfl⟩,rfl⟩
 ·refine leaves_cons (f:=55) (args:=#[.pointer (some ⟨g,0,none⟩),.pointer (some ⟨g+1,0,none⟩)]) (by simp) (by simp[go_sem]) ?_
  refine(Mh ho _).mono ?_
  rintro e u' w'' ⟨rfl,rfl,ho2⟩;refine⟨_,Yu (ho2) _ rfl rfl,KV,R',1,uz,ho2.drop.drop,hq,.inr (.inl ⟨rfl,rfl,rfl⟩),rfl⟩
 ·refine leaves_cons (f:=55) (args:=#[.pointer (some ⟨g,0,none⟩),.pointer (some ⟨g+1,0,none⟩)]) (by simp) (by simp[go_sem]) ?_
  refine(TJ _ _ _ _ _ ho _).mono ?_
  rintro e u' w'' ⟨rfl,rfl,ho2⟩;refine⟨_,Yu (ho2) _ rfl rfl,_,R',2,_,ho2.drop.drop,hq,.inr (.inr ⟨i,kd,n,x,rfl,rfl,rfl⟩),rfl⟩
def FG (e:Ev)(ra:Option Addr)(rc:Nat):List Value:=[.int .i64 e.kind,.int .i64 e.M,.int .i64 e.G,.slice ra e.rd.length rc]
def Vn {sp:Nat}(D:UU sp)(s:D.T)(X:Sd)(j:Nat)(e:Ev)(k:Int)(X':Sd)(s':D.T):Prop :=
 (xU X≠0∧e=⟨0,0,0,[]⟩∧k=0∧X'=X∧s'=s∧D.ok (j+2) s) ∨
 (xU X=0∧D.ok j s'∧((∃m:Nat,∃v s1,m≤X.ms.length∧D.Dv s 1 ((X.ms.length:Int)+1) (m:Int) s1∧Fit D s1 (xy X m) v s'∧e=(xp X m v).2∧k=0∧X'=(xp X m v).1) ∨
  (∃r,(D.Dp s 1 ((X.ms.length:Int)+1) r s'∨∃m:Nat,∃s1 kd n,m≤X.ms.length∧D.Dv s 1 ((X.ms.length:Int)+1) (m:Int) s1∧xy X m=some (kd,n)∧D.Dp s1 kd n r s')∧e=⟨0,0,0,[]⟩∧(∃u,YH r k u)∧(k=1∨k=2)∧X'=X)))
theorem Oq {α:Type _}{e r s:α}{A Z:List α}:List.Perm (e::r::s::(A++Z)) (A++(s::e::r::Z)) :=
 (List.perm_middle (a:=s) (l₁:=[e,r]) (l₂:=A++Z)).trans (List.perm_append_comm_assoc [s,e,r] A Z)
theorem Oh {α:Type _}{a c r:α}{A Z:List α}:List.Perm (r::(A++(a::c::Z))) (c::r::a::(A++Z)) :=
 XH.trans (List.perm_middle (a:=a) (l₁:=[c,r]) (l₂:=A++Z)).symm
theorem Ic {α:Type _}{a c r:α}{A Z:List α}:List.Perm (r::(A++(a::c::Z))) (A++(a::c::r::Z)) :=
 XH.trans (List.perm_append_comm_assoc [a,c,r] A Z)
theorem QM {w0 w:World}{b sp bs be:Nat}{X:Sd}{Z:List zv}{D:UU sp}{s:D.T}{j B:Nat}(h:Own w0 w (Zb b sp X::(D.A s++(ze bs [.pointer (some ⟨b,0,none⟩)]::ze be Y8::Z))))(hok:D.ok (j+2) s)(wf:yF B X)(hB:B≤80000)(hen:X7 X.W.en)
  (hpan:∀s kd n r s',D.Dp s kd n r s'→∃k u,YH r k u∧(k=1∨k=2)) :
  Calls Tryz.prog 31 #[.pointer (some ⟨bs,0,none⟩),.pointer (some ⟨be,0,none⟩)] w fun r w'=>∃e ra rc k u X' s',Vn D s X j e k X' s'∧YH r k u ∧
   Own w0 w' (Zb b sp X'::(D.A s'++(ze bs [.pointer (some ⟨b,0,none⟩)]::ze be (FG e ra rc)::zd 1 ra rc e.rd.length (zt e.rd)::Z))):=by
 obtain⟨L,h⟩:=h.sat;have hg1:=wf.wf.g1;have HX:Hid (∀wx Y A,zG w0 wx b sp L Y (A++(ze bs [.pointer (some ⟨b,0,none⟩)]::ze be Y8::Z))→wx.cell? ⟨bs,0,none⟩=some (.pointer (some ⟨b,0,none⟩))):=Qq (fun wx Y A hx=>((hx.perm List.perm_middle).zi 0 _ rfl).1)
 have x0:=HX.out _ _ _ h;by_cases hov:xU X=0
 ·have hen0:X.W.en=0:=by
   unfold xU at hov;rcases hen with e|e|e
   ·exact e
   ·rw[if_pos e] at hov;cases hov
   ·rw[if_neg (by omega),if_pos e] at hov;cases hov
  have HS:=Qq (SE h hok wf hB hov hen0)
  have HOV:=Qq hov;clear h hok wf hen hov hg1 hen0;go_enter Tryz.func31,Tryz.ntmps31
  go_wp2_with fail;refine HS.out.mono ?_
  rintro r w1 hp
  rcases hp with⟨m,v,s1,s',ra,rc,hm,hdv,hf,ho,rfl,h1⟩|⟨ch,s',rfl,hd,ho,h1⟩
  ·have HL:Hid (Vn D s X j (xp X m v).2 0 (xp X m v).1 s'):=Qq (.inr ⟨HOV.out,ho,.inl ⟨m,v,s1,hm,hdv,hf,rfl,rfl,rfl⟩⟩)
   clear hm hdv hf ho HS HX;generalize xp X m v=st at *;obtain⟨Y,e⟩:=st;simp only at h1 HL ⊢
   have h2:zG w0 w1 b sp L Y (ze be Y8::zd 1 ra rc e.rd.length (zt e.rd)::ze bs [.pointer (some ⟨b,0,none⟩)]::(D.A s'++Z)):=h1.perm Oh
   have HE:Hid (∀wx,zG w0 wx b sp L Y (ze be (FG e ra rc)::zd 1 ra rc e.rd.length (zt e.rd)::ze bs [.pointer (some ⟨b,0,none⟩)]::(D.A s'++Z))→∃e ra rc k u X' s',Vn D s X j e k X' s'∧YH (.returned (.tuple #[])) k u∧Own w0 wx (Zb b sp X'::(D.A s'++(ze bs [.pointer (some ⟨b,0,none⟩)]::ze be (FG e ra rc)::zd 1 ra rc e.rd.length (zt e.rd)::Z)))):=Qq (fun wx hx=>⟨e,ra,rc,0,uz,Y,s',HL.out,.inl ⟨rfl,rfl,rfl⟩,(hx.perm Oq).to⟩)
   clear HL h1;obtain⟨k0,M0,G0,rd⟩:=e;unfold UK FG at *;simp only at h2 HE ⊢
   generalize rd.length=N at *;unfold Y8 at h2;obtain⟨z0,y0⟩:=h2.zi 0 _ rfl;obtain⟨z1,y1⟩:=h2.zi 1 _ rfl;obtain⟨z2,y2⟩:=h2.zi 2 _ rfl;obtain⟨z3,y3⟩:=h2.zi 3 _ rfl;have h3:=(((h2.zJ 0 (.int .i64 k0)).zJ 1 (.int .i64 M0)).zJ 2 (.int .i64 G0)).zJ 3 (.slice ra N rc)
   have HR:=Qq (HE.out _ h3)
   clear h2 h3 HE;go_wp2;go_end0
   exact HR.out
  ·obtain⟨k,u,he,hk⟩:∃k u,YH (.panicked ch) k u∧(k=1∨k=2):=by
    rcases hd with hd|⟨m,s1,kd,n,-,-,-,hd⟩
    ·exact hpan _ _ _ _ _ hd
    ·exact hpan _ _ _ _ _ hd
   refine⟨rfl,⟨0,0,0,[]⟩,none,0,k,u,X,s',.inr ⟨HOV.out,ho,.inr ⟨_,hd,rfl,⟨u,he⟩,hk,rfl⟩⟩,he,?_⟩
   exact(h1.Vc.perm Ic).to
 ·have HS:=Qq (Mi h (by omega) hov)
  have HL:Hid (Vn D s X j ⟨0,0,0,[]⟩ 0 X s):=Qq (.inl ⟨hov,rfl,rfl,rfl,rfl,hok⟩)
  clear h hok wf hen hov hg1;go_enter Tryz.func31,Tryz.ntmps31
  go_wp2_with fail;refine HS.out.mono ?_
  rintro r w1 ⟨rfl,h1⟩;have h2:zG w0 w1 b sp L X (ze be Y8::zd 1 none 0 0 []::ze bs [.pointer (some ⟨b,0,none⟩)]::(D.A s++Z)):=h1.Vc.perm Oh
  unfold Y8 at h2;unfold UK;obtain⟨z0,y0⟩:=h2.zi 0 _ rfl;obtain⟨z1,y1⟩:=h2.zi 1 _ rfl;obtain⟨z2,y2⟩:=h2.zi 2 _ rfl;obtain⟨z3,y3⟩:=h2.zi 3 _ rfl;have h3:=(((h2.zJ 0 (.int .i64 0)).zJ 1 (.int .i64 0)).zJ 2 (.int .i64 0)).zJ 3 (.slice none 0 0)
  have HR:=Qq (h3.perm Oq).to
  clear h1 h2 h3 HS HX;go_wp2;go_end0
  exact⟨⟨0,0,0,[]⟩,none,0,0,uz,X,s,HL.out,.inl ⟨rfl,rfl,rfl⟩,HR.out⟩
theorem I3 {α:Type _}{S q e r z:α}{A R:List α}:List.Perm (S::(A++(q::e::r::z::R))) (e::z::q::r::S::(A++R)):=by
 refine((List.perm_append_comm_assoc A [q,e,r,z] R).cons S).trans ?_
 refine(List.perm_append_comm_assoc [S] [q,e,r,z] (A++R)).trans ?_
 show List.Perm (q::e::r::z::(S::(A++R))) _
 exact(List.Perm.swap _ _ _).trans (List.Perm.cons _ ((List.Perm.cons _ (List.Perm.swap _ _ _)).trans (List.Perm.swap _ _ _)))
theorem OU {r:Ending}{k k':Int}{u u':List Value}(h:YH r k u)(h':YH r k' u'):k=k':=by
 rcases h with⟨rfl,rfl,rfl⟩|⟨rfl,rfl,rfl⟩|⟨i,kd,n,x,rfl,rfl,rfl⟩
 ·rcases h' with⟨-,rfl,rfl⟩|⟨e,-,-⟩|⟨i',kd',n',x',e,-,-⟩
  ·rfl
  ·cases e
  ·cases e
 ·rcases h' with⟨e,-,-⟩|⟨-,rfl,rfl⟩|⟨i',kd',n',x',e,-,-⟩
  ·cases e
  ·rfl
  ·exact absurd e (by unfold KV ZI;simp)
 ·rcases h' with⟨e,-,-⟩|⟨e,-,-⟩|⟨i',kd',n',x',e,rfl,-⟩
  ·cases e
  ·exact absurd e.symm (by unfold KV ZI;simp)
  ·rfl
theorem UO {w:World}{q:Nat}{a b c k:Int}{ra:Option Addr}{n rc:Nat}(e0:w.cell? ⟨q,0,none⟩=some (.int .i64 a))(e1:w.cell? ⟨q,1,none⟩=some (.int .i64 b))(e2:w.cell? ⟨q,2,none⟩=some (.int .i64 c))(e3:w.cell? ⟨q,3,none⟩=some (.slice ra n rc))(tmps:Array Value)(h2:tmps.getD 2 undef=.pointer (some ⟨q,0,none⟩))(h3:tmps.getD 3 undef=.int .i64 k) :
  (results Tryz.f9 tmps).run Tryz.prog w=.ok (.tuple #[.agg #[.int .i64 a,.int .i64 b,.int .i64 c,.slice ra n rc],.int .i64 k]) w:=by
 have h2':tmps[2]?.getD undef=.pointer (some ⟨q,0,none⟩):=by simpa using h2
 have h3':tmps[3]?.getD undef=.int .i64 k:=by simpa using h3
 simp[results,Tryz.results9,go_sem,h2',h3',asAddr,e0,e1,e2,e3]
theorem OZ {w0 w:World}{b sp:Nat}{X:Sd}{R:List zv}{D:UU sp}{s:D.T}{j B:Nat}(h:Own w0 w (Zb b sp X::(D.A s++R)))(hok:D.ok (j+2) s)(wf:yF B X)(hB:B≤80000)(hen:X7 X.W.en)
  (hpan:∀s kd n r s',D.Dp s kd n r s'→∃k u,YH r k u∧(k=1∨k=2)) :
  Calls Tryz.prog 9 #[.pointer (some ⟨b,0,none⟩)] w fun r w'=>∃e ra rc k X' s',Vn D s X j e k X' s'∧r=.returned (.tuple #[UK e ra rc,.int .i64 k]) ∧
   Own w0 w' (zd 1 ra rc e.rd.length (zt e.rd)::Zb b sp X'::(D.A s'++R)):=by
 have hmf:∀(fn:Fn) (first cap:Array Value) (w:World),(Instr.makeFunc fn first cap).run Tryz.prog w=.ok (.func fn first cap) w:=fun _ _ _ _=>rfl
 have en:∀(args:Array Value) (w:World),(callFunc 31 args).run Tryz.prog w=.ok (.enter 31 args) w:=fun _ _=>by kernel_rfl
 have h1:=h.alloc [.pointer (some ⟨b,0,none⟩)] 31 (b:=w.heap.size) rfl
 have h2:=h1.alloc Y8 54 (b:=w.heap.size+1) (by simp)
 have h3:=h2.alloc Y8 54 (b:=w.heap.size+1+1) (by simp)
 have H3:=Qq h3;have HG:=Qq (fun(wx:World) (bs be:Nat) (Z:List zv) (hx:Own w0 wx (Zb b sp X::(D.A s++(ze bs [.pointer (some ⟨b,0,none⟩)]::ze be Y8::Z))))=>OE hx 31 #[.pointer (some ⟨bs,0,none⟩),.pointer (some ⟨be,0,none⟩)] en
  (fun r R'=>∃e ra rc k u X' s',Vn D s X j e k X' s'∧YH r k u∧R'=(Zb b sp X'::(D.A s'++(ze bs [.pointer (some ⟨b,0,none⟩)]::ze be (FG e ra rc)::zd 1 ra rc e.rd.length (zt e.rd)::Z))))
  (fun w1 g h1=>by
   have h2:Own w0 w1 (Zb b sp X::(D.A s++(ze bs [.pointer (some ⟨b,0,none⟩)]::ze be Y8::ze g [.int .i64 0]::ze (g+1) uz::Z))):=h1.perm (by
    refine(List.perm_append_comm_assoc [ze g [.int .i64 0],ze (g+1) uz] [Zb b sp X] _).trans (List.Perm.cons _ ?_)
    refine(List.perm_append_comm_assoc [ze g [.int .i64 0],ze (g+1) uz] (D.A s) _).trans (List.Perm.append_left _ ?_)
    exact List.perm_append_comm_assoc [ze g [.int .i64 0],ze (g+1) uz] [ze bs _,ze be Y8] Z)
   refine(QM h2 hok wf hB hen hpan).mono (fun r w2 hh=>?_)
   obtain⟨e,ra,rc,k,u,X',s',hl,he,ho⟩:=hh;refine⟨_,k,u,ho.perm ?_,⟨e,ra,rc,k,u,X',s',hl,he,rfl⟩,he⟩
   refine List.Perm.symm ?_
   refine(List.perm_append_comm_assoc [ze g [.int .i64 0],ze (g+1) uz] [Zb b sp X'] _).trans (List.Perm.cons _ ?_)
   refine(List.perm_append_comm_assoc [ze g [.int .i64 0],ze (g+1) uz] (D.A s') _).trans (List.Perm.append_left _ ?_)
   exact List.perm_append_comm_assoc [ze g [.int .i64 0],ze (g+1) uz] [ze bs _,ze be _,zd 1 ra rc e.rd.length (zt e.rd)] Z))
 clear h h1 h2 h3 hok wf hen hpan;unfold UK;go_enter Tryz.func9,Tryz.ntmps9
 go_wp2_with fail;have hG:=HG.out _ w.heap.size (w.heap.size+1+1) (ze (w.heap.size+1) Y8::R) (H3.out.perm (by
  refine(List.perm_append_comm_assoc [ze (w.heap.size+1+1) Y8,ze (w.heap.size+1) Y8,ze w.heap.size _] [Zb b sp X] _).trans (List.Perm.cons _ ?_)
  refine(List.perm_append_comm_assoc [ze (w.heap.size+1+1) Y8,ze (w.heap.size+1) Y8,ze w.heap.size _] (D.A s) _).trans (List.Perm.append_left _ ?_)
  exact(xN _ 2 _ rfl).trans (List.Perm.refl _)))
 refine hG.mono ?_
 rintro r w1 ⟨rr,R',k,u,ho,⟨e,ra,rc,k',u',X',s',hl,he',rfl⟩,he,rfl⟩;obtain rfl:=OU he he'
 obtain⟨a0,a1,a2,a3,a4,rfl⟩:=Da he;clear he he' hG H3 HG;generalize w.heap.size=q at *;have h5:=(ho.perm I3).step (below_alloc1 w1 (.cells (uv a0 a1 a2 a3 a4).toArray 95))
 have HL:=Qq hl;obtain⟨k0,M0,G0,rd⟩:=e;unfold FG at h5;unfold Y8 at h5;unfold uv at h5 ⊢
 simp only at h5
 have HE:Hid (∀wx rr,rr=Ending.returned (.tuple #[.agg #[.int .i64 k0,.int .i64 M0,.int .i64 G0,.slice ra rd.length rc],.int .i64 k])→Own w0 wx (zd 1 ra rc rd.length (zt rd)::Zb b sp X'::(D.A s'++R))→∃e ra rc k X' s',Vn D s X j e k X' s'∧rr=.returned (.tuple #[.agg #[.int .i64 e.kind,.int .i64 e.M,.int .i64 e.G,.slice ra e.rd.length rc],.int .i64 k]) ∧
   Own w0 wx (zd 1 ra rc e.rd.length (zt e.rd)::Zb b sp X'::(D.A s'++R))):=Qq (fun wx rr e hx=>⟨⟨k0,M0,G0,rd⟩,ra,rc,k,X',s',HL.out,e,hx⟩)
 generalize rd.length=N at *;clear ho hl HL;go_upto_region 3 with fail
 generalize w1.alloc (.cells [.int .i64 a0,.int .i64 a1,.int .i64 a2,.int .i64 a3,.int .u64 a4].toArray 95)=w2 at *
 have c0:=(h5.zi 0 rfl 0 _ rfl).1
 have c1:=(h5.zi 0 rfl 1 _ rfl).1
 have c2:=(h5.zi 0 rfl 2 _ rfl).1
 have c3:=(h5.zi 0 rfl 3 _ rfl).1
 obtain⟨z0,y0⟩:=h5.zi 1 rfl 0 _ rfl;obtain⟨z1,y1⟩:=h5.zi 1 rfl 1 _ rfl;obtain⟨z2,y2⟩:=h5.zi 1 rfl 2 _ rfl;obtain⟨z3,y3⟩:=h5.zi 1 rfl 3 _ rfl;have h6:=(((h5.setAt 1 rfl 0 (.int .i64 k0)).setAt 1 rfl 1 (.int .i64 M0)).setAt 1 rfl 2 (.int .i64 G0)).setAt 1 rfl 3 (.slice ra N rc)
 have RS:=UO (k:=k) (h6.zi 1 rfl 0 _ rfl).1 (h6.zi 1 rfl 1 _ rfl).1 (h6.zi 1 rfl 2 _ rfl).1 (h6.zi 1 rfl 3 _ rfl).1
 have HR:=Qq (HE.out _ _ rfl h6.drop.drop.drop)
 clear h5 h6 HE;go_wp2;exact bodyPost_ret (RS _ rfl rfl) rfl HR.out
theorem Nj {w0 w:World}{b sp:Nat}{L:Sl}{X:Sd}{R:List zv}{B:Nat}(h:zG w0 w b sp L X R)(wf:yF B X) :
  Calls Tryz.prog 10 #[.pointer (some ⟨b,0,none⟩)] w fun r w'=>r=.returned (.bool true)∧zG w0 w' b sp L X R:=by
 have hA:=wf.E8;have HA:=Qq hA;have WFH:=Qq wf;have hnp:=wf.np;have hnm:=wf.nm;have hgl:=wf.gl;have h1:=h.St;have h2:=h1.St;have hmm:∀wr:World,(Instr.makeMap 98 none).run Tryz.prog wr=.ok (.map (some wr.heap.size)) (wr.alloc (.map #[] 0)):=fun wr=>run_makeMap_plain wr _
 simp only[World.size_alloc] at h2;have H2:=Qq (h2.perm (List.Perm.swap _ _ _))
 clear h h1 h2 wf hA;go_enter Tryz.func10,Tryz.ntmps10
 go_upto_region 3 with fail
 generalize ((w.alloc (.map #[] 0)).alloc (.map #[] 0))=wa at *
 generalize w.heap.size+1=r2 at *
 generalize w.heap.size=r1 at *;clear hmm;have HG:=Qq (S7 H2.out (by omega))
 clear H2;go_wp2_with fail;refine HG.out.mono ?_
 rintro r wb ⟨ga,gc,rfl,hg⟩;have H3:=Qq (hg.perm (List.Perm.swap _ _ _))
 clear hg HG;go_wp2_with fail;go_loopw [23] (fun iv wx=>∃j:Nat,j≤X.gl.length∧iv=.int .i64 j∧Hid (zG w0 wx b sp L X (xD r1 ([]++X.gl.take j)::zd 1 ga gc X.gl.length (zt X.gl)::xD r2 []::R))) (fun iv _=>X.gl.length-(intOf iv).toNat)
 case atStart=>exact⟨0,by omega,rfl,Qq (by rw[QV];exact H3.out)⟩
 case round =>
  obtain⟨j,hj,rfl,hr⟩:=hrel;clear H3;by_cases hjl:j<X.gl.length
  ·have hjl':(j:Int)<(X.gl.length:Int):=by omega
   obtain⟨b2,o2,rfl,c2⟩:=(hr.out.perm (List.Perm.swap _ _ _)).Kl.cells.int j hjl
   have hv:=HA.out.rg X.gl[j] (List.mem_append.2 (.inl (List.getElem_mem hjl)))
   obtain⟨hlk,w5,hup,hO5⟩:=hr.out.XD X.gl[j] hv (X0 (M:=[]) HA.out.nd j hjl) (by simp;omega)
   rw[Th] at hO5;have HO5:=Qq hO5;generalize X.gl[j]=v at *
   clear hO5 hr hv;go_wp2_with fail;exact⟨⟨j+1,by omega,by go_num,HO5⟩,by simp[intOf];omega⟩
  ·obtain rfl:j=X.gl.length:=by omega
   have hO:=hr.out;rw[List.take_length,List.nil_append] at hO;have hO2:=(hO.perm (List.Perm.swap _ _ _)).less
   have HP:=Qq (Ud hO2 (by omega))
   obtain⟨np,hnpe⟩:∃n,n=X.ps.length:=⟨_,rfl⟩
   rw[←hnpe] at HP;have HNP:=Qq hnpe;clear hr hO hO2 hnpe;go_upto_region 8 with fail
   go_wp2_with fail;refine HP.out.mono ?_
   rintro r wc ⟨pa,pc,rs,hrs,rfl,hp⟩;have H4:=Qq (hp.perm (List.perm_middle (a:=xD r1 X.gl) (l₁:=[_,_]) (l₂:=xD r2 []::R)))
   have HRS:=Qq hrs;clear hp hrs HP;go_wp2_with fail;go_loopw [35] (fun iv wx=>∃k:Nat,k≤np∧iv=.int .i64 k∧Hid (zG w0 wx b sp L X (xD r1 (X.gl++(X.ps.take k).flatMap Pm.c)::zd 4 pa pc np (R0 rs X.ps)::yD (OS rs X.ps)::xD r2 []::R))) (fun iv _=>np-(intOf iv).toNat)
   case atStart=>exact⟨0,by omega,rfl,Qq (by rw[QV,List.flatMap_nil,List.append_nil];exact H4.out)⟩
   case round =>
    obtain⟨k,hk,rfl,hr⟩:=hrel;clear H4;by_cases hkl:k<np
    ·have hkl':(k:Int)<(np:Int):=by omega
     have hk0:(0:Int)≤(k:Int):=by omega
     have hkX:k<X.ps.length:=by have:=HNP.out;omega
     obtain⟨rb,hrb⟩:∃r,rs[k]?=some r:=⟨_,List.getElem?_eq_getElem (by have:=HRS.out;have:=HNP.out;omega)⟩
     have hpk:X.ps[k]?=some (X.p k):=X.Zt hkX
     generalize X.p k=P at hpk;obtain⟨t1,t2⟩:=XT Pm.c X.ps k P hpk;obtain⟨M,hM⟩:∃M,M=X.gl++(X.ps.take k).flatMap Pm.c:=⟨_,rfl⟩
     obtain⟨Z,hZ⟩:∃Z,Z=(X.ps.drop (k+1)).flatMap Pm.c++X.ms.flatMap Mm.l:=⟨_,rfl⟩
     have eF:YZ X=M++(P.q.l++(P.q.nx.toList++Z)):=by unfold YZ;rw[t2,hM,hZ];simp[Pm.c]
     have eN:X.gl++(X.ps.take (k+1)).flatMap Pm.c=M++P.q.l++P.q.nx.toList:=by rw[t1,hM];simp[Pm.c]
     have hnd:=HA.out.nd;have hrg:=HA.out.rg;have hle:=HA.out.len;rw[eF] at hnd hrg hle;simp only[List.length_append] at hle;have hO:=hr.out;rw[←hM] at hO;have hc:=(hO.perm (List.Perm.swap _ _ _)).Kl.cells
     obtain⟨pb,off,rfl,c0⟩:=hc (k*4+0) (.int .i64 P.q.num) ((V2 hrb hpk 0 (by omega)).trans rfl)
     obtain⟨pb',off',e1,c1⟩:=hc (k*4+1) (.slice (some ⟨rb,0,none⟩) P.q.l.length P.q.l.length) ((V2 hrb hpk 1 (by omega)).trans rfl)
     cases e1
     obtain⟨pb',off',e1,c2⟩:=hc (k*4+2) (.int .i64 (P.tu:Int)) ((V2 hrb hpk 2 (by omega)).trans rfl)
     cases e1
     obtain⟨pb',off',e1,c3⟩:=hc (k*4+3) (.int .i64 P.by_) ((V2 hrb hpk 3 (by omega)).trans rfl)
     cases e1
     rw[Nat.add_zero,] at c0;rw[←Nat.add_assoc] at c1 c2 c3;have h5:=(hO.box [.int .i64 P.q.num,.slice (some ⟨rb,0,none⟩) P.q.l.length P.q.l.length,.int .i64 (P.tu:Int),.int .i64 P.by_] 102).perm (List.Perm.swap _ _ _)
     have HN1:=Qq hnd;have HR1:=Qq hrg;have HEN:=Qq eN;have HRB:=Qq (And.intro hrb hpk)
     have hMl:M.length+P.q.l.length+P.q.nx.toList.length≤1000:=by omega
     clear hr t1 t2 hnd hrg hle hM hZ eF eN hO hc hrb hpk;go_upto_region 11 with fail
     clear c0 c1 c2 c3;generalize wr.alloc (.cells [.int .i64 P.q.num,.slice (some ⟨rb,0,none⟩) P.q.l.length P.q.l.length,.int .i64 (P.tu:Int),.int .i64 P.by_].toArray 102)=wd at *
     generalize wr.heap.size=q at *;have H5:=Qq h5;obtain⟨z1,-⟩:=(h5.perm (List.Perm.swap _ _ _)).zi 1 _ rfl
     clear h5;go_wp2_with fail;go_loopw [42] (fun iv wy=>∃j:Nat,j≤P.q.l.length∧iv=.int .i64 j∧Hid (zG w0 wy b sp L X (xD r1 (M++P.q.l.take j)::ze q [.int .i64 P.q.num,.slice (some ⟨rb,0,none⟩) P.q.l.length P.q.l.length,.int .i64 (P.tu:Int),.int .i64 P.by_]::zd 4 (some ⟨pb,off,none⟩) pc np (R0 rs X.ps)::yD (OS rs X.ps)::xD r2 []::R))) (fun iv _=>P.q.l.length-(intOf iv).toNat)
     case atStart=>exact⟨0,by omega,rfl,Qq (by rw[QV,List.append_nil];exact H5.out)⟩
     case round =>
      obtain⟨j,hj,rfl,hr⟩:=hrel;clear z1 H5;by_cases hjl:j<P.q.l.length
      ·have hjl':(j:Int)<(P.q.l.length:Int):=by omega
       obtain⟨b2,o2,e2,c2⟩:=((hr.out.perm (List.perm_middle (l₁:=[_,_,_]))).GH HRB.out.1 HRB.out.2).ints j hjl
       have hv:=HR1.out P.q.l[j] (List.mem_append.2 (.inr (List.mem_append.2 (.inl (List.getElem_mem hjl)))))
       obtain⟨hlk,w5,hup,hO5⟩:=hr.out.XD P.q.l[j] hv (X0 HN1.out j hjl) (by simp;omega)
       rw[Th] at hO5;have HO6:=Qq hO5;generalize P.q.l[j]=v at *
       cases e2
       rw[Nat.zero_add] at c2;clear hr hv hO5;go_wp2_with fail;exact⟨⟨j+1,by omega,by go_num,HO6⟩,by simp[intOf];omega⟩
      ·obtain rfl:j=P.q.l.length:=by omega
       have hO:=hr.out;rw[List.take_length] at hO;obtain⟨y0,-⟩:=(hO.perm (List.Perm.swap _ _ _)).zi 0 _ rfl
       have H6:=Qq hO;clear hr;cases hq:P.q.nx with
       | none =>
        have hnum:P.q.num = -1:=by unfold LQ.num;rw[hq];rfl
        rw[hnum] at y0;have hen:=HEN.out;rw[hq,Option.toList_none,List.append_nil] at hen;have H7:=Qq ((hO.perm (List.Perm.swap _ _ _)).less)
        rw[←hen] at H7;clear hO hq hnum hen;go_wp2_with fail;exact⟨⟨k+1,by omega,by go_num,H7⟩,by simp[intOf];omega⟩
       | some v =>
        have hnum:P.q.num=v:=by unfold LQ.num;rw[hq];rfl
        rw[hnum] at y0;have hen:=HEN.out;rw[hq,Option.toList_some] at hen;have hnd:=HN1.out;rw[hq,Option.toList_some,←List.append_assoc] at hnd;have hv:=HR1.out v (List.mem_append.2 (.inr (List.mem_append.2 (.inr (List.mem_append.2 (.inl (by rw[hq];simp)))))))
        obtain⟨hlk,w7,hup,hO7⟩:=hO.XD v hv (by have:=X0 (l:=[v]) hnd 0 (by simp);simpa using this) (by simp;omega)
        rw[←hen] at hO7;have H7:=Qq ((hO7.perm (List.Perm.swap _ _ _)).less)
        have hne:(v == -1)=false:=by rw[beq_eq_false_iff_ne];omega
        clear hO hO7 hq hnd hen hnum hv;go_wp2_with fail;exact⟨⟨k+1,by omega,by go_num,H7⟩,by simp[intOf];omega⟩
    ·obtain rfl:k=np:=by omega
     have hO:=hr.out;rw[show X.ps.take k=X.ps by rw[HNP.out,List.take_length]] at hO
     obtain⟨M2,hM2⟩:∃M,M=X.gl++X.ps.flatMap Pm.c:=⟨_,rfl⟩
     rw[←hM2] at hO;have eF:YZ X=M2++X.ms.flatMap Mm.l:=by rw[hM2];unfold YZ;simp
     have HEF:=Qq eF;have hO2:=(((hO.perm (List.Perm.swap _ _ _)).less.perm (List.Perm.swap _ _ _)).less)
     have HM:=Qq (R6 hO2 (by omega))
     obtain⟨nm,hnme⟩:∃n,n=X.ms.length:=⟨_,rfl⟩
     rw[←hnme] at HM;have HNM:=Qq hnme;clear hr hO hO2 hnme hM2 eF;go_upto_region 19 with fail
     go_wp2_with fail;refine HM.out.mono ?_
     rintro r wm ⟨ma,mc,rfl,hm⟩;have H8:=Qq (hm.perm (List.perm_middle (a:=zd 3 ma mc nm (Ys X.ms)) (l₁:=[xD r1 M2,xD r2 []]) (l₂:=R)).symm)
     clear hm HM;go_wp2_with fail;go_loopw [63] (fun iv wx=>∃i:Nat,i≤nm∧iv=.int .i64 i∧Hid (zG w0 wx b sp L X (xD r1 (M2++(X.ms.take i).flatMap Mm.l)::xD r2 ((X.ms.take i).flatMap Mm.p)::zd 3 ma mc nm (Ys X.ms)::R))) (fun iv _=>nm-(intOf iv).toNat)
     case atStart=>exact⟨0,by omega,rfl,Qq (by rw[QV,List.flatMap_nil,List.flatMap_nil,List.append_nil];exact H8.out)⟩
     case round =>
      obtain⟨i,hi,rfl,hr⟩:=hrel;clear H8;by_cases hil:i<nm
      ·have hil':(i:Int)<(nm:Int):=by omega
       have hi0:(0:Int)≤(i:Int):=by omega
       have hiX:i<X.ms.length:=by have:=HNM.out;omega
       have hi64:i<64:=by omega
       have hmi:X.ms[i]?=some (X.m i):=X.SP hiX
       have hc:=(hr.out.perm (List.perm_middle (l₁:=[_,_]))).Kl.cells
       obtain⟨mb,mo,rfl,c0⟩:=hc (i*3+0) (.int .i64 (X.m i).P) ((TO hmi 0 (by omega)).trans rfl)
       obtain⟨mb',mo',e1,c1⟩:=hc (i*3+1) (.int .i64 (X.m i).G) ((TO hmi 1 (by omega)).trans rfl)
       cases e1
       obtain⟨mb',mo',e1,c2⟩:=hc (i*3+2) (.int .i64 (X.m i).L) ((TO hmi 2 (by omega)).trans rfl)
       cases e1
       rw[Nat.add_zero] at c0;rw[←Nat.add_assoc] at c1 c2;have h5:=(hr.out.box [.int .i64 (X.m i).P,.int .i64 (X.m i).G,.int .i64 (X.m i).L] 106).perm (List.perm_middle (a:=ze wr.heap.size _) (l₁:=[_,_])).symm
       have hwf:=WFH.out;have k0:=fun h=>(hwf.m0 i h)
       have kh:=fun h=>(hwf.held hiX h)
       have km:=fun h=>(hwf.at hiX h)
       obtain⟨s1,s2⟩:=XT Mm.l X.ms i _ hmi;obtain⟨s3,-⟩:=XT Mm.p X.ms i _ hmi;have hnd:=HA.out.nd;have hrg:=HA.out.rg;have hle:=HA.out.len;rw[HEF.out,s2] at hnd hrg hle;simp only[List.length_append] at hle;generalize X.m i=m at *;generalize hT1:(X.ms.take (i+1)).flatMap Mm.l=T1 at *
       generalize (X.ms.take i).flatMap Mm.l=T0 at *
       generalize hU1:(X.ms.take (i+1)).flatMap Mm.p=U1 at *
       generalize (X.ms.take i).flatMap Mm.p=U0 at *
       generalize (X.ms.drop (i+1)).flatMap Mm.l=T2 at *
       have HK:=Qq (And.intro k0 (And.intro kh (And.intro km (And.intro s1 (And.intro s3 (And.intro hnd (And.intro hrg hle)))))))
       have HTU:=Qq (And.intro hT1 hU1)
       clear hT1 hU1 hr hc hiX hmi hwf k0 kh km s1 s2 s3 hnd hrg hle;go_upto_if 70 with fail
       clear c0 c1 c2;generalize wr.alloc (.cells [.int .i64 m.P,.int .i64 m.G,.int .i64 m.L].toArray 106)=wd at *
       generalize wr.heap.size=q at *;have H5:=Qq h5;clear h5;go_cut [] (fun wx=>Hid (zG w0 wx b sp L X (xD r1 (M2++T1)::xD r2 U0::ze q [.int .i64 m.P,.int .i64 m.G,.int .i64 m.L]::zd 3 (some ⟨mb,mo,none⟩) mc nm (Ys X.ms)::R)))
       case first =>
        obtain⟨y1,-⟩:=(H5.out.perm (List.perm_middle (l₁:=[_,_]))).zi 1 _ rfl
        by_cases hG:m.G = -1
        ·have H6:=H5
         have e1:T1=T0:=by rw[HK.out.2.2.2.1];unfold Mm.l;rw[if_pos hG,List.append_nil]
         rw[←e1] at H6;have hne:(m.G == -1)=true:=by rw[beq_iff_eq];exact hG
         clear H5 e1 hG y1;go_wp2_with fail;go_meet;exact H6
        ·have e1:T1=T0++[m.G]:=by rw[HK.out.2.2.2.1];unfold Mm.l;rw[if_neg hG]
         have e2:Mm.l m=[m.G]:=by unfold Mm.l;rw[if_neg hG]
         obtain⟨-,-,-,-,-,hnd,hrg,hle⟩:=HK.out;rw[e2] at hnd hrg hle;have hv:=hrg m.G (by simp)
         obtain⟨hlk,w7,hup,hO7⟩:=H5.out.XD m.G hv (GB.next hnd (Z:=T2) (by simp)) (by simp;omega)
         rw[List.append_assoc,←e1] at hO7;have H6:=Qq hO7;have hne:(m.G == -1)=false:=by rw[beq_eq_false_iff_ne];exact hG
         clear H5 e1 e2 hG hnd hrg hle hO7;go_wp2_with fail;go_meet;exact H6
       case rest =>
        have hO:=hcut.out;clear H5;obtain⟨y0,-⟩:=(hO.perm (List.perm_middle (l₁:=[_,_]))).zi 0 _ rfl
        obtain⟨y1,-⟩:=(hO.perm (List.perm_middle (l₁:=[_,_]))).zi 1 _ rfl
        obtain⟨y2,-⟩:=(hO.perm (List.perm_middle (l₁:=[_,_]))).zi 2 _ rfl
        by_cases hP:m.P = -1
        ·obtain⟨hG,hL⟩:=HK.out.1 hP
         have e1:U1=U0:=by rw[HK.out.2.2.2.2.1];unfold Mm.p;rw[if_pos hP,List.append_nil]
         have H6:=Qq ((hO.perm (List.perm_middle (l₁:=[_,_]))).less)
         rw[←e1,←HTU.out.1,←HTU.out.2] at H6;rw[hP] at y0;rw[hG] at y1;rw[hL] at y2;clear e1 hP hG hL hO hcut;go_wp2_with fail;exact⟨⟨i+1,by omega,by go_num,H6⟩,by simp[intOf];omega⟩
        ·obtain⟨hn1,hn2,hn3⟩:=HK.out.2.1 hP
         obtain⟨p,hp1,hp2,hby⟩:=HK.out.2.2.1 hP;have e1:U1=U0++[m.P]:=by rw[HK.out.2.2.2.2.1];unfold Mm.p;rw[if_neg hP]
         obtain⟨hlk,w7,hup,hO7⟩:=(hO.perm (List.Perm.swap _ _ _)).XD m.P hn2 hn1 (by omega)
         rw[←e1] at hO7;have hU:m.P∈U1:=by rw[e1];simp
         have hUl:U1.length≤1000:=by rw[e1,List.length_append];simp;omega
         rw[hp1] at y0 hlk hup hU;have hne:((p:Int) == -1)=false:=by rw[beq_eq_false_iff_ne];omega
         have H7:=Qq hO7;clear hO hO7 hn1 hn2 hn3 e1 hcut;go_upto_region 28 with fail
         have HSB:Hid (∀(wx:World) (R':List zv),zG w0 wx b sp L X (xD r2 U1::ze q [.int .i64 m.P,.int .i64 m.G,.int .i64 m.L]::R')→(Instr.lookup 98 (.map (some r2)) (.int .i64 (p:Int)) false).run Tryz.prog wx=.ok (.int .i64 1) wx∧wx.cell? ⟨q,0,none⟩=some (.int .i64 (p:Int))) :=
          Qq (fun wx R' hx=>by
           have h1:=hx.TW (p:Int) (by omega) hUl
           rw[if_pos hU] at h1;have h2:=((hx.perm (List.Perm.swap _ _ _)).zi 0 _ rfl).1
           rw[hp1] at h2;exact⟨h1,h2⟩)
         have HPQ:=Qq (And.intro hp2 hby)
         have hppn:p<k:=by have:=HNP.out;omega
         have hpp0:(0:Int)≤(p:Int):=by omega
         have hpp1:(p:Int)<(k:Int):=by omega
         have o1:zG w0 w7.drew b sp L X (xD r2 U1::ze q [.int .i64 m.P,.int .i64 m.G,.int .i64 m.L]::xD r1 (M2++T1)::zd 3 (some ⟨mb,mo,none⟩) mc nm (Ys X.ms)::R):=(H7.out.step (zg w7)).perm (List.Perm.cons _ (List.Perm.swap _ _ _))
         clear hlk hup y0 y1 y2 H7 hU hUl hp2 hby hp1;refine zV (fun wx=>(Instr.lookup 98 (.map (some r2)) (.int .i64 (p:Int)) false).run Tryz.prog wx=.ok (.int .i64 1) wx∧wx.cell? ⟨q,0,none⟩=some (.int .i64 (p:Int))) 16 (Array.replicate 16 false) (by kernel_rfl) (by kernel_rfl) ?_
         generalize w7.drew=w8 at *;refine zm 0 7 _ (Qj 16 127) 9 (by kernel_rfl) za (HSB.out _ _ o1) (by kernel_rfl) ?_
         simp only[QX,QV,QJ];(repeat((first|refine Qx (h:=?_)|refine Qv (h:=?_));simp only[Act.put,QW,QY,QZ]));refine zb ?_;refine zm 8 2 _ (Qj 16 895) 7 (by kernel_rfl) za (HSB.out _ _ o1) (by kernel_rfl) ?_
         simp only[QX,QV,QQ,QJ];(repeat((first|refine Qx (h:=?_)|refine Qv (h:=?_));simp only[Act.put,QW,QY,QZ]));refine zb ?_;refine zm 13 1 _ (Qj 16 9087) 6 (by kernel_rfl) za (HSB.out _ _ o1) (by kernel_rfl) ?_
         simp only[QX,QV,QQ,QJ];(repeat((first|refine Qx (h:=?_)|refine Qv (h:=?_));simp only[Act.put,QW,QY,QZ]));refine zb ?_;refine zh 7 _ (Qj 16 9215) 5 (by kernel_rfl) (fun K hK=>?_)
         have HKK:=Qq hK;clear hK;simp only[QQ,QJ];refine zc (by rfl) ?_;go_simp;have hsp:=Ud o1 (by omega)
         rw[←HNP.out] at hsp;refine hsp.mono ?_
         rintro r w9 ⟨a9,c9,rs9,hrs9,rfl,h9⟩;have o2:=(h9.perm (List.perm_append_comm (l₁:=[_,_]) (l₂:=xD r2 U1::ze q [.int .i64 m.P,.int .i64 m.G,.int .i64 m.L]::_)))
         obtain⟨rb,hrb⟩:∃r,rs9[p]?=some r:=⟨_,List.getElem?_eq_getElem (by have:=HNP.out;omega)⟩
         obtain⟨pb,off,rfl,c0⟩:=h9.Kl.cells (p*4+3) (.int .i64 (X.p p).by_) ((V2 hrb (X.Zt HPQ.out.1) 3 (by omega)).trans rfl)
         rw[←Nat.add_assoc,HPQ.out.2] at c0;clear hsp hrs9 hrb;refine HKK.out _ _ (HSB.out _ _ o2) ?_
         clear HKK K;refine zm 10 2 _ (Qj 16 12287) 3 (by kernel_rfl) za (HSB.out _ _ o2) (by kernel_rfl) ?_
         simp only[QX,QV,QQ,QJ];(repeat((first|refine Qx (h:=?_)|refine Qv (h:=?_));simp only[Act.put,QW,QY,QZ]));refine zb ?_;refine zh 12 _ (Qj 16 16383) 2 (by kernel_rfl) (fun K hK=>?_)
         have HKK:=Qq hK;clear hK;simp only[QQ,QJ];refine zc (by rfl) ?_;go_simp;refine HKK.out _ _ (HSB.out _ _ o2) ?_
         clear HKK K;refine zm 14 2 _ (Qj 16 65535) 0 (by kernel_rfl) za (HSB.out _ _ o2) (by kernel_rfl) ?_
         simp only[QX,QV,QQ,QJ];(repeat((first|refine Qx (h:=?_)|refine Qv (h:=?_));simp only[Act.put,QW,QY,QZ]));refine zb ?_;refine wpAnyH_done (by kernel_rfl) (NoPanic.normal ?_) _
         have H9:Hid (zG w0 w9 b sp L X (xD r1 (M2++T1)::xD r2 U1::zd 3 (some ⟨mb,mo,none⟩) mc nm (Ys X.ms)::R)):=Qq (by
          have h1:=(h9.less.less.perm (List.Perm.swap _ _ _)).less
          exact h1.perm (List.Perm.swap _ _ _))
         rw[←HTU.out.1,←HTU.out.2] at H9;clear o1 o2 h9 c0 HSB;go_wp2_with fail;exact⟨⟨i+1,by omega,by go_num,H9⟩,by simp[intOf];omega⟩
      ·obtain rfl:i=nm:=by omega
       have hO:=hr.out;rw[show X.ms.take i=X.ms by rw[HNM.out,List.take_length],←HEF.out] at hO
       have hF:zG w0 wr b sp L X (xD r1 (YZ X)::R):=(((hO.perm (List.Perm.swap _ _ _)).less.perm (List.Perm.swap _ _ _)).less)
       have HW:=Qq (Pt hF)
       obtain⟨T,Q,hw1,hw2⟩:=hF.world;have HL:=Qq (Ej hw1)
       obtain⟨ng,hng⟩:∃n,n=X.W.gs.length:=⟨_,rfl⟩
       rw[←hng] at HL;have hg100:ng≤100:=by rw[hng];exact WFH.out.wf.g1.2
       have HNG:=Qq hng;have HF:=Qq hF;clear hr hO hF hw1 hw2 hng;go_upto_region 31 with fail
       go_wp2_with fail;refine HW.out.mono ?_
       rintro r w2 ⟨rfl,rfl⟩;clear HW;go_wp2_with fail;refine HL.out.mono ?_
       rintro r w3 ⟨rfl,rfl⟩;clear HL;go_wp2_with fail;go_loopw [113] (fun iv wx=>∃g:Nat,g≤ng∧iv=.int .i64 g∧Hid (zG w0 wx b sp L X (xD r1 (YZ X)::R))) (fun iv _=>ng-(intOf iv).toNat)
       case atStart=>exact⟨0,by omega,rfl,HF⟩
       case round =>
        obtain⟨g,hg,rfl,hr⟩:=hrel;clear HF;by_cases hgl:g<ng
        ·have hgl':(g:Int)<(ng:Int):=by omega
         have hg0:(0:Int)≤(g:Int):=by omega
         obtain⟨T,Q,hw1,hw2⟩:=hr.out.world;have HS:=Qq (Rp hw1 (g:Int))
         have HE:=Qq (Hm hw1)
         have est:xm X.W (g:Int)=(X.W.g g).st:=by
          unfold xm;rw[if_pos ⟨by omega,by rw[←HNG.out];omega⟩]
          rfl
         rw[est] at HS;have hmem:=HA.out.mem (g:Int)
         have HM:=Qq hmem;have HLK:Hid (∀wx:World,zG w0 wx b sp L X (xD r1 (YZ X)::R)→(Instr.lookup 98 (.map (some r1)) (.int .i64 (g:Int)) false).run Tryz.prog wx=.ok (.int .i64 (if(X.W.g g).st=1 then 1 else 0)) wx):=Qq (fun wx hx=>by
          have h1:=hx.TW (g:Int) (by omega) HA.out.len
          by_cases e:(X.W.g g).st=1
          ·rw[if_pos e]
           rw[if_pos ((HM.out).2 ⟨g,rfl,e⟩)] at h1
           exact h1
          ·rw[if_neg e]
           rw[if_neg (fun hc=>by
            obtain⟨k,hk,h2⟩:=(HM.out).1 hc
            obtain rfl:g=k:=by omega
            exact e h2)] at h1
           exact h1)
         clear hw1 hw2 est hmem;generalize (X.W.g g).st=st at *
         generalize X.W.en=en at *;generalize X.W.why=why at *;by_cases e1:st=1
         ·subst e1
          by_cases e2:en=0
          ·skip
           have HLK1:Hid (∀wx:World,zG w0 wx b sp L X (xD r1 (YZ X)::R)→(Instr.lookup 98 (.map (some r1)) (.int .i64 (g:Int)) false).run Tryz.prog wx=.ok (.int .i64 1) wx):=Qq (fun wx hx=>by
            have h1:=HLK.out wx hx;rw[if_pos rfl] at h1;exact h1)
           clear HLK HM;subst e2;go_wp2_with fail;refine HS.out.mono ?_
           rintro r w4 ⟨rfl,rfl⟩;go_wp2_with fail;refine HE.out.mono ?_
           rintro r w5 ⟨rfl,kd,rfl⟩;have hx2:=hr.out.step (below_drewN (Below.refl _ _) kd)
           have hlk:=HLK1.out _ hx2;have H2:=Qq hx2;clear hx2 hr HLK1 HS HE;go_wp2_with fail;exact⟨⟨g+1,by omega,by go_num,H2⟩,by simp[intOf];omega⟩
          ·skip
           have HLK1:Hid (∀wx:World,zG w0 wx b sp L X (xD r1 (YZ X)::R)→(Instr.lookup 98 (.map (some r1)) (.int .i64 (g:Int)) false).run Tryz.prog wx=.ok (.int .i64 1) wx):=Qq (fun wx hx=>by
            have h1:=HLK.out wx hx;rw[if_pos rfl] at h1;exact h1)
           clear HLK HM;have hs2:(en==0)=false:=by rw[beq_eq_false_iff_ne];exact e2
           go_wp2_with fail;refine HS.out.mono ?_
           rintro r w4 ⟨rfl,rfl⟩;go_wp2_with fail;refine HE.out.mono ?_
           rintro r w5 ⟨rfl,kd,rfl⟩;have hx2:=hr.out.step (below_drewN (Below.refl _ _) kd)
           have H2:=Qq hx2;clear hx2 hr HLK1 HS HE;go_wp2_with fail;exact⟨⟨g+1,by omega,by go_num,H2⟩,by simp[intOf];omega⟩
         ·by_cases e2:en=0
          ·skip
           have HLK1:Hid (∀wx:World,zG w0 wx b sp L X (xD r1 (YZ X)::R)→(Instr.lookup 98 (.map (some r1)) (.int .i64 (g:Int)) false).run Tryz.prog wx=.ok (.int .i64 0) wx):=Qq (fun wx hx=>by
            have h1:=HLK.out wx hx;rw[if_neg e1] at h1;exact h1)
           clear HLK HM;have hs1:(st==1)=false:=by rw[beq_eq_false_iff_ne];exact e1
           subst e2;go_wp2_with fail;refine HS.out.mono ?_
           rintro r w4 ⟨rfl,rfl⟩;go_wp2_with fail;refine HE.out.mono ?_
           rintro r w5 ⟨rfl,kd,rfl⟩;have hx2:=hr.out.step (below_drewN (Below.refl _ _) kd)
           have hlk:=HLK1.out _ hx2;have H2:=Qq hx2;clear hx2 hr HLK1 HS HE;go_wp2_with fail;exact⟨⟨g+1,by omega,by go_num,H2⟩,by simp[intOf];omega⟩
          ·skip
           have HLK1:Hid (∀wx:World,zG w0 wx b sp L X (xD r1 (YZ X)::R)→(Instr.lookup 98 (.map (some r1)) (.int .i64 (g:Int)) false).run Tryz.prog wx=.ok (.int .i64 0) wx):=Qq (fun wx hx=>by
            have h1:=HLK.out wx hx;rw[if_neg e1] at h1;exact h1)
           clear HLK HM;have hs1:(st==1)=false:=by rw[beq_eq_false_iff_ne];exact e1
           have hs2:(en==0)=false:=by rw[beq_eq_false_iff_ne];exact e2
           go_wp2_with fail;refine HS.out.mono ?_
           rintro r w4 ⟨rfl,rfl⟩;go_wp2_with fail;refine HE.out.mono ?_
           rintro r w5 ⟨rfl,kd,rfl⟩;have hx2:=hr.out.step (below_drewN (Below.refl _ _) kd)
           have H2:=Qq hx2;clear hx2 hr HLK1 HS HE;go_wp2_with fail;exact⟨⟨g+1,by omega,by go_num,H2⟩,by simp[intOf];omega⟩
        ·obtain rfl:g=ng:=by omega
         have HEND:=Qq hr.out.less;clear hr;go_wp2;go_ret;exact⟨rfl,HEND.out⟩
theorem RD {S:Src}(h:S.tape=[])(kind:Int)(n:Nat)(hn:1≤n):xO S S.taken.length kind (XD (n:Int))=some (S.nums.getD S.taken.length 0%n):=by
 have hc:XD (n:Int)=n:=by unfold XD;omega
 unfold xO;rw[h,hc];simp
theorem Ue.pick {w0:World}{b sp:Nat}{L:Sl}{S:Src}{X:Sd}{R:List zv}{j:Nat}{r:Ending}{w':World}(h:Ue w0 b sp L (XI sp 0) S X R j r w')(ht:S.tape=[])(hlt:S.taken.length<S.nums.length)(m:Nat)(hm:m=S.nums.getD S.taken.length 0%(X.ms.length+1))(ha:xy X m=none) :
  ∃ra rc,r=.returned (UK (xp X m 0).2 ra rc)∧zG w0 w' b sp L (xp X m 0).1 (zd 1 ra rc (xp X m 0).2.rd.length (zt (xp X m 0).2.rd)::x5 sp 0 (S.take 1 m) .nilFunc::R):=by
 have hmany:S.many=S.nums.length:=by unfold Src.many;rw[ht];simp
 have hd:=RD ht 1 (X.ms.length+1) (by omega)
 rw[←hm] at hd;have hd':xO S S.taken.length 1 (XD ((X.ms.length:Int)+1))=some m:=hd
 have hdv:∀(m':Nat) s1,(XI sp 0).Dv S 1 ((X.ms.length:Int)+1) (m':Int) s1→m'=m∧s1=S.take 1 m:=fun m' s1 hh=>by
  obtain⟨-,u,e1,e2,e3⟩:=hh;rw[hd'] at e2
  cases e2
  exact⟨by omega,e3⟩
 rcases h with⟨m',v,s1,s',ra,rc,h1,h2,h3,h4,h5,h6⟩|⟨ch,s',h1,h2,h3,h4⟩
 ·obtain⟨rfl,rfl⟩:=hdv _ _ h2
  rcases h3 with⟨-,rfl,rfl⟩|⟨k,n,e,-⟩
  ·exact⟨ra,rc,h5,h6⟩
  ·rw[ha] at e;cases e
 ·rcases h2 with h2|⟨m',s1,kd,n,-,k1,k2,-⟩
  ·obtain⟨-,h2⟩:=h2
   rcases h2 with⟨e,-⟩|⟨-,e,-⟩
   ·omega
   ·rw[hd'] at e;cases e
  ·obtain⟨rfl,-⟩:=hdv _ _ k1
   rw[ha] at k2;cases k2
def E5:Wd:=Za [[(20,0,0,0),(10,0,0,0)]] [] [] 0
def Vt:Sd:=Zy E5 1 1 2 9
def Yg (k:Nat):Src:=⟨[],[0,0,0,0],List.replicate k (1,0)⟩
def Vm:Sd:=(xp Vt 0 0).1
def Vw:Sd:=(xp Vm 0 0).1
def Xh:Sd:=(xp Vw 0 0).1
def Hv:Sd:=(xp Xh 0 0).1
theorem Fy:PW [[(20,0,0,0),(10,0,0,0)]] [] 0 0:=⟨by decide,by decide,by decide,by decide,fun k hk=>by simp at hk,by decide,by decide⟩
theorem Oi:yF 0 Vt:=Rh (rooms:=[]) Fy (by omega) (by omega) (by omega)
theorem FM:(xp Vt 0 0).2=⟨2,0,-1,[]⟩∧xy Vt 0=none∧xU Vt=0∧Vt.W.en=0∧Vt.ms.length=1:=⟨rfl,rfl,rfl,rfl,rfl⟩
theorem Eo:(xp Vm 0 0).2=⟨4,0,0,[]⟩∧xy Vm 0=none∧xU Vm=0∧Vm.W.en=0∧Vm.ms.length=1:=⟨rfl,rfl,rfl,rfl,rfl⟩
theorem Ef:(xp Vw 0 0).2=⟨7,0,0,[]⟩∧xy Vw 0=none∧xU Vw=0∧Vw.W.en=0∧Vw.ms.length=1:=⟨rfl,rfl,rfl,rfl,rfl⟩
theorem UG:(xp Xh 0 0).2=⟨7,0,0,[]⟩∧xy Xh 0=none∧xU Xh=0∧Xh.W.en=0∧Xh.ms.length=1∧xU Hv=1∧Hv.st=4:=⟨rfl,rfl,rfl,rfl,rfl,rfl,rfl⟩
theorem P4:yF 1 Vm:=Oi.step (by omega) (by decide) rfl (fun k n e=>by cases e)
theorem PQ:yF 2 Vw:=P4.step (by omega) (by decide) rfl (fun k n e=>by cases e)
theorem Js:yF 3 Xh:=PQ.step (by omega) (by decide) rfl (fun k n e=>by cases e)
theorem Gr (sp k j:Nat)(h:k≤4)(hj:j≤100):(XI sp 0).ok j (Yg k):=by
 refine⟨⟨fun r hr=>by simp[Yg] at hr,fun n hn=>by simp[Yg] at hn;omega⟩,(by first|exact⟨fun _=>rfl,(fun e=>by cases e),by omega⟩|exact⟨fun _=>rfl,fun e=>by cases e⟩),by simp[Yg,Src.many],by simp[Yg,Src.many];omega,by simp[Yg];omega⟩
theorem LI (k:Nat):(Yg k).take 1 0=Yg (k+1):=by unfold Yg Src.take;simp only;rw[←List.replicate_succ']
theorem Fe (k:Nat)(hk:k<4):(Yg k).taken.length<(Yg k).nums.length:=by simp[Yg];omega
theorem I0 (k n:Nat):0=(Yg k).nums.getD (Yg k).taken.length 0%(n+1):=by
 have e:∀i,([0,0,0,0]:List Nat).getD i 0=0:=fun i=>by rcases i with _|_|_|_|i<;>simp
 show 0=([0,0,0,0]:List Nat).getD _ 0%(n+1)
 rw[e];simp
theorem TV {w0 w:World}{b sp:Nat}{L:Sl}{X:Sd}{R:List zv}{k B:Nat}(h:zG w0 w b sp L X (x5 sp 0 (Yg k) .nilFunc::R))(hk:k<4)(wf:yF B X)(hB:B≤80000){e:Ev}(ha:(xp X 0 0).2=e∧xy X 0=none∧xU X=0∧X.W.en=0∧X.ms.length=1) :
  Calls Tryz.prog 27 #[.pointer (some ⟨b,0,none⟩)] w fun r w'=>∃ra rc,r=.returned (UK e ra rc)∧zG w0 w' b sp L (xp X 0 0).1 (x5 sp 0 (Yg (k+1)) .nilFunc::R):=by
 obtain⟨h1,h2,h3,h4,h5⟩:=ha;refine(SE (D:=XI sp 0) (s:=Yg k) (R:=R) (j:=0) h (Gr sp k 2 (by omega) (by omega)) wf hB h3 h4).mono (fun r w' hh=>?_)
 obtain⟨ra,rc,k1,k2⟩:=Ue.pick (S:=Yg k) hh rfl (Fe k hk) 0 (I0 k _) h2
 rw[LI] at k2;exact⟨ra,rc,by rw[k1,h1],k2.less⟩
theorem SL (w:World):Calls Tryz.prog 6 #[] w fun r w'=>r=.returned (.bool true)∧Below w.heap.size w w':=by
 go_enter Tryz.func6,Tryz.ntmps6
 go_upto_region 2 with fail
 have o0:Own w ((w.alloc (.cells #[.int .i64 20,.int .i64 0,.int .i64 0,.int .i64 0,.int .i64 10,.int .i64 0,.int .i64 0,.int .i64 0] 86)).alloc (.cells #[.slice (some ⟨w.heap.size,0,none⟩) 2 2] 87)) []:=Own.nil (zB (below_alloc1 _ _) (below_alloc1 _ _))
 have hp:Xe ((w.alloc (.cells #[.int .i64 20,.int .i64 0,.int .i64 0,.int .i64 0,.int .i64 10,.int .i64 0,.int .i64 0,.int .i64 0] 86)).alloc (.cells #[.slice (some ⟨w.heap.size,0,none⟩) 2 2] 87)) (some ⟨w.heap.size+1,0,none⟩) [(some ⟨w.heap.size,0,none⟩,2)] [[(20,0,0,0),(10,0,0,0)]] none [] none 0 []:=by
  refine⟨zr.new _ [.slice (some ⟨w.heap.size,0,none⟩) 2 2] _ (by simp),rfl,fun i r l hr hl=>?_,zr.nil _ _,zr.nil _ _,fun _=>rfl,by decide,by decide,by decide⟩
  cases i with
  | zero =>
   simp at hr hl
   subst hr hl;exact⟨(zr.new w [.int .i64 20,.int .i64 0,.int .i64 0,.int .i64 0,.int .i64 10,.int .i64 0,.int .i64 0,.int .i64 0] _ rfl).below (below_alloc1 _ _),(fun h=>by cases h),by decide⟩
  | succ i=>simp at hr
 have o1:=o0.alloc [.slice (some ⟨w.heap.size+1,0,none⟩) 1 1,.slice none 0 0,.int .i64 0,.slice none 0 0] 65 (b:=w.heap.size+1+1) (by simp)
 have hp1:=hp.below (below_alloc1 _ (.cells [.slice (some ⟨w.heap.size+1,0,none⟩) 1 1,.slice none 0 0,.int .i64 0,.slice none 0 0].toArray 65))
 clear hp o0;generalize ((w.alloc (.cells #[.int .i64 20,.int .i64 0,.int .i64 0,.int .i64 0,.int .i64 10,.int .i64 0,.int .i64 0,.int .i64 0] 86)).alloc (.cells #[.slice (some ⟨w.heap.size,0,none⟩) 2 2] 87)).alloc (.cells [.slice (some ⟨w.heap.size+1,0,none⟩) 1 1,.slice none 0 0,.int .i64 0,.slice none 0 0].toArray 65)=w1 at *
 generalize hq2:w.heap.size+1+1=q2 at *
 generalize hq1:w.heap.size+1=q1 at *
 generalize hq0:w.heap.size=q0 at *
 have HQ0:=Qq hq0;clear hq0 hq1 hq2;have h1:=o1.step (zg w1)
 have hp2:=hp1.below (zg w1)
 have HSB:Hid (∀(wx:World) (As:List zv),Own w wx (As++[ze q2 [.slice (some ⟨q1,0,none⟩) 1 1,.slice none 0 0,.int .i64 0,.slice none 0 0]])→wx.cell? ⟨q2,0,none⟩=some (.slice (some ⟨q1,0,none⟩) 1 1)∧wx.cell? ⟨q2,1,none⟩=some (.slice none 0 0)∧wx.cell? ⟨q2,2,none⟩=some (.int .i64 0)∧wx.cell? ⟨q2,3,none⟩=some (.slice none 0 0)):=Qq (fun wx As hx=>by
  have h:=Own.Zj hx;exact⟨(h.zi 0 rfl 0 _ rfl).1,(h.zi 0 rfl 1 _ rfl).1,(h.zi 0 rfl 2 _ rfl).1,(h.zi 0 rfl 3 _ rfl).1⟩)
 refine zV (fun wx=>wx.cell? ⟨q2,0,none⟩=some (.slice (some ⟨q1,0,none⟩) 1 1)∧wx.cell? ⟨q2,1,none⟩=some (.slice none 0 0)∧wx.cell? ⟨q2,2,none⟩=some (.int .i64 0)∧wx.cell? ⟨q2,3,none⟩=some (.slice none 0 0)) 6 (Array.replicate 6 false) (by kernel_rfl) (by kernel_rfl) ?_
 generalize w1.drew=w2 at *;refine zm 0 2 _ (Qj 6 3) 4 (by kernel_rfl) za (HSB.out _ [] h1) (by kernel_rfl) ?_
 simp only[QX,QV,QJ];(repeat((first|refine Qx (h:=?_)|refine Qv (h:=?_));simp only[Act.put,QW,QY,QZ]));refine zb ?_;have hba:=below_alloc1 w2 (.cells #[.int .u64 0,.int .u64 0,.int .u64 0,.int .u64 0] 33)
 have o2:=h1.step hba;have hp3:=hp2.below hba;refine zh 2 _ (Qj 6 7) 3 (by kernel_rfl) (fun K hK=>?_)
 have HKK:=Qq hK;clear hK;simp only[QQ,QJ];refine zc (by rfl) ?_;go_simp;refine HKK.out _ _ (HSB.out _ [] o2) ?_
 clear HKK K;refine zh 3 _ (Qj 6 15) 2 (by kernel_rfl) (fun K hK=>?_)
 have HKK:=Qq hK;clear hK;simp only[QQ,QJ];refine zc (by rfl) ?_;go_simp;refine(S9 o2 (some ⟨w2.heap.size,0,none⟩) 4 [0,0,0,0] (zr.new w2 (Zl [0,0,0,0]) _ rfl) (fun e=>by cases e) (by decide)).mono ?_
 rintro r w3 ⟨sp,rfl,o3,hb3⟩;have hp4:=hp3.below hb3;refine HKK.out _ _ (HSB.out _ [_] o3) ?_
 clear HKK K;refine zh 4 _ (Qj 6 31) 1 (by kernel_rfl) (fun K hK=>?_)
 have HKK:=Qq hK;clear hK;simp only[QQ,QJ];refine zc (by rfl) ?_;go_simp;refine(Ra o3 (some ⟨q1,0,none⟩) 1 [(some ⟨q0,0,none⟩,2)] [[(20,0,0,0),(10,0,0,0)]] none 0 [] 0 none 0 [] hp4 (by decide) 1 1 2 9 (by omega) (by omega) sp).mono ?_
 rintro r w4 ⟨b,rfl,o4⟩;refine HKK.out _ _ (HSB.out _ [_,_] o4) ?_
 clear HKK K;refine zm 5 1 _ (Qj 6 63) 0 (by kernel_rfl) za (HSB.out _ [_,_] o4) (by kernel_rfl) ?_
 simp only[QX,QV,QQ,QJ];(repeat((first|refine Qx (h:=?_)|refine Qv (h:=?_));simp only[Act.put,QW,QY,QZ]));refine zb ?_;refine wpAnyH_done (by kernel_rfl) (NoPanic.normal ?_) _
 obtain⟨L,h4⟩:=o4.sat;have H4:Hid (zG w w4 b sp L Vt (x5 sp 0 (Yg 0) .nilFunc::[ze q2 [.slice (some ⟨q1,0,none⟩) 1 1,.slice none 0 0,.int .i64 0,.slice none 0 0]])):=Qq h4
 clear h1 o1 o2 o3 o4 h4 hp1 hp2 hp3 hp4 hba hb3 HSB;have heq:∀w,(binOp .eql 31 (.pointer (some ⟨b,0,none⟩)) (.pointer none)).run Tryz.prog w=.ok (.bool false) w:=fun _=>rfl
 have HA:=Qq (TV H4.out (by omega) Oi (by omega) FM)
 go_wp2_with fail;refine HA.out.mono ?_
 rintro r w5 ⟨ra1,rc1,rfl,h5⟩;have HA2:=Qq (TV (X:=Vm) h5 (by omega) P4 (by omega) Eo)
 clear h5 HA H4;unfold UK;go_wp2_with fail;refine HA2.out.mono ?_
 rintro r w6 ⟨ra2,rc2,rfl,h6⟩;have HA3:=Qq (TV (X:=Vw) h6 (by omega) PQ (by omega) Ef)
 clear h6 HA2;unfold UK;go_wp2_with fail;refine HA3.out.mono ?_
 rintro r w7 ⟨ra3,rc3,rfl,h7⟩;have HX7:Hid (zG w w7 b sp L Xh (x5 sp 0 (Yg 3) .nilFunc::[ze q2 [.slice (some ⟨q1,0,none⟩) 1 1,.slice none 0 0,.int .i64 0,.slice none 0 0]])):=Qq h7
 clear h7 HA3;unfold UK;simp only[List.length_nil];go_upto_region 6 with fail
 have h8:=((HX7.out.box [.int .i64 2,.int .i64 0,.int .i64 (-1),.slice ra1 0 rc1] 54).box [.int .i64 4,.int .i64 0,.int .i64 0,.slice ra2 0 rc2] 54).box [.int .i64 7,.int .i64 0,.int .i64 0,.slice ra3 0 rc3] 54
 simp only[World.size_alloc] at h8;generalize (((w7.alloc (.cells [.int .i64 2,.int .i64 0,.int .i64 (-1),.slice ra1 0 rc1].toArray 54)).alloc (.cells [.int .i64 4,.int .i64 0,.int .i64 0,.slice ra2 0 rc2].toArray 54)).alloc (.cells [.int .i64 7,.int .i64 0,.int .i64 0,.slice ra3 0 rc3].toArray 54))=w8 at *
 generalize w7.heap.size=p0 at *;have h9:=h8.perm (List.perm_middle (a:=x5 sp 0 (Yg 3) .nilFunc) (l₁:=[ze (p0+1+1) _,ze (p0+1) _,ze p0 _]))
 have HA4:=Qq (TV (X:=Xh) h9 (by omega) Js (by omega) ⟨UG.1,UG.2.1,UG.2.2.1,UG.2.2.2.1,UG.2.2.2.2.1⟩)
 clear h8 h9 HX7;go_wp2_with fail;refine HA4.out.mono ?_
 rintro r w9 ⟨ra4,rc4,rfl,ha⟩;have hb:=ha.perm (List.perm_middle (a:=x5 sp 0 (Yg 4) .nilFunc) (l₁:=[ze (p0+1+1) _,ze (p0+1) _,ze p0 _])).symm
 have y1:=(hb.less.less.zi 0 _ rfl).1
 have y2:=(hb.less.zi 0 _ rfl).1
 have y3:=(hb.less.zi 2 _ rfl).1
 have y4:=(hb.zi 0 _ rfl).1
 have HS1:=Qq (Wy hb (by decide))
 have HS2:=Qq (fun(wx:World) (hx:Below w9.heap.size w9 wx)=>QF (hb.step hx))
 have HBL:=Qq hb.bel;rw[show xU (xp Xh 0 0).1=1 from UG.2.2.2.2.2.1] at HS1
 rw[show(xp Xh 0 0).1.st=4 from UG.2.2.2.2.2.2] at HS2
 clear ha hb HA4;go_wp2_with fail;refine HS1.out.mono ?_
 rintro r wa ⟨rfl,hba⟩;have HS3:=Qq (HS2.out _ hba)
 have HBB:=Qq (zB HBL.out hba)
 clear hba HS1 HS2;go_wp2_with fail;refine HS3.out.mono ?_
 rintro r wb ⟨rfl,rfl⟩;go_wp2;go_ret;exact⟨rfl,HBB.out⟩
theorem OK (w:World)(x:Int)(m n:Nat)(hm:0<m)(hm2:m≤1000)(hn:(bits BinOp.and IntKind.i64 x 255).tmod (m:Int)=(n:Int))(hn2:n≤255) :
  Calls Tryz.prog 29 #[.int .i64 x,.int .i64 (m:Int)] w fun r w'=>r=.returned (.int .i64 (n:Int))∧w'=w:=by
 have hz:(m:Int)≠0:=by omega
 have hw:IntKind.i64.wrap (n:Int)=n:=by rw[IntKind.wrap_i64];omega
 go_enter Tryz.func29,Tryz.ntmps29
 go_wp2;go_ret;exact⟨rfl,rfl⟩
def FJ (x:Int)(m n:Nat):Prop:=0<m∧m≤1000∧(bits BinOp.and IntKind.i64 x 255).tmod (m:Int)=(n:Int)∧n<m∧n≤255
theorem VH {x:Int}{m n:Nat}(h:FJ x m n)(w:World):Calls Tryz.prog 29 #[.int .i64 x,.int .i64 (m:Int)] w fun r w'=>r=.returned (.int .i64 (n:Int))∧w'=w :=
 OK w x m n h.1 h.2.1 h.2.2.1 h.2.2.2.2
theorem Sr (x:Int)(m:Nat)(hm:0<m)(hm2:m≤1000):∃n,FJ x m n:=by
 obtain⟨n,h1,h2,h3⟩:=MR x m hm;exact⟨n,hm,hm2,h1,h2,h3⟩
theorem Ib {w:World}{q:Nat}{a b c d:Int}(e0:w.cell? ⟨q,0,none⟩=some (.int .i64 a))(e1:w.cell? ⟨q,1,none⟩=some (.int .i64 b))(e2:w.cell? ⟨q,2,none⟩=some (.int .i64 c))(e3:w.cell? ⟨q,3,none⟩=some (.int .i64 d)) :
  (loadVar 28 ⟨q,0,none⟩).run Tryz.prog w=.ok (.agg #[.int .i64 a,.int .i64 b,.int .i64 c,.int .i64 d]) w:=by
 simp[go_sem,e0,e1,e2,e3]
theorem Q0 (w:World)(p m r s:Int)(a b c d:Nat)(ha:FJ p 5 a)(hb:FJ m 5 b)(hc:FJ r 5 c)(hd:FJ s 12 d) :
  Calls Tryz.prog 8 #[.agg #[.int .i64 p,.int .i64 m,.int .i64 r,.int .i64 s]] w fun e w' =>
   e=.returned (.agg #[.int .i64 (1+(a:Int)),.int .i64 (1+(b:Int)),.int .i64 (2+(c:Int)),.int .i64 (1+(d:Int))])∧Below w.heap.size w w':=by
 have a5:=ha.2.2.2.1;have b5:=hb.2.2.2.1;have c5:=hc.2.2.2.1;have d5:=hd.2.2.2.1;have ka:=Qq (VH ha)
 have kb:=Qq (VH hb)
 have kc:=Qq (VH hc)
 have kd:=Qq (VH hd)
 clear ha hb hc hd;go_enter Tryz.func8,Tryz.ntmps8
 go_upto_region 2 with fail
 have o0:Own w ((w.alloc (.cells #[.int .i64 p,.int .i64 m,.int .i64 r,.int .i64 s] 28)).alloc (.cells #[.int .i64 0,.int .i64 0,.int .i64 0,.int .i64 0] 28))
   [ze (w.heap.size+1) [.int .i64 0,.int .i64 0,.int .i64 0,.int .i64 0],ze w.heap.size [.int .i64 p,.int .i64 m,.int .i64 r,.int .i64 s]]:=by
  have h:=((Own.nil (Below.refl _ w)).alloc [.int .i64 p,.int .i64 m,.int .i64 r,.int .i64 s] 28 (b:=w.heap.size) rfl).alloc [.int .i64 0,.int .i64 0,.int .i64 0,.int .i64 0] 28 (b:=w.heap.size+1) (by simp)
  exact h
 generalize ((w.alloc (.cells #[.int .i64 p,.int .i64 m,.int .i64 r,.int .i64 s] 28)).alloc (.cells #[.int .i64 0,.int .i64 0,.int .i64 0,.int .i64 0] 28))=w1 at *
 generalize w.heap.size+1=q1 at *
 generalize hq:w.heap.size=q at *
 have HQ:=Qq hq;clear hq;have o1:=o0.step (zg w1)
 clear o0;have SB:Hid (∀wx:World,Own w wx [ze q1 [.int .i64 0,.int .i64 0,.int .i64 0,.int .i64 0],ze q [.int .i64 p,.int .i64 m,.int .i64 r,.int .i64 s]]→wx.cell? ⟨q,0,none⟩=some (.int .i64 p)∧wx.cell? ⟨q,1,none⟩=some (.int .i64 m)∧wx.cell? ⟨q,2,none⟩=some (.int .i64 r)∧wx.cell? ⟨q,3,none⟩=some (.int .i64 s)) :=
  Qq (fun wx h=>⟨(h.zi 1 rfl 0 _ rfl).1,(h.zi 1 rfl 1 _ rfl).1,(h.zi 1 rfl 2 _ rfl).1,(h.zi 1 rfl 3 _ rfl).1⟩)
 refine xh (fun wx=>wx.cell? ⟨q,0,none⟩=some (.int .i64 p)∧wx.cell? ⟨q,1,none⟩=some (.int .i64 m)∧wx.cell? ⟨q,2,none⟩=some (.int .i64 r)∧wx.cell? ⟨q,3,none⟩=some (.int .i64 s)) 22 (Array.replicate 22 false) (by kernel_rfl) (by kernel_rfl) ?_
 generalize w1.drew=w2 at *;refine zF 0 3 _ (Qj 22 7) 19 (by kernel_rfl) za (SB.out _ o1) (by kernel_rfl) ?_
 simp only[QX,QV,QJ];(repeat((first|refine Qx (h:=?_)|refine Qv (h:=?_));simp only[Act.put,QW,QY,QZ]));refine zb ?_;refine zF 5 3 _ (Qj 22 231) 16 (by kernel_rfl) za (SB.out _ o1) (by kernel_rfl) ?_
 simp only[QX,QV,QQ,QJ];(repeat((first|refine Qx (h:=?_)|refine Qv (h:=?_));simp only[Act.put,QW,QY,QZ]));refine zb ?_;refine zF 10 3 _ (Qj 22 7399) 13 (by kernel_rfl) za (SB.out _ o1) (by kernel_rfl) ?_
 simp only[QX,QV,QQ,QJ];(repeat((first|refine Qx (h:=?_)|refine Qv (h:=?_));simp only[Act.put,QW,QY,QZ]));refine zb ?_;refine zF 15 3 _ (Qj 22 236775) 10 (by kernel_rfl) za (SB.out _ o1) (by kernel_rfl) ?_
 simp only[QX,QV,QQ,QJ];(repeat((first|refine Qx (h:=?_)|refine Qv (h:=?_));simp only[Act.put,QW,QY,QZ]));refine zb ?_;refine zM 3 _ (Qj 22 236783) 9 (by kernel_rfl) (fun K hK=>?_)
 have HKK:=Qq hK;clear hK;simp only[QQ,QJ];refine zc (by rfl) ?_;go_simp;refine(ka.out _).mono ?_
 rintro e w3 ⟨rfl,rfl⟩;refine HKK.out _ _ (SB.out _ o1) ?_
 clear HKK K;refine zF 4 1 _ (Qj 22 236799) 8 (by kernel_rfl) za (SB.out _ o1) (by kernel_rfl) ?_
 simp only[QX,QV,QQ,QJ];(repeat((first|refine Qx (h:=?_)|refine Qv (h:=?_));simp only[Act.put,QW,QY,QZ]));refine zb ?_;refine zM 8 _ (Qj 22 237055) 7 (by kernel_rfl) (fun K hK=>?_)
 have HKK:=Qq hK;clear hK;simp only[QQ,QJ];refine zc (by rfl) ?_;go_simp;refine(kb.out _).mono ?_
 rintro e w3 ⟨rfl,rfl⟩;refine HKK.out _ _ (SB.out _ o1) ?_
 clear HKK K;refine zF 9 1 _ (Qj 22 237567) 6 (by kernel_rfl) za (SB.out _ o1) (by kernel_rfl) ?_
 simp only[QX,QV,QQ,QJ];(repeat((first|refine Qx (h:=?_)|refine Qv (h:=?_));simp only[Act.put,QW,QY,QZ]));refine zb ?_;refine zM 13 _ (Qj 22 245759) 5 (by kernel_rfl) (fun K hK=>?_)
 have HKK:=Qq hK;clear hK;simp only[QQ,QJ];refine zc (by rfl) ?_;go_simp;refine(kc.out _).mono ?_
 rintro e w3 ⟨rfl,rfl⟩;refine HKK.out _ _ (SB.out _ o1) ?_
 clear HKK K;refine zF 14 1 _ (Qj 22 262143) 4 (by kernel_rfl) za (SB.out _ o1) (by kernel_rfl) ?_
 simp only[QX,QV,QQ,QJ];(repeat((first|refine Qx (h:=?_)|refine Qv (h:=?_));simp only[Act.put,QW,QY,QZ]));refine zb ?_;refine zM 18 _ (Qj 22 524287) 3 (by kernel_rfl) (fun K hK=>?_)
 have HKK:=Qq hK;clear hK;simp only[QQ,QJ];refine zc (by rfl) ?_;go_simp;refine(kd.out _).mono ?_
 rintro e w3 ⟨rfl,rfl⟩;refine HKK.out _ _ (SB.out _ o1) ?_
 clear HKK K;refine zF 19 2 _ (Qj 22 2097151) 1 (by kernel_rfl) za (SB.out _ o1) (by kernel_rfl) ?_
 simp only[QX,QV,QQ,QJ];(repeat((first|refine Qx (h:=?_)|refine Qv (h:=?_));simp only[Act.put,QW,QY,QZ]));refine zb ?_;obtain⟨x0,y0⟩:=o1.zi 0 rfl 0 _ rfl;obtain⟨x1,y1⟩:=o1.zi 0 rfl 1 _ rfl;obtain⟨x2,y2⟩:=o1.zi 0 rfl 2 _ rfl;obtain⟨x3,y3⟩:=o1.zi 0 rfl 3 _ rfl;have o2:=(((o1.set 0 (.int .i64 (1+(a:Int)))).set 1 (.int .i64 (1+(b:Int)))).set 2 (.int .i64 (2+(c:Int)))).set 3 (.int .i64 (1+(d:Int)))
 have z0:=(o2.zi 0 rfl 0 _ rfl).1
 have z1:=(o2.zi 0 rfl 1 _ rfl).1
 have z2:=(o2.zi 0 rfl 2 _ rfl).1
 have z3:=(o2.zi 0 rfl 3 _ rfl).1
 have O2:=Qq o2.bel;clear o1 o2 SB ka kb kc kd;refine yG 21 _ (Qj 22 4194303) (by kernel_rfl) (fun K hK=>?_)
 have HKK:=Qq hK;clear hK;simp only[QQ,QJ];refine zc (by rfl) ?_;go_simp;refine HKK.out _ _ (NoPanic.normal ?_)
 clear HKK K;have EG:=Ib z0 z1 z2 z3;clear z0 z1 z2 z3;have E1:Hid (∀k:Nat,k<12→IntKind.i64.wrap (1+(k:Int))=1+k):=Qq (fun k hk=>by rw[IntKind.wrap_i64];omega)
 have E2:Hid (∀k:Nat,k<12→IntKind.i64.wrap (2+(k:Int))=2+k):=Qq (fun k hk=>by rw[IntKind.wrap_i64];omega)
 go_wp2;rw[E1.out a (by omega),E1.out b (by omega),E1.out d (by omega),E2.out c (by omega)]
 exact bodyPost_ret (zu Tryz.results8 _ ⟨q1,0,none⟩ rfl EG) rfl ⟨rfl,by rw[←HQ.out] at *;exact O2.out⟩
def pv (fa:Option Addr)(nf fc:Nat)(ca:Option Addr)(nc cc:Nat)(lk:Int)(ka:Option Addr)(nk kc:Nat):Value:=.agg #[.slice fa nf fc,.slice ca nc cc,.int .i64 lk,.slice ka nk kc]
end Go.Proofs.YtlkjheheofgdgaaGreat

open Go Go.RowKit
namespace Go.Proofs.YtlkjheheofgdgaaGreat
def xB (w:World)(a:Option Addr)(l:List yq):Prop:=∀i (h:i<l.length),∃b off,a=some ⟨b,off,none⟩∧w.cell? ⟨b,off+i*4,none⟩=some (.int .i64 l[i].1)∧w.cell? ⟨b,off+i*4+1,none⟩=some (.int .i64 l[i].2.1)∧w.cell? ⟨b,off+i*4+2,none⟩=some (.int .i64 l[i].2.2.1)∧w.cell? ⟨b,off+i*4+3,none⟩=some (.int .i64 l[i].2.2.2)
theorem xB.below {w w':World}{a:Option Addr}{l:List yq}(h:xB w a l)(hb:Below w.heap.size w w'):xB w' a l:=fun i hi=>by
 obtain⟨b,off,h1,h2,h3,h4,h5⟩:=h i hi;exact⟨b,off,h1,zq h2 hb,zq h3 hb,zq h4 hb,zq h5 hb⟩
def Yc (w:World)(a:Option Addr)(l:List T6):Prop:=∀i (h:i<l.length),∃b off,a=some ⟨b,off,none⟩∧w.cell? ⟨b,off+i*3,none⟩=some (.int .i64 l[i].1)∧w.cell? ⟨b,off+i*3+1,none⟩=some (.int .i64 l[i].2.1)∧w.cell? ⟨b,off+i*3+2,none⟩=some (.int .i64 l[i].2.2)
theorem Yc.below {w w':World}{a:Option Addr}{l:List T6}(h:Yc w a l)(hb:Below w.heap.size w w'):Yc w' a l:=fun i hi=>by
 obtain⟨b,off,h1,h2,h3,h4⟩:=h i hi;exact⟨b,off,h1,zq h2 hb,zq h3 hb,zq h4 hb⟩
def Ow (w:World)(a:Option Addr)(l:List (List yq)):Prop:=∀i (h:i<l.length),∃b off a' c',a=some ⟨b,off,none⟩∧w.cell? ⟨b,off+i,none⟩=some (.slice a' l[i].length c')∧xB w a' l[i]
end Go.Proofs.YtlkjheheofgdgaaGreat

open Go Go.RowKit
namespace Go.Proofs.YtlkjheheofgdgaaGreat
def JZ (w:World)(fa ca ka:Option Addr)(d:PD):Prop:=Ow w fa d.fs∧yT w ca d.cs∧Yc w ka d.ks
end Go.Proofs.YtlkjheheofgdgaaGreat





open Go Go.RowKit
namespace Go.Proofs.YtlkjheheofgdgaaGreat
def Fits (d:PD):Prop:=∀f∈d.fs,∀x∈f,yh x.2.2.1
def WH (e:TypeId)(size:Nat)(v:Value)(n:Nat)(xs:List Value):zv where
 at_ w F:=F=v.ownBlock.toList∧w.ownsRow 0 e size v n xs
 lt:=by rintro w F ⟨rfl,h⟩ x hx;exact VF h x (by simpa using hx)
 yE:=by rintro w w' F G ⟨rfl,h⟩ c hd;exact⟨rfl,UD h c (fun g hg=>hd g (by rw[hg];simp))⟩
theorem Own.La {w0 w:World}{As:List zv}(h:Own w0 w As)(t:TypeId)(size:Nat){b:Nat}(hb:b=w.heap.size):Own w0 (w.alloc (.cells #[] t)) (WH t size (.slice (some ⟨b,0,none⟩) 0 0) 0 []::As):=by
 subst hb;exact h.add (below_alloc1 _ _) (F:=[w.heap.size]) ⟨rfl,World.ownsRow_made w #[] 0 (Nat.zero_le _) (by simp) (by simp)⟩ (fun x hx=>by simp at hx;omega)
theorem Own.Vc {w0 w:World}{As:List zv}(h:Own w0 w As)(t:TypeId)(size:Nat):Own w0 w (WH t size (.slice none 0 0) 0 []::As) :=
 h.add (Below.refl _ _) (F:=[]) ⟨rfl,World.ownsRow_nil _ _ _ _⟩ (fun x hx=>by simp at hx)
theorem Own.owned {w0 w:World}{As:List zv}(h:Own w0 w As)(i:Nat){t:TypeId}{size:Nat}{v:Value}{n:Nat}{xs:List Value}(hi:As[i]?=some (WH t size v n xs)):w.ownsRow 0 t size v n xs:=by
 obtain⟨F,⟨_,h1⟩,_⟩:=h.fact i hi;exact h1
theorem Own.more {w0 w w2:World}{R:List zv}{t:TypeId}{size:Nat}{a:Option Addr}{n c g cap:Nat}{xs ys:List Value}{o:Obj}(h:Own w0 w (WH t size (.slice a n c) n xs::R))
  (hown:w2.ownsRow 0 t size (.slice (some ⟨g,0,none⟩) (n+1) cap) (n+1) (xs++ys)) (hgr:(w.alloc o).grownBy w2 (Value.slice a n c).ownBlock)
  (hlies:(Value.slice a n c).ownBlock=some g∨g=w.heap.size+1):Own w0 w2 (WH t size (.slice (some ⟨g,0,none⟩) (n+1) cap) (n+1) (xs++ys)::R):=by
 refine Own.SY (As:=[WH t size (.slice a n c) n xs]) (As':=[WH t size (.slice (some ⟨g,0,none⟩) (n+1) cap) (n+1) (xs++ys)]) (R:=R) h (fun F hF=>?_)
 obtain⟨rfl,h1⟩:=xe.1 hF;refine⟨[g],xe.2 ⟨rfl,hown⟩,(zK.zO (below_alloc1 _ _)).trans (yy hgr) (fun x hx=>.inl hx),fun y hy=>?_⟩
 simp at hy
 subst hy;rcases hlies with h|h
 ·left;rw[h];simp
 ·right;omega
def inc (l:List yq):List Value:=l.flatMap fun x=>[.int .i64 x.1,.int .i64 x.2.1,.int .i64 x.2.2.1,.int .i64 x.2.2.2]
def ZW (l:List T6):List Value:=l.flatMap fun x=>[.int .i64 x.1,.int .i64 x.2.1,.int .i64 x.2.2]
theorem OA (l m:List yq):inc (l++m)=inc l++inc m:=by unfold inc;rw[List.flatMap_append]
theorem Ok (l m:List T6):ZW (l++m)=ZW l++ZW m:=by unfold ZW;rw[List.flatMap_append]
theorem MG:∀(l:List yq) (i:Nat) (h:i<l.length),(inc l)[i*4]?=some (.int .i64 l[i].1)∧(inc l)[i*4+1]?=some (.int .i64 l[i].2.1)∧(inc l)[i*4+2]?=some (.int .i64 l[i].2.2.1)∧(inc l)[i*4+3]?=some (.int .i64 l[i].2.2.2)
 | [],i,h=>by simp at h
 | x::l,0,h=>⟨rfl,rfl,rfl,rfl⟩
 | x::l,i+1,h=>by
  have ih:=MG l i (by simpa using h)
  have e:inc (x::l)=[.int .i64 x.1,.int .i64 x.2.1,.int .i64 x.2.2.1,.int .i64 x.2.2.2]++inc l:=rfl
  rw[e];simp only[List.getElem_cons_succ];refine⟨?_,?_,?_,?_⟩<;>(rw[List.getElem?_append_right (by simp;omega)])
  ·rw[show(i+1)*4-List.length [Value.int .i64 x.1,.int .i64 x.2.1,.int .i64 x.2.2.1,.int .i64 x.2.2.2]=i*4 by simp;omega];exact ih.1
  ·rw[show(i+1)*4+1-List.length [Value.int .i64 x.1,.int .i64 x.2.1,.int .i64 x.2.2.1,.int .i64 x.2.2.2]=i*4+1 by simp;omega];exact ih.2.1
  ·rw[show(i+1)*4+2-List.length [Value.int .i64 x.1,.int .i64 x.2.1,.int .i64 x.2.2.1,.int .i64 x.2.2.2]=i*4+2 by simp;omega];exact ih.2.2.1
  ·rw[show(i+1)*4+3-List.length [Value.int .i64 x.1,.int .i64 x.2.1,.int .i64 x.2.2.1,.int .i64 x.2.2.2]=i*4+3 by simp;omega];exact ih.2.2.2
theorem Kk:∀(l:List T6) (i:Nat) (h:i<l.length),(ZW l)[i*3]?=some (.int .i64 l[i].1)∧(ZW l)[i*3+1]?=some (.int .i64 l[i].2.1)∧(ZW l)[i*3+2]?=some (.int .i64 l[i].2.2)
 | [],i,h=>by simp at h
 | x::l,0,h=>⟨rfl,rfl,rfl⟩
 | x::l,i+1,h=>by
  have ih:=Kk l i (by simpa using h)
  have e:ZW (x::l)=[.int .i64 x.1,.int .i64 x.2.1,.int .i64 x.2.2]++ZW l:=rfl
  rw[e];simp only[List.getElem_cons_succ];refine⟨?_,?_,?_⟩<;>(rw[List.getElem?_append_right (by simp;omega)])
  ·rw[show(i+1)*3-List.length [Value.int .i64 x.1,.int .i64 x.2.1,.int .i64 x.2.2]=i*3 by simp;omega];exact ih.1
  ·rw[show(i+1)*3+1-List.length [Value.int .i64 x.1,.int .i64 x.2.1,.int .i64 x.2.2]=i*3+1 by simp;omega];exact ih.2.1
  ·rw[show(i+1)*3+2-List.length [Value.int .i64 x.1,.int .i64 x.2.1,.int .i64 x.2.2]=i*3+2 by simp;omega];exact ih.2.2
theorem XZ {w:World}{t:TypeId}{size:Nat}{a:Option Addr}{n cap:Nat}{xs:List Value}(h:w.ownsRow 0 t size (.slice a n cap) n xs)(hn:0<n):∃g,a=some ⟨g,0,none⟩∧∀j u,xs[j]?=some u→w.cell? ⟨g,j,none⟩=some u:=by
 rcases h.2 with⟨_,h0⟩|⟨g,cap',cur,hv,_⟩
 ·omega
 ·simp only[Value.slice.injEq] at hv
  obtain⟨rfl,_,_⟩:=hv;refine⟨g,rfl,fun j u hj=>?_⟩
  have:=World.ownsRow.cells h (g:=g) rfl j u hj
  rwa [Addr.add_lit,Nat.zero_add] at this
theorem xB.xH {w:World}{t:TypeId}{a:Option Addr}{n cap:Nat}{l:List yq}(h:w.ownsRow 0 t 4 (.slice a n cap) n (inc l))(hn:n=l.length):xB w a l:=fun i hi=>by
 obtain⟨g,rfl,hc⟩:=XZ h (by omega)
 obtain⟨h1,h2,h3,h4⟩:=MG l i hi;exact⟨g,0,rfl,by simpa using hc _ _ h1,by simpa using hc _ _ h2,by simpa using hc _ _ h3,by simpa using hc _ _ h4⟩
theorem Yc.xH {w:World}{t:TypeId}{a:Option Addr}{n cap:Nat}{l:List T6}(h:w.ownsRow 0 t 3 (.slice a n cap) n (ZW l))(hn:n=l.length):Yc w a l:=fun i hi=>by
 obtain⟨g,rfl,hc⟩:=XZ h (by omega)
 obtain⟨h1,h2,h3⟩:=Kk l i hi;exact⟨g,0,rfl,by simpa using hc _ _ h1,by simpa using hc _ _ h2,by simpa using hc _ _ h3⟩
theorem xB.yE {G:List Nat}{w w':World}{a:Option Addr}{l:List yq}(h:xB w a l)(c:zK G w w')(hd:∀x∈zY a,x∉G):xB w' a l:=fun i hi=>by
 obtain⟨b,off,rfl,h2,h3,h4,h5⟩:=h i hi;have hb:b∉G:=hd b (by simp[zY])
 exact⟨b,off,rfl,Ze h2 c hb,Ze h3 c hb,Ze h4 c hb,Ze h5 c hb⟩
def Wv (T:TypeId)(v:Value)(vs:List Value)(l:List (List yq)):zv where
 at_ w F:=∃F2,F=v.ownBlock.toList++F2∧(∀x∈v.ownBlock.toList,x∉F2)∧(∀x∈F2,x<w.heap.size)∧w.ownsRow 0 T 1 v l.length vs∧∀i (h:i<l.length),∃a' c',vs[i]?=some (.slice a' l[i].length c')∧xB w a' l[i]∧∀x∈zY a',x∈F2
 lt:=by
  rintro w F ⟨F2,rfl,_,h2,h3,_⟩ x hx
  rcases List.mem_append.1 hx with hx|hx
  ·exact VF h3 x (by simpa using hx)
  ·exact h2 x hx
 yE:=by
  rintro w w' F G ⟨F2,rfl,h1,h2,h3,h4⟩ c hd
  refine⟨F2,rfl,h1,fun x hx=>Nat.lt_of_lt_of_le (h2 x hx) c.size,UD h3 c (fun g hg=>hd g (by rw[hg];simp)),fun i hi=>?_⟩
  obtain⟨a',c',k1,k2,k3⟩:=h4 i hi;exact⟨a',c',k1,k2.yE c (fun x hx=>hd x (by simp[k3 x hx])),k3⟩
theorem Own.Ea {w0 w:World}{As:List zv}(h:Own w0 w As)(T:TypeId):Own w0 w (Wv T (.slice none 0 0) [] []::As) :=
 h.add (Below.refl _ _) (F:=[]) ⟨[],rfl,by simp,by simp,World.ownsRow_nil _ _ _ _,fun i hi=>by simp at hi⟩ (fun x hx=>by simp at hx)
theorem Own.fun{w0 w:World}{As:List zv}(h:Own w0 w As)(i:Nat){T:TypeId}{v:Value}{vs:List Value}{l:List (List yq)}(hi:As[i]?=some (Wv T v vs l)):w.ownsRow 0 T 1 v l.length vs:=by
 obtain⟨F,⟨F2,_,_,_,h1,_⟩,_⟩:=h.fact i hi;exact h1
theorem Own.Ez {w0 w:World}{As:List zv}(h:Own w0 w As)(i:Nat){T:TypeId}{a:Option Addr}{n c:Nat}{vs:List Value}{l:List (List yq)}(hn:n=l.length)(hi:As[i]?=some (Wv T (.slice a n c) vs l)):Ow w a l:=by
 obtain⟨F,⟨F2,_,_,_,h1,h2⟩,_⟩:=h.fact i hi;subst hn;intro j hj;obtain⟨g,rfl,hc⟩:=XZ h1 (by omega)
 obtain⟨a',c',k1,k2,_⟩:=h2 j hj;exact⟨g,0,a',c',rfl,by simpa using hc _ _ k1,k2⟩
theorem Own.GI {w0 w w2:World}{R:List zv}{T E:TypeId}{a a6:Option Addr}{n c n6 c6 g cap:Nat}{vs:List Value}{l:List (List yq)}{f:List yq}{o:Obj}(h:Own w0 w (Wv T (.slice a n c) vs l::WH E 4 (.slice a6 n6 c6) n6 (inc f)::R))(hn:n=l.length)(hn6:n6=f.length)
  (hown:w2.ownsRow 0 T 1 (.slice (some ⟨g,0,none⟩) (n+1) cap) (n+1) (vs++[.slice a6 n6 c6])) (hgr:(w.alloc o).grownBy w2 (Value.slice a n c).ownBlock)
  (hlies:(Value.slice a n c).ownBlock=some g∨g=w.heap.size+1):Own w0 w2 (Wv T (.slice (some ⟨g,0,none⟩) (n+1) cap) (vs++[.slice a6 n6 c6]) (l++[f])::R):=by
 refine Own.SY (As:=[Wv T (.slice a n c) vs l,WH E 4 (.slice a6 n6 c6) n6 (inc f)]) (As':=[Wv T (.slice (some ⟨g,0,none⟩) (n+1) cap) (vs++[.slice a6 n6 c6]) (l++[f])]) (R:=R) h (fun F hF=>?_)
 obtain⟨F1,F3,rfl,⟨F2,rfl,h1,h2,h3,h4⟩,h5,h6⟩:=hF;obtain⟨rfl,h7⟩:=xe.1 h6;have hc:zK (Value.slice a n c).ownBlock.toList w w2:=(zK.zO (below_alloc1 _ _)).trans (yy hgr) (fun x hx=>.inl hx)
 have hvl:vs.length=l.length:=by have:=h3.1;simpa using this
 have h7lt:∀x∈(Value.slice a6 n6 c6).ownBlock.toList,x<w.heap.size:=fun x hx=>VF h7 x (by simpa using hx)
 refine⟨[g]++(F2++(Value.slice a6 n6 c6).ownBlock.toList),xe.2 ⟨F2++(Value.slice a6 n6 c6).ownBlock.toList,rfl,?_,?_,by rw[List.length_append,←hn];exact hown,fun i hi=>?_⟩,hc.mono (fun x hx=>by simp only[List.mem_append];exact .inl (.inl hx)),fun x hx=>?_⟩
 ·intro x hx hx2
  have hxg:x=g:=by simpa [Value.ownBlock] using hx
  subst hxg;rcases hlies with e|e
  ·rcases List.mem_append.1 hx2 with h|h
   ·exact h1 x (by rw[e];simp) h
   ·exact h5 x (by rw[e];simp) h
  ·rcases List.mem_append.1 hx2 with h|h
   ·have:=h2 x h;omega
   ·have:=h7lt x h;omega
 ·intro x hx
  rcases List.mem_append.1 hx with h|h
  ·exact Nat.lt_of_lt_of_le (h2 x h) hc.size
  ·exact Nat.lt_of_lt_of_le (h7lt x h) hc.size
 ·by_cases hil:i<l.length
  ·obtain⟨a',c',k1,k2,k3⟩:=h4 i hil
   rw[List.getElem_append_left hil];exact⟨a',c',by rw[List.getElem?_append_left (by omega)];exact k1,k2.yE hc (fun x hx hx2=>h1 x hx2 (k3 x hx)),fun x hx=>by simp[k3 x hx]⟩
  ·have hie:i=l.length:=by rw[List.length_append] at hi;simp at hi;omega
   subst hie;rw[List.getElem_append_right (Nat.le_refl _)]
   simp only[Nat.sub_self,List.getElem_cons_zero];have hbk:∀x∈zY a6,x∈(Value.slice a6 n6 c6).ownBlock.toList:=fun x hx=>by rw[IC];exact hx
   exact⟨a6,c6,by rw[List.getElem?_append_right (by omega),hvl,Nat.sub_self,hn6];rfl,(xB.xH h7 hn6).yE hc (fun x hx hx2=>h5 x (by simp[hx2]) (hbk x hx)),fun x hx=>List.mem_append.2 (.inr (hbk x hx))⟩
 ·rcases List.mem_append.1 hx with hx|hx
  ·have hxg:x=g:=by simpa using hx
   subst hxg;rcases hlies with e|e
   ·left;simp[e]
   ·right;omega
  ·left
   rcases List.mem_append.1 hx with h|h
   ·simp[h]
   ·exact List.mem_append.2 (.inr h)
structure Fr where
 a:Option Addr
 c:Nat
 l:List yq
def Fg (r:Fr):Value:=.slice r.a r.l.length r.c
def WN (rs:List Fr):List Value:=rs.map Fg
def Ld (r:Fr):zv:=zd 4 r.a r.c r.l.length (inc r.l)
def fns (rs:List Fr):List zv:=rs.map Ld
theorem IU (rs:List Fr):(WN rs).length=rs.length:=by unfold WN;simp
theorem JX (rs:List Fr)(i:Nat)(r:Fr):(fns rs).set i (Ld r)=fns (rs.set i r):=by unfold fns;rw[List.map_set]
theorem IP (rs:List Fr)(i:Nat)(r:Fr):(WN rs).set i (Fg r)=WN (rs.set i r):=by unfold WN;rw[List.map_set]
theorem Pe {rs:List Fr}{i:Nat}{r:Fr}(h:rs[i]?=some r):(fns rs)[i]?=some (Ld r):=by unfold fns;rw[List.getElem?_map,h];rfl
theorem MZ {rs:List Fr}{i:Nat}{r:Fr}(h:rs[i]?=some r):(WN rs)[i]?=some (.slice r.a r.l.length r.c):=by unfold WN;rw[List.getElem?_map,h];rfl
theorem Own.FQ {w0 w:World}{rs:List Fr}{R:List zv}{r':Fr}(h:Own w0 w (Ld r'::(fns rs++R))){i:Nat}(hi:i<rs.length):Own w0 w (fns (rs.set i r')++R):=by
 have hl:i<(fns rs).length:=by unfold fns;simpa using hi
 have h1:(Ld r'::(fns rs++R))[i+1]?=some (Ld rs[i]):=by
  rw[List.getElem?_cons_succ,List.getElem?_append_left hl];exact Pe (List.getElem?_eq_getElem hi)
 have h2:=(h.pick (i+1) h1).drop
 rw[List.eraseIdx_cons_succ] at h2;have h3:=h2.back (by rw[List.length_append];omega)
 rw[List.set_append_left _ _ hl,JX] at h3;exact h3
theorem Own.Jb {w0 w:World}{rs:List Fr}{R:List zv}{sb so sc gn:Nat}{r':Fr}(h:Own w0 w (Ld r'::(fns rs++zd 1 (some ⟨sb,so,none⟩) sc gn (WN rs)::R))){i:Nat}(hi:i<rs.length) :
  Own w0 (w.setCell ⟨sb,so+i,none⟩ (Fg r')) (fns (rs.set i r')++zd 1 (some ⟨sb,so,none⟩) sc gn (WN (rs.set i r'))::R):=by
 have h1:=(h.perm (List.perm_middle (l₁:=Ld r'::fns rs))).YX i (Fg r') (by rw[IU];exact hi)
 rw[IP] at h1;exact Own.FQ (h1.perm (List.perm_middle (l₁:=Ld r'::fns rs)).symm) hi
theorem Own.JF {w0 w:World}{A:zv}{Y Z:List zv}(h:Own w0 w (A::(Y++Z))):Own w0 w (A::Z):=Own.Zj (As:=Y) (h.perm List.perm_middle.symm)
theorem xB.Xz {w:World}{a:Option Addr}{l:List yq}(h:zr w a (inc l)):xB w a l:=fun i hi=>by
 obtain⟨b,off,rfl,hc⟩:=zr.rec (f:=fun x:yq=>[.int .i64 x.1,.int .i64 x.2.1,.int .i64 x.2.2.1,.int .i64 x.2.2.2]) (s:=4) (fun _=>rfl) h i hi (by omega)
 exact⟨b,off,rfl,hc 0 _ rfl,hc 1 _ rfl,hc 2 _ rfl,hc 3 _ rfl⟩
theorem xB.take {w:World}{a:Option Addr}{l:List yq}(h:xB w a l)(m:Nat):xB w a (l.take m):=fun i hi=>by
 have hil:i<l.length:=by rw[List.length_take] at hi;omega
 have e:(l.take m)[i]=l[i]:=by simp
 rw[e];exact h i hil
theorem Yc.Xz {w:World}{a:Option Addr}{l:List T6}(h:zr w a (ZW l)):Yc w a l:=fun i hi=>by
 obtain⟨b,off,rfl,hc⟩:=zr.rec (f:=fun x:T6=>[.int .i64 x.1,.int .i64 x.2.1,.int .i64 x.2.2]) (s:=3) (fun _=>rfl) h i hi (by omega)
 exact⟨b,off,rfl,hc 0 _ rfl,hc 1 _ rfl,hc 2 _ rfl⟩
theorem yT.Xz {w:World}{a:Option Addr}{l:List Int}(h:zr w a (zt l)):yT w a l:=fun i hi=>h.int i hi
theorem Own.Gb {w0 w:World}{As R:List zv}{fa:Option Addr}{fc n:Nat}{rs:List Fr}(h:Own w0 w (fns rs++R))(hs:zT 1 w fa fc n (WN rs)):Ow w fa (rs.map (·.l)):=fun i hi=>by
 have hil:i<rs.length:=by simpa using hi
 have hr:=List.getElem?_eq_getElem hil
 obtain⟨b,off,rfl,e⟩:=hs.cells i _ (MZ hr)
 have hl:i<(fns rs).length:=(List.getElem?_eq_some_iff.1 (Pe hr)).1
 have hg:=Own.xl h i (s:=4) (a:=rs[i].a) (cap:=rs[i].c) (n:=rs[i].l.length) (cs:=inc rs[i].l) (by rw[List.getElem?_append_left hl];exact Pe hr)
 have e2:(rs.map (·.l))[i]=rs[i].l:=by simp
 refine⟨b,off,rs[i].a,rs[i].c,rfl,?_,?_⟩
 ·rw[e2];exact e
 ·rw[e2];exact xB.Xz hg.cells
theorem Jr (l:List yq):∀v∈inc l,v.oneCell'=true:=fun v hv=>by
 unfold inc at hv;rw[List.mem_flatMap] at hv;obtain⟨x,_,hx⟩:=hv;simp at hx
 rcases hx with rfl|rfl|rfl|rfl<;>rfl
theorem Jq (l:List T6):∀v∈ZW l,v.oneCell'=true:=fun v hv=>by
 unfold ZW at hv;rw[List.mem_flatMap] at hv;obtain⟨x,_,hx⟩:=hv;simp at hx
 rcases hx with rfl|rfl|rfl<;>rfl
def Od (nf nc nk:Nat)(lk:Int)(m:Nat)(l:List yq):Prop:=∀x∈l,SN nf nc nk lk m x=0∧yh x.2.2.1
def Iv (nf nc nk:Nat)(lk:Int)(l:List yq):Prop:=1≤l.length∧l.length≤20∧Od nf nc nk lk l.length l
def TX (cs:List Int)(lk:Int)(ks:List T6):Prop:=cs.length≤4∧ks.length≤8∧0≤lk∧lk≤3∧(∀c∈cs,0≤c∧c≤3)∧∀k∈ks,Kh cs.length k=true
end Go.Proofs.YtlkjheheofgdgaaGreat
