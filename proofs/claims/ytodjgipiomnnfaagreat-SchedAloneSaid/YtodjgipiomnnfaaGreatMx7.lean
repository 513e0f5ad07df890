/-
  Texts put together: SdLook, WdBox, WdTick, WdStk, SdExec, SdRunW, SdHold, SdPick, EnM, SdStepW, SdGets, WGrd1, WGrd2, SdLaw.
-/
import Derived.Test.YtodjgipiomnnfaaGreatMx6
import Derived.Recover
import Derived.Tactics
import Derived.Tactics2
import Derived.Deep.CutBlock
set_option maxRecDepth 100000
set_option maxHeartbeats 16000000
set_option linter.unusedSimpArgs false
set_option linter.unusedVariables false
open Go Go.RowKit
set_option linter.unusedVariables false
namespace Go.Proofs.YtodjgipiomnnfaaGreat
def asksL (X:Sd) (m:Nat):Option (Int × Int):=if 0 < (X.m m).L ∧ (X.p (X.m m).P.toNat).q.nx.isSome then none else if asksV X (X.m m).P.toNat then some (2,(X.ps.length:Int)) else none
theorem look_in {X:Sd} {m i:Nat} {g:Int} (hi:(X.m m).P = (i:Int)) (hL:0 < (X.m m).L) (hg:(X.p i).q.nx = some g) (v:Nat):lookM X m v = ((X.setP i { X.p i with q:=⟨none,(X.p i).q.l⟩ }).setM m { X.m m with G:=g },4,g):=by
 unfold lookM
 simp only
 have hi2:(X.m m).P.toNat = i:=by rw [hi,Int.toNat_natCast]
 rw [hi2,if_pos ⟨hL,by rw [hg];rfl⟩]
 have hget:mGet (X.p i).q = (⟨none,(X.p i).q.l⟩,some g):=by unfold mGet;rw [hg]
 rw [hget];rfl
theorem look_out {X:Sd} {m i:Nat} (hi:(X.m m).P = (i:Int)) (h:¬ (0 < (X.m m).L ∧ (X.p i).q.nx.isSome)) (v:Nat):lookM X m v =
  if (newTurnM X i v).2.1 = 6 then (((newTurnM X i v).1.setP i { (newTurnM X i v).1.p i with by_:=-1 }).setM m ⟨-1,-1,0⟩,(newTurnM X i v).2)
  else (((newTurnM X i v).1.setP i { (newTurnM X i v).1.p i with tu:=((newTurnM X i v).1.p i).tu + 1 }).setM m { (newTurnM X i v).1.m m with G:=(newTurnM X i v).2.2,L:=(newTurnM X i v).1.sl },(newTurnM X i v).2):=by
 unfold lookM
 simp only
 have hi2:(X.m m).P.toNat = i:=by rw [hi,Int.toNat_natCast]
 rw [hi2,if_neg h]
theorem setM_setM (X:Sd) (m:Nat) (a c:Mm):(X.setM m a).setM m c = X.setM m c:=by unfold Sd.setM;simp
theorem setM_two {X:Sd} {m:Nat} (hm:m < X.ms.length) (g l:Int):(X.setM m { X.m m with G:=g }).setM m { (X.setM m { X.m m with G:=g }).m m with L:=l } = X.setM m { X.m m with G:=g,L:=l }:=by
 rw [setM_setM,setM_m hm,if_pos rfl]
theorem setM_all3 {X:Sd} {m:Nat} (hm:m < X.ms.length) (p g l:Int):((X.setM m { X.m m with P:=p }).setM m { (X.setM m { X.m m with P:=p }).m m with G:=g }).setM m { ((X.setM m { X.m m with P:=p }).setM m { (X.setM m { X.m m with P:=p }).m m with G:=g }).m m with L:=l } = X.setM m ⟨p,g,l⟩:=by
 have h2:m < (X.setM m { X.m m with P:=p }).ms.length:=by simpa [Sd.setM] using hm
 rw [setM_two h2,setM_setM,setM_m hm,if_pos rfl]
theorem look_any {w0 w:World} {b sp:Nat} {L:Sl} {X:Sd} {R:List Asr} {D:Drw sp} {s:D.T} {j B:Nat} (h:SAt w0 w b sp L X (D.A s ++ R)) (hok:D.ok (j + 1) s) (wf:SdWF B X) (hB:B ≤ 80000) {m:Nat} (hm:m < X.ms.length) (hP:(X.m m).P ≠ -1) (hG:(X.m m).G = -1) :
  Calls Tryz.prog 59 #[.pointer (some ⟨b,0,none⟩),.int .i64 (m:Int)] w (Drew w0 b sp L D s X R j (asksL X m) (fun v=>((lookM X m v.toNat).1,turnV (lookM X m v.toNat)))):=by
 obtain ⟨i,hPi,hi,hby⟩:=wf.at hm hP
 obtain ⟨pb,off,p,g,hpa,hld⟩:=h.pa hi
 obtain ⟨mb,off2,hma⟩:=h.ma hm
 obtain ⟨C12,c12⟩:=h.c12
 obtain ⟨C13,c13⟩:=h.c13
 obtain ⟨⟨x0,x1,x2⟩,-,-⟩:=h.proc hi hpa hld
 obtain ⟨⟨z0,z1,z2⟩,f0,f1,f2⟩:=h.mach hm hma
 rw [hpa] at c12
 rw [hma] at c13
 rw [hPi] at z0
 have hgl:=wf.gl
 have hll:=wf.ll i
 have hN:=wf.N i hi
 have htu:=wf.tu i
 have hnp:=wf.np
 have hnm:=wf.nm
 have hmL:=wf.mL m
 have hmX:(m:Int) < (X.ms.length:Int):=by omega
 have hm0:(0:Int) ≤ (m:Int):=by omega
 have hiX:(i:Int) < (X.ps.length:Int):=by omega
 have hi0:(0:Int) ≤ (i:Int):=by omega
 have eL:asksL X m = if 0 < (X.m m).L ∧ (X.p i).q.nx.isSome then none else if asksV X i then some (2,(X.ps.length:Int)) else none:=by unfold asksL;rw [hPi,Int.toNat_natCast]
 have HNX:=Lib.hid (fun (wx:World) (hx:SAt w0 wx b sp L X (D.A s ++ R))=>sd_next hx hi hld)
 have HG0:=Lib.hid (fun (wx:World) (hx:SAt w0 wx b sp L X (D.A s ++ R))=>sd_get hx hi hld)
 have HX:=Lib.hid (fun (wx:World) (hx:SAt w0 wx b sp L X (D.A s ++ R))=>(hx.proc hi hpa hld).1.1)
 have HM:=Lib.hid (fun (wx:World) (Y:Sd) (Z:List Asr) (hx:SAt w0 wx b sp L Y Z) (e:Y.ms.length = X.ms.length)=>hx.mach (i:=m) (by rw [e];exact hm) hma)
 have HPC:=Lib.hid (fun (wx:World) (Y:Sd) (Z:List Asr) (hx:SAt w0 wx b sp L Y Z) (e:Y.ps.length = X.ps.length)=>hx.proc (i:=i) (by rw [e];exact hi) hpa hld)
 have H:=Lib.hid h
 by_cases hin:0 < (X.m m).L ∧ (X.p i).q.nx.isSome
 ·obtain ⟨gg,hgg⟩:∃ g,(X.p i).q.nx = some g:=by
   cases e:(X.p i).q.nx with
   | none=>have:=hin.2;rw [e] at this;cases this
   | some g=>exact ⟨g,rfl⟩
  have hg0:gg ≠ -1:=by
   have hgm:gg ∈ X.all:=by
    obtain ⟨Rl,r1,-⟩:=all_p hi
    exact r1.mem_iff.2 (by unfold Pm.l;rw [hgg];simp)
   obtain ⟨k,e,-⟩:=(wf.mem gg).1 hgm;omega
  have hnum:(X.p i).q.num = gg:=by unfold LQ.num;rw [hgg];rfl
  have hget:mGet (X.p i).q = (⟨none,(X.p i).q.l⟩,some gg):=by unfold mGet;rw [hgg]
  have hLp:(X.m m).L > 0:=hin.1
  have hne:(gg != -1) = true:=by simpa using hg0
  rw [eL,if_pos hin]
  have hres:∀ v,lookM X m v = ((X.setP i { X.p i with q:=⟨none,(X.p i).q.l⟩ }).setM m { X.m m with G:=gg },4,gg):=fun v=>look_in hPi hin.1 hgg v
  rw [hnum] at HNX
  rw [hget] at HG0
  have HRES:=Lib.hid hres
  have HOK:=Lib.hid hok
  have HMM:=Lib.hid hm
  have HMA:=Lib.hid hma
  have hms1:(X.setP i { X.p i with q:=⟨none,(X.p i).q.l⟩ }).ms.length = X.ms.length:=rfl
  have HMS:=Lib.hid hms1
  have HG1:=Lib.hid hG
  obtain ⟨LL,hLL⟩:∃ LL,LL = (X.m m).L:=⟨_,rfl⟩
  rw [← hLL] at z2 hLp
  clear hms1 hin hnum hget hgg eL hres hok wf hm hP hG hPi hi hby hpa hld hma h hgl hll hN htu hmL hnp hnm hg0 hLL x1 x2 z1 f0 f2 HPC
  go_enter Tryz.func59,Tryz.ntmps59
  go_upto_region 2 with fail
  refine wp_region_lexK (fun wx=>∃ nq,wx = World.drewN (w) nq) 10 0 (Array.replicate 10 false) #[true,true,true,true,true,true,true,true,true,true] (by kernel_rfl) (by kernel_rfl) ?_
  refine wpAnyK_seg 0 10 _ #[true,true,true,true,true,true,true,true,true,true] 0 (by kernel_rfl) noPanic_put (drew_q w) (by kernel_rfl) ?_
  simp only [List.take_succ_cons,List.take_zero,List.drop_zero]
  repeat ((first | refine wpSegH_no (by rfl) ?_ | (refine wpSegH_yes (by rfl) ?_;apply Exists.intro;apply And.intro;(· (rintro wx ⟨nq,rfl⟩;go_simp;first | done | with_reducible rfl))));simp only [Act.put,List.setIfInBounds_toArray,List.set_cons_zero,List.set_cons_succ])
  refine wpSegH_nil ?_
  refine wpAnyK_next ?_
  refine wpAnyK_done (by kernel_rfl) (NoPanic.normal ?_)
  go_wp2_with fail
  refine (HNX.out _ (H.out.step (below_dN w _))).mono ?_
  rintro r w1 ⟨rfl,rfl⟩
  have H1:=Lib.hid (H.out.step (below_dN w 1))
  clear HNX
  go_wp2_with fail
  refine (HG0.out _ H1.out).mono ?_
  rintro r w2 ⟨rfl,h2⟩
  obtain ⟨⟨-,u1,-⟩,-,f1,-⟩:=HM.out _ _ _ h2 HMS.out
  have h3:=h2.setG (i:=m) (by rw [HMS.out];exact HMM.out) HMA.out gg
  have v1:=(h3.mach (i:=m) (by simp only [Sd.setM,Sd.setP,List.length_set];exact HMM.out) HMA.out).1.2.1
  rw [setM_m (X:=X.setP i { X.p i with q:=⟨none,(X.p i).q.l⟩ }) (by exact HMM.out),if_pos rfl] at v1
  have H3:=Lib.hid h3
  clear h2 h3 HG0 H1 HM HMS HX H HG1
  unfold gotv
  simp only [Option.getD_some,Option.isSome_some]
  go_upto_region 5 with fail
  clear u1 f1
  generalize w2.setCell ⟨mb,off2 + m * 3 + 1,none⟩ (.int .i64 gg) = w3 at *
  refine wp_region_lexK (fun wx=>∃ nq,wx = World.drewN (w3) nq) 6 0 (Array.replicate 6 false) #[true,true,true,true,true,true] (by kernel_rfl) (by kernel_rfl) ?_
  refine wpAnyK_seg 0 6 _ #[true,true,true,true,true,true] 0 (by kernel_rfl) noPanic_put (drew_q w3) (by kernel_rfl) ?_
  simp only [List.take_succ_cons,List.take_zero,List.drop_zero]
  repeat ((first | refine wpSegH_no (by rfl) ?_ | (refine wpSegH_yes (by rfl) ?_;apply Exists.intro;apply And.intro;(· (rintro wx ⟨nq,rfl⟩;go_simp;first | done | with_reducible rfl))));simp only [Act.put,List.setIfInBounds_toArray,List.set_cons_zero,List.set_cons_succ])
  refine wpSegH_nil ?_
  refine wpAnyK_next ?_
  refine wpAnyK_done (by kernel_rfl) (NoPanic.normal ?_)
  have HR:Hid (Drew w0 b sp L D s X R j none (fun v=>((lookM X m v.toNat).1,turnV (lookM X m v.toNat))) (.returned (.tuple #[.int .i64 4,.int .i64 gg])) (w3.drewN 1)):=Lib.hid (by
   refine .inl ⟨0,s,.inl ⟨rfl,rfl,rfl⟩,D.less _ _ HOK.out,?_,?_⟩
   ·show _ = turnV (lookM X m (Int.toNat 0));rw [HRES.out];rfl
   ·show SAt w0 _ b sp L (lookM X m (Int.toNat 0)).1 _;rw [HRES.out];exact H3.out.step (below_dN w3 1))
  clear H3 HRES
  go_wp2
  go_ret2
  exact HR.out
 ·rw [eL,if_neg hin]
  have HNEW:=Lib.hid (fun (wx:World) (hx:SAt w0 wx b sp L X (D.A s ++ R))=>newTurn_any hx hok hi hpa (by omega) (by omega) (by omega) (by omega))
  have HQ:=Lib.hid (fun (v:Nat) (hv:v < X.ps.length)=>(qs_new hi hv).1)
  have HRES:=Lib.hid (fun v=>look_out hPi hin v)
  have HFV:Hid (∀ v s',Fit D s (if asksV X i then some ((2:Int),(X.ps.length:Int)) else none) v s' → v.toNat < X.ps.length):=Lib.hid (fun v s' hv=>by
   rcases hv with ⟨-,rfl,-⟩ | ⟨k,n,e,hv,-⟩
   ·simp;omega
   ·split at e
    ·cases e;omega
    ·cases e)
  have HMM:=Lib.hid hm
  have HMA:=Lib.hid hma
  have HPA:=Lib.hid hpa
  have HI:=Lib.hid hi
  have hnum:∀ wx,SAt w0 wx b sp L X (D.A s ++ R) → (X.m m).L > 0 → Calls Tryz.prog 38 #[.pointer (some ⟨p,0,none⟩)] wx fun r w'=>r = .returned (.int .i64 (-1)) ∧ w' = wx:=fun wx hx hL=>by
   have e:(X.p i).q.num = -1:=by
    unfold LQ.num
    cases e:(X.p i).q.nx with
    | none=>rfl
    | some g=>exact absurd ⟨hL,by rw [e];rfl⟩ hin
   have:=HNX.out wx hx
   rw [e] at this;exact this
  have HNUM:=Lib.hid hnum
  have HTU:Hid (∀ v,v < X.ps.length → ((newTurnM X i v).1.p i).tu ≤ 80000):=Lib.hid (fun v hv=>by rw [((qs_new hi hv).1.p i).2.2];omega)
  have HG1:=Lib.hid hG
  generalize hak:(if asksV X i then some ((2:Int),(X.ps.length:Int)) else none) = ak at *
  obtain ⟨LL,hLL⟩:∃ LL,LL = (X.m m).L:=⟨_,rfl⟩
  rw [← hLL] at z2 HNUM
  clear hnum hin eL hok wf hm hP hG hPi hi hby hpa hld hma h hgl hll hN htu hmL hnp hnm hLL x1 x2 z1 f0 f1 f2 HNX HG0 hak
  go_enter Tryz.func59,Tryz.ntmps59
  go_upto_region 2 with fail
  refine wp_region_lexK (fun wx=>∃ nq,wx = World.drewN (w) nq) 10 0 (Array.replicate 10 false) #[true,true,true,true,true,true,true,true,true,true] (by kernel_rfl) (by kernel_rfl) ?_
  refine wpAnyK_seg 0 10 _ #[true,true,true,true,true,true,true,true,true,true] 0 (by kernel_rfl) noPanic_put (drew_q w) (by kernel_rfl) ?_
  simp only [List.take_succ_cons,List.take_zero,List.drop_zero]
  repeat ((first | refine wpSegH_no (by rfl) ?_ | (refine wpSegH_yes (by rfl) ?_;apply Exists.intro;apply And.intro;(· (rintro wx ⟨nq,rfl⟩;go_simp;first | done | with_reducible rfl))));simp only [Act.put,List.setIfInBounds_toArray,List.set_cons_zero,List.set_cons_succ])
  refine wpSegH_nil ?_
  refine wpAnyK_next ?_
  refine wpAnyK_done (by kernel_rfl) (NoPanic.normal ?_)
  have H1:=Lib.hid (H.out.step (below_drew1 w))
  by_cases hLp:LL > 0
  ·go_wp2_with fail
   refine (HNUM.out _ H1.out hLp).mono ?_
   rintro r w1 ⟨rfl,rfl⟩
   go_wp2_with fail
   refine (HNEW.out _ H1.out).mono ?_
   rintro r w2 hp
   rcases hp with ⟨v,s',hfit,hok,rfl,h2⟩ | ⟨ch,s',k,n,rfl,hk,hdp,hok,h2⟩
   ·have hv:=HFV.out v s' hfit
    have q:=HQ.out v.toNat hv
    have hres:=HRES.out v.toNat
    have htu2:=HTU.out v.toNat hv
    have HFIT:=Lib.hid (And.intro hfit hok)
    clear hfit hok HNEW HFV HQ HRES HTU HNUM
    unfold turnV at h2 ⊢
    simp only at h2 ⊢
    generalize newTurnM X i v.toNat = N at *
    obtain ⟨Y,kd,gg⟩:=N
    simp only at q htu2 h2 hres ⊢
    have hml:m < Y.ms.length:=by rw [q.ms];exact HMM.out
    have hil:i < Y.ps.length:=by rw [q.len];exact HI.out
    obtain ⟨⟨u0,u1,u2⟩,f0,f1,f2⟩:=h2.mach hml HMA.out
    obtain ⟨_,_,p',g',-,hld'⟩:=h2.pa hil
    obtain ⟨⟨-,y1,y2⟩,e1,e2⟩:=h2.proc hil HPA.out hld'
    have HQQ:=Lib.hid q
    by_cases h6:kd = 6
    ·subst h6
     rw [if_pos rfl] at hres
     have h3:=h2.setBy hil HPA.out (-1)
     have h4:=h3.setP (i:=m) hml HMA.out (-1)
     have h5:=h4.setG (i:=m) (by simpa [Sd.setM,Sd.setP] using hml) HMA.out (-1)
     have h6:=h5.setL (i:=m) (by simpa [Sd.setM,Sd.setP] using hml) HMA.out 0
     have HR:=Lib.hid (And.intro hres h6)
     obtain ⟨⟨a0,a1,a2⟩,b0,b1,b2⟩:=h3.mach (i:=m) hml HMA.out
     clear h2 h3 h4 h5 h6 hres q hld' htu2
     go_upto_region 9 with fail
     generalize w2.setCell ⟨pb,off + i * 3 + 2,none⟩ (.int .i64 (-1)) = w3 at *
     clear u0 u1 u2 f0 f1 f2 y1 y2 e1 e2
     have HRR:Hid (Drew w0 b sp L D s X R j ak (fun v=>((lookM X m v.toNat).1,turnV (lookM X m v.toNat))) (.returned (.tuple #[.int .i64 6,.int .i64 gg])) (((w3.setCell ⟨mb,off2 + m * 3,none⟩ (.int .i64 (-1))).setCell ⟨mb,off2 + m * 3 + 1,none⟩ (.int .i64 (-1))).setCell ⟨mb,off2 + m * 3 + 2,none⟩ (.int .i64 0))):=Lib.hid (by
      obtain ⟨r1,r2⟩:=HR.out
      refine .inl ⟨v,s',HFIT.out.1,HFIT.out.2,?_,?_⟩
      ·simp only;rw [r1];rfl
      ·simp only;rw [r1];simp only
       rw [← setM_all3 (X:=Y.setP i { Y.p i with by_:=-1 }) (by exact hml)];exact r2)
     clear HR
     go_wp2
     go_ret2
     exact HRR.out
    ·rw [if_neg h6] at hres
     have hk6:(kd == 6) = false:=by simpa using h6
     have hwr:IntKind.i64.wrap (((Y.p i).tu:Int) + 1) = ((Y.p i).tu:Int) + 1:=by rw [IntKind.wrap_i64];omega
     have h3:=h2.setTu hil HPA.out ((Y.p i).tu + 1)
     rw [show (((Y.p i).tu + 1:Nat):Int) = ((Y.p i).tu:Int) + 1 by omega] at h3
     have h4:=h3.setG (i:=m) hml HMA.out gg
     have h5:=h4.setL (i:=m) (by simpa [Sd.setM,Sd.setP] using hml) HMA.out Y.sl
     have HR:=Lib.hid (And.intro hres h5)
     obtain ⟨⟨-,a1,a2⟩,-,b1,b2⟩:=h3.mach (i:=m) hml HMA.out
     have c15:=h3.c15
     clear h2 h4 h5 hres q hld' htu2 h6
     go_upto_region 12 with fail
     generalize w2.setCell ⟨pb,off + i * 3 + 1,none⟩ (.int .i64 (((Y.p i).tu:Int) + 1)) = w3 at *
     clear u0 u1 u2 f0 f1 f2 y1 y2 e1 e2 h3
     have HRR:Hid (Drew w0 b sp L D s X R j ak (fun v=>((lookM X m v.toNat).1,turnV (lookM X m v.toNat))) (.returned (.tuple #[.int .i64 kd,.int .i64 gg])) ((w3.setCell ⟨mb,off2 + m * 3 + 1,none⟩ (.int .i64 gg)).setCell ⟨mb,off2 + m * 3 + 2,none⟩ (.int .i64 Y.sl))):=Lib.hid (by
      obtain ⟨r1,r2⟩:=HR.out
      refine .inl ⟨v,s',HFIT.out.1,HFIT.out.2,?_,?_⟩
      ·simp only;rw [r1];rfl
      ·simp only;rw [r1];simp only
       rw [show ({ Y.m m with G:=gg,L:=Y.sl }:Mm) = { (Y.setP i { Y.p i with tu:=(Y.p i).tu + 1 }).m m with G:=gg,L:=Y.sl } from rfl,← setM_two (X:=Y.setP i { Y.p i with tu:=(Y.p i).tu + 1 }) (by exact hml)];exact r2)
     have hsl:(Y.setP i { Y.p i with tu:=(Y.p i).tu + 1 }).sl = Y.sl:=rfl
     rw [hsl] at c15
     clear HR hsl
     generalize Y.sl = ysl at *
     go_wp2
     go_ret2
     exact HRR.out
   ·have HR:Hid (Drew w0 b sp L D s X R j ak (fun v=>((lookM X m v.toNat).1,turnV (lookM X m v.toNat))) (.panicked ch) w2):=Lib.hid (.inr ⟨ch,s',k,n,rfl,hk,hdp,hok,h2⟩)
    exact ⟨rfl,HR.out⟩
  ·have hLn:¬ LL > 0:=hLp
   go_wp2_with fail
   refine (HNEW.out _ H1.out).mono ?_
   rintro r w2 hp
   rcases hp with ⟨v,s',hfit,hok,rfl,h2⟩ | ⟨ch,s',k,n,rfl,hk,hdp,hok,h2⟩
   ·have hv:=HFV.out v s' hfit
    have q:=HQ.out v.toNat hv
    have hres:=HRES.out v.toNat
    have htu2:=HTU.out v.toNat hv
    have HFIT:=Lib.hid (And.intro hfit hok)
    clear hfit hok HNEW HFV HQ HRES HTU HNUM
    unfold turnV at h2 ⊢
    simp only at h2 ⊢
    generalize newTurnM X i v.toNat = N at *
    obtain ⟨Y,kd,gg⟩:=N
    simp only at q htu2 h2 hres ⊢
    have hml:m < Y.ms.length:=by rw [q.ms];exact HMM.out
    have hil:i < Y.ps.length:=by rw [q.len];exact HI.out
    obtain ⟨⟨u0,u1,u2⟩,f0,f1,f2⟩:=h2.mach hml HMA.out
    obtain ⟨_,_,p',g',-,hld'⟩:=h2.pa hil
    obtain ⟨⟨-,y1,y2⟩,e1,e2⟩:=h2.proc hil HPA.out hld'
    have HQQ:=Lib.hid q
    by_cases h6:kd = 6
    ·subst h6
     rw [if_pos rfl] at hres
     have h3:=h2.setBy hil HPA.out (-1)
     have h4:=h3.setP (i:=m) hml HMA.out (-1)
     have h5:=h4.setG (i:=m) (by simpa [Sd.setM,Sd.setP] using hml) HMA.out (-1)
     have h6:=h5.setL (i:=m) (by simpa [Sd.setM,Sd.setP] using hml) HMA.out 0
     have HR:=Lib.hid (And.intro hres h6)
     obtain ⟨⟨a0,a1,a2⟩,b0,b1,b2⟩:=h3.mach (i:=m) hml HMA.out
     clear h2 h3 h4 h5 h6 hres q hld' htu2
     go_upto_region 9 with fail
     generalize w2.setCell ⟨pb,off + i * 3 + 2,none⟩ (.int .i64 (-1)) = w3 at *
     clear u0 u1 u2 f0 f1 f2 y1 y2 e1 e2
     have HRR:Hid (Drew w0 b sp L D s X R j ak (fun v=>((lookM X m v.toNat).1,turnV (lookM X m v.toNat))) (.returned (.tuple #[.int .i64 6,.int .i64 gg])) (((w3.setCell ⟨mb,off2 + m * 3,none⟩ (.int .i64 (-1))).setCell ⟨mb,off2 + m * 3 + 1,none⟩ (.int .i64 (-1))).setCell ⟨mb,off2 + m * 3 + 2,none⟩ (.int .i64 0))):=Lib.hid (by
      obtain ⟨r1,r2⟩:=HR.out
      refine .inl ⟨v,s',HFIT.out.1,HFIT.out.2,?_,?_⟩
      ·simp only;rw [r1];rfl
      ·simp only;rw [r1];simp only
       rw [← setM_all3 (X:=Y.setP i { Y.p i with by_:=-1 }) (by exact hml)];exact r2)
     clear HR
     go_wp2
     go_ret2
     exact HRR.out
    ·rw [if_neg h6] at hres
     have hk6:(kd == 6) = false:=by simpa using h6
     have hwr:IntKind.i64.wrap (((Y.p i).tu:Int) + 1) = ((Y.p i).tu:Int) + 1:=by rw [IntKind.wrap_i64];omega
     have h3:=h2.setTu hil HPA.out ((Y.p i).tu + 1)
     rw [show (((Y.p i).tu + 1:Nat):Int) = ((Y.p i).tu:Int) + 1 by omega] at h3
     have h4:=h3.setG (i:=m) hml HMA.out gg
     have h5:=h4.setL (i:=m) (by simpa [Sd.setM,Sd.setP] using hml) HMA.out Y.sl
     have HR:=Lib.hid (And.intro hres h5)
     obtain ⟨⟨-,a1,a2⟩,-,b1,b2⟩:=h3.mach (i:=m) hml HMA.out
     have c15:=h3.c15
     clear h2 h4 h5 hres q hld' htu2 h6
     go_upto_region 12 with fail
     generalize w2.setCell ⟨pb,off + i * 3 + 1,none⟩ (.int .i64 (((Y.p i).tu:Int) + 1)) = w3 at *
     clear u0 u1 u2 f0 f1 f2 y1 y2 e1 e2 h3
     have HRR:Hid (Drew w0 b sp L D s X R j ak (fun v=>((lookM X m v.toNat).1,turnV (lookM X m v.toNat))) (.returned (.tuple #[.int .i64 kd,.int .i64 gg])) ((w3.setCell ⟨mb,off2 + m * 3 + 1,none⟩ (.int .i64 gg)).setCell ⟨mb,off2 + m * 3 + 2,none⟩ (.int .i64 Y.sl))):=Lib.hid (by
      obtain ⟨r1,r2⟩:=HR.out
      refine .inl ⟨v,s',HFIT.out.1,HFIT.out.2,?_,?_⟩
      ·simp only;rw [r1];rfl
      ·simp only;rw [r1];simp only
       rw [show ({ Y.m m with G:=gg,L:=Y.sl }:Mm) = { (Y.setP i { Y.p i with tu:=(Y.p i).tu + 1 }).m m with G:=gg,L:=Y.sl } from rfl,← setM_two (X:=Y.setP i { Y.p i with tu:=(Y.p i).tu + 1 }) (by exact hml)];exact r2)
     have hsl:(Y.setP i { Y.p i with tu:=(Y.p i).tu + 1 }).sl = Y.sl:=rfl
     rw [hsl] at c15
     clear HR hsl
     generalize Y.sl = ysl at *
     go_wp2
     go_ret2
     exact HRR.out
   ·have HR:Hid (Drew w0 b sp L D s X R j ak (fun v=>((lookM X m v.toNat).1,turnV (lookM X m v.toNat))) (.panicked ch) w2):=Lib.hid (.inr ⟨ch,s',k,n,rfl,hk,hdp,hok,h2⟩)
    exact ⟨rfl,HR.out⟩
theorem Own.join {w0 w w':World} {As:List Asr} {A:Asr} (h:Own w0 w As) (k:Own w w' [A]):Own w0 w' (A :: As):=by
 obtain ⟨F,h1,h2⟩:=k.head
 exact h.add k.bel h1 h2
theorem DAt.tail {w0 w:World} {p:Nat} {T:List Value} {d:Dq} {W:Wd} {Z R:List Asr} (h:DAt w0 w p T d W [] (Z ++ R)) :
  ∃ S,Own w0 w (R ++ S) ∧ ∀ w' R',Own w0 w' (R' ++ S) → DAt w0 w' p T d W [] (Z ++ R'):=by
 obtain ⟨D,ra,rc,hf,ho⟩:=h
 refine ⟨wparts p W D T ++ (CelA d.q (dcells p (d.g:Int) d.x d.th d.dr d.go ra ([]:List Int).length rc) :: RowGA 1 ra rc ([]:List Int).length (intc []) :: Z),ho.perm ?_,fun w' R' h'=>⟨D,ra,rc,hf,h'.perm ?_⟩⟩
 ·have:=(List.perm_append_comm (l₁:=wparts p W D T ++ (CelA d.q (dcells p (d.g:Int) d.x d.th d.dr d.go ra ([]:List Int).length rc) :: RowGA 1 ra rc ([]:List Int).length (intc []) :: Z)) (l₂:=R))
  simpa [List.append_assoc] using this
 ·have:=(List.perm_append_comm (l₁:=R') (l₂:=wparts p W D T ++ (CelA d.q (dcells p (d.g:Int) d.x d.th d.dr d.go ra ([]:List Int).length rc) :: RowGA 1 ra rc ([]:List Int).length (intc []) :: Z)))
  simpa [List.append_assoc] using this
theorem wokeM_snoc:∀ (l:List It) (W:Wd) (x:It),wokeM W (l ++ [x]) = (wokeM W l).setSt x.id.toNat 1
 | [],W,x=>rfl
 | y :: t,W,x=>wokeM_snoc t (W.setSt y.id.toNat 1) x
theorem wokeM_len:∀ (l:List It) (W:Wd),(wokeM W l).gs.length = W.gs.length
 | [],W=>rfl
 | y :: t,W=>by rw [wokeM,wokeM_len t,setSt_len]
theorem wokeM_fits {D:Wa}:∀ (l:List It) (W:Wd),D.fits W → D.fits (wokeM W l)
 | [],W,h=>h
 | y :: t,W,h=>wokeM_fits t _ (h.setG _ _)
theorem ids_snoc (l:List It) (i:Nat) (h:i < l.length):intc ((l.take (i + 1)).map (·.id)) = intc ((l.take i).map (·.id)) ++ [.int .i64 (gI l i).id]:=by
 rw [List.take_succ_eq_append_getElem h,List.map_append,gI_of h]
 unfold intc;rw [List.map_append];rfl
theorem wtick_any {w0 w:World} {p:Nat} {T:List Value} {W:Wd} {D:Wa} {R:List Asr} (h:Own w0 w (wparts p W D T ++ R)) (hf:D.fits W) (hen:W.en = 0) (hl:W.hp.length ≤ 100000) (hc:W.clock ≤ 100000) (hid:∀ x ∈ W.hp,0 ≤ x.id ∧ x.id < (W.gs.length:Int)) :
  Calls Tryz.prog 69 #[.pointer (some ⟨p,0,none⟩)] w fun r w'=>∃ ra rc D',r = .returned (.slice ra (tickM W).2.length rc) ∧ D'.fits (tickM W).1 ∧ Own w0 w' (RowGA 1 ra rc (tickM W).2.length (intc (tickM W).2) :: (wparts p (tickM W).1 D' T ++ R)):=by
 have et:tickM W = (wokeM { W with clock:=W.clock + 1,hp:=(wakes W.hp ((W.clock:Int) + 1)).2 } (wakes W.hp ((W.clock:Int) + 1)).1,(wakes W.hp ((W.clock:Int) + 1)).1.map (·.id)):=by
  unfold tickM;rw [if_pos hen]
 rw [et]
 obtain ⟨L,hL⟩:∃ L,L = (wakes W.hp ((W.clock:Int) + 1)).1:=⟨_,rfl⟩
 obtain ⟨M,hM⟩:∃ M,M = (wakes W.hp ((W.clock:Int) + 1)).2:=⟨_,rfl⟩
 have hperm:=(wakes_perm _ W.hp ((W.clock:Int) + 1) (Nat.le_refl _)).1
 rw [← hL,← hM] at hperm
 have hlen:=hperm.length_eq
 rw [List.length_append] at hlen
 have hLl:L.length ≤ 100000:=by omega
 have hLid:∀ x ∈ L,0 ≤ x.id ∧ x.id < (W.gs.length:Int):=fun x hx=>hid x (hperm.mem_iff.1 (List.mem_append.2 (.inl hx)))
 have p9:=(h.cel 0 rfl 9 _ rfl).1
 rw [hen] at p9
 have p7:=h.cel 0 rfl 7 _ rfl
 obtain ⟨p7,q7⟩:=p7
 have o1:Own w0 (w.setCell ⟨p,7,none⟩ (.int .u64 ((W.clock:Int) + 1))) (wparts p { W with clock:=W.clock + 1 } D T ++ R):=h.setAt 0 rfl 7 _
 have HW:=Lib.hid (fun (wx:World) (hx:Own w0 wx (wparts p { W with clock:=W.clock + 1 } D T ++ R))=>wake_w hx ((W.clock:Int) + 1) hl)
 simp only at HW
 rw [← hL,← hM] at HW
 rw [← hL,← hM]
 have HF:Hid (D.fits { W with clock:=W.clock + 1,hp:=M }):=Lib.hid ⟨hf.f,hf.g,hf.c,hf.n,hf.l,hf.k⟩
 have HID:=Lib.hid hLid
 have H1:=Lib.hid o1
 generalize hN:L.length = N at *
 have HN:=Lib.hid hN
 obtain ⟨i0,hi0,hz0,hz1,hz2⟩:=info_parts info_int
 have Hi:=Lib.hid hi0;clear hi0
 have Hz0:=Lib.hid hz0;clear hz0
 have Hz1:=Lib.hid hz1;clear hz1
 have Hz2:=Lib.hid hz2;clear hz2
 generalize hrr:(wokeM { W with clock:=W.clock + 1,hp:=M } L,L.map fun x=>x.id) = rr
 have HRR:=Lib.hid hrr
 clear h hf hen hid et hL hM hperm hlen hLid o1 hN hrr
 go_enter Tryz.func69,Tryz.ntmps69
 go_upto_region 5 with fail
 generalize w.setCell ⟨p,7,none⟩ (.int .u64 ((W.clock:Int) + 1)) = w1 at *
 clear p7 q7 p9
 have x7:w1.cell? ⟨p,7,none⟩ = some (.int .u64 ((W.clock:Int) + 1)):=(H1.out.cel 0 rfl 7 _ rfl).1
 have HWX:=Lib.hid (HW.out _ (H1.out.step (below_dN w1 1)))
 have HB:Hid (∀ wx,Below w1.heap.size w1 wx → wx.cell? ⟨p,7,none⟩ = some (.int .u64 ((W.clock:Int) + 1))):=Lib.hid (fun wx hb=>cell_below x7 hb)
 refine wp_region_lexK (fun wx=>wx.cell? ⟨p,7,none⟩ = some (.int .u64 ((W.clock:Int) + 1))) 10 0 (Array.replicate 10 false) #[true,true,true,true,true,true,true,true,true,true] (by kernel_rfl) (by kernel_rfl) ?_
 refine wpAnyK_seg 0 7 _ #[true,true,true,true,true,true,true,false,false,false] 3 (by kernel_rfl) noPanic_put (HB.out _ (below_dN w1 1)) (by kernel_rfl) ?_
 simp only [List.take_succ_cons,List.take_zero,List.drop_zero]
 repeat ((first | refine wpSegH_no (by rfl) ?_ | (refine wpSegH_yes (by rfl) ?_;apply Exists.intro;apply And.intro;(· (intro wx hS;(try dsimp only at hS);go_simp;first | done | with_reducible rfl))));simp only [Act.put,List.setIfInBounds_toArray,List.set_cons_zero,List.set_cons_succ])
 refine wpSegH_nil ?_
 refine wpAnyK_seg 9 1 _ #[true,true,true,true,true,true,true,false,false,true] 2 (by kernel_rfl) noPanic_put (HB.out _ (below_dN w1 1)) (by kernel_rfl) ?_
 simp only [List.take_succ_cons,List.take_zero,List.drop_succ_cons,List.drop_zero]
 repeat ((first | refine wpSegH_no (by rfl) ?_ | (refine wpSegH_yes (by rfl) ?_;apply Exists.intro;apply And.intro;(· (intro wx hS;(try dsimp only at hS);go_simp;first | done | with_reducible rfl))));simp only [Act.put,List.setIfInBounds_toArray,List.set_cons_zero,List.set_cons_succ])
 refine wpSegH_nil ?_
 refine wpAnyK_one 7 _ #[true,true,true,true,true,true,true,true,false,true] 1 (by kernel_rfl) (fun K hK=>?_)
 have HKK:=Lib.hid hK
 clear hK
 simp only [List.drop_succ_cons,List.drop_zero]
 refine headH_mk (by rfl) ?_
 go_simp
 refine HWX.out.mono ?_
 rintro r w2 ⟨v5,sv',rfl,ho⟩
 obtain ⟨Fi,⟨-,hit⟩,-⟩:=ho.head
 have x8:w2.cell? ⟨p,7,none⟩ = some (.int .u64 ((W.clock:Int) + 1)):=(ho.cel 1 rfl 7 _ rfl).1
 obtain ⟨a5,c5,hv5,hc5⟩:=hit.slice
 rw [HN.out] at hv5 hc5
 subst hv5
 refine HKK.out _ _ (x8) ?_
 clear HKK K
 refine wpAnyK_seg 8 1 _ #[true,true,true,true,true,true,true,true,true,true] 0 (by kernel_rfl) noPanic_put (x8) (by kernel_rfl) ?_
 simp only [List.take_succ_cons,List.take_zero,List.drop_succ_cons,List.drop_zero]
 repeat ((first | refine wpSegH_no (by rfl) ?_ | (refine wpSegH_yes (by rfl) ?_;apply Exists.intro;apply And.intro;(· (intro wx hS;(try dsimp only at hS);go_simp;first | done | with_reducible rfl))));simp only [Act.put,List.setIfInBounds_toArray,List.set_cons_zero,List.set_cons_succ])
 refine wpSegH_nil ?_
 refine wpAnyK_next ?_
 refine wpAnyK_done (by kernel_rfl) (NoPanic.normal ?_)
 have H2:Hid (Own w0 w2 (wparts p { W with clock:=W.clock + 1,hp:=M } { D with sv:=sv' } T ++ (RowGA 1 none 0 0 [] :: ItemsA (.slice a5 N c5) L :: R))):=Lib.hid (((ho.perm List.perm_middle.symm).rowNil0 1).perm List.perm_middle.symm)
 have HF2:Hid (({ D with sv:=sv' }:Wa).fits { W with clock:=W.clock + 1,hp:=M }):=Lib.hid ⟨HF.out.f,HF.out.g,HF.out.c,HF.out.n,HF.out.l,HF.out.k⟩
 obtain ⟨D2,hD2⟩:∃ D2:Wa,D2 = { D with sv:=sv' }:=⟨_,rfl⟩
 obtain ⟨W2,hW2⟩:∃ W2:Wd,W2 = { W with clock:=W.clock + 1,hp:=M }:=⟨_,rfl⟩
 have hg2:W2.gs.length = W.gs.length:=by rw [hW2]
 rw [← hD2,← hW2] at H2 HF2
 have HRR2:Hid ((wokeM W2 L,L.map fun x=>x.id) = rr):=Lib.hid (by rw [hW2];exact HRR.out)
 clear HRR
 have HG2:=Lib.hid hg2
 clear ho hit x8 x7 HWX HW hD2 hW2 HF HB hg2
 go_wp2_with fail
 go_loopw [3,27] (fun sv iv wr=>∃ i:Nat,∃ ra rc,i ≤ N ∧ iv = .int .i64 i ∧ sv = .slice ra i rc ∧ Hid (Own w0 wr (wparts p (wokeM W2 (L.take i)) D2 T ++ (RowGA 1 ra rc i (intc ((L.take i).map (·.id))) :: ItemsA (.slice a5 N c5) L :: R)))) (fun _ iv _=>N - (intOf iv).toNat)
 case atStart=>exact ⟨0,none,0,by omega,rfl,rfl,H2⟩
 case round =>
  obtain ⟨i,ra,rc,hi,rfl,rfl,hr⟩:=hrel
  clear H2
  by_cases hlt:i < N
  ·have hil:i < L.length:=by rw [HN.out];exact hlt
   have hli:(i:Int) < (N:Int):=by omega
   have hi0:(0:Int) ≤ (i:Int):=by omega
   obtain ⟨Fi,⟨-,hit⟩,-⟩:=hr.out.fact 11 rfl
   obtain ⟨g5,cap5,hv5,hcap5⟩:=hit.form (by omega)
   rw [HN.out] at hv5
   simp only [Value.slice.injEq] at hv5
   obtain ⟨rfl,-,rfl⟩:=hv5
   obtain ⟨y0,y1,y2⟩:=hit.cell i hil
   have hidx:=HID.out (gI L i) (by rw [gI_of hil];exact List.getElem_mem _)
   have hsn:=ids_snoc L i hil
   obtain ⟨ids,hids⟩:∃ ids,ids = intc ((L.take i).map (·.id)):=⟨_,rfl⟩
   rw [← hids] at hsn hr
   clear hids
   have htk:L.take (i + 1) = L.take i ++ [gI L i]:=by rw [List.take_succ_eq_append_getElem hil,gI_of hil]
   have hwk:wokeM W2 (L.take (i + 1)) = (wokeM W2 (L.take i)).setSt (gI L i).id.toNat 1:=by rw [htk,wokeM_snoc]
   have hgl:(wokeM W2 (L.take i)).gs.length = W2.gs.length:=wokeM_len _ _
   have HWK:=Lib.hid hwk
   have HSN:=Lib.hid hsn
   have HFI:=Lib.hid (wokeM_fits (L.take i) _ HF2.out)
   obtain ⟨W3,hW3⟩:∃ W3,W3 = wokeM W2 (L.take i):=⟨_,rfl⟩
   rw [← hW3] at hr HWK HFI hgl
   generalize gI L i = x at *
   obtain ⟨xa,xs,xi⟩:=x
   simp only at y0 y1 y2 hidx HWK HSN
   obtain ⟨k,rfl⟩:∃ k:Nat,xi = (k:Int):=⟨xi.toNat,by omega⟩
   have hk:k < W3.gs.length:=by have:=HG2.out;omega
   have oA:=hr.out.step (below_alloc1 wr (.cells #[.int .u64 xa,.int .u64 xs,.int .i64 (k:Int)] 136))
   have hbx:=CellsAt.new wr [.int .u64 xa,.int .u64 xs,.int .i64 (k:Int)] 136 rfl
   have HA:=Lib.hid (hr.out.alloc [.int .u64 xa,.int .u64 xs,.int .i64 (k:Int)] 136 (b:=wr.heap.size) rfl)
   clear hit hsn htk hwk hW3 hr oA hbx hil hgl
   go_upto_region 8 with fail
   generalize wr.alloc (.cells #[.int .u64 xa,.int .u64 xs,.int .i64 (k:Int)] 136) = wA at *
   generalize wr.heap.size = bx at *
   have oB:Own w0 wA (wparts p W3 D2 T ++ (CelA bx [.int .u64 xa,.int .u64 xs,.int .i64 (k:Int)] :: RowGA 1 ra rc i ids :: ItemsA (.slice (some ⟨g5,0,none⟩) N c5) L :: R)):=HA.out.perm List.perm_middle.symm
   obtain ⟨s,cap,hs⟩:=HFI.out.sk_at hk
   obtain ⟨b,off,haa,st0,st1,-,-⟩:=all_at oB hk hs
   have p2:wA.cell? ⟨p,2,none⟩ = some (.slice (some ⟨b,off,none⟩) W3.gs.length D2.ac):=by rw [← haa];exact (oB.cel 0 rfl 2 _ rfl).1
   obtain ⟨x2,-⟩:=oB.cel 10 rfl 2 _ rfl
   have HB9:Hid (Own w0 ((wA.setCell ⟨b,off + k * 2,none⟩ (.int .i64 1)).drew) (wparts p (W3.setSt k 1) D2 T ++ (CelA bx [.int .u64 xa,.int .u64 xs,.int .i64 (k:Int)] :: RowGA 1 ra rc i ids :: ItemsA (.slice (some ⟨g5,0,none⟩) N c5) L :: R))):=Lib.hid ((own_st oB HFI.out hk haa 1).step (below_drew1 _))
   have hkl:(k:Int) < (W3.gs.length:Int):=by omega
   have hk0:(0:Int) ≤ (k:Int):=by omega
   generalize W3.gs.length = G3 at *
   clear oB haa hs HA
   refine wp_region_lexK (fun wx=>∃ nq,wx = World.drewN (wA) nq) 8 1 (Array.replicate 9 false) #[true,true,true,true,true,true,true,true,false] (by kernel_rfl) (by kernel_rfl) ?_
   refine wpAnyK_seg 0 8 _ #[true,true,true,true,true,true,true,true,false] 0 (by kernel_rfl) noPanic_put (drew_q wA) (by kernel_rfl) ?_
   simp only [List.take_succ_cons,List.take_zero,List.drop_zero]
   repeat ((first | refine wpSegH_no (by rfl) ?_ | (refine wpSegH_yes (by rfl) ?_;apply Exists.intro;apply And.intro;(· (rintro wx ⟨nq,rfl⟩;go_simp;first | done | with_reducible rfl))));simp only [Act.put,List.setIfInBounds_toArray,List.set_cons_zero,List.set_cons_succ])
   refine wpSegH_nil ?_
   refine wpAnyK_next ?_
   refine wpAnyK_seq 8 (by kernel_rfl) ?_
   simp only [List.drop_succ_cons,List.drop_zero]
   go_wp2_with fail
   refine NoPanic.normal ?_
   have H9:=HB9
   clear HB9 st0 st1 p2 x2
   go_upto_region 9 with fail
   generalize (wA.setCell ⟨b,off + k * 2,none⟩ (.int .i64 1)).drew = wB at *
   obtain ⟨x2,-⟩:=H9.out.cel 10 rfl 2 _ rfl
   have HC:=Lib.hid (H9.out.step (below_alloc1 wB (.cells #[.int .i64 (k:Int)] 3)))
   clear H9
   go_wp2_with (at_builtin;go_loud (refine wpList_append_rowG rfl _ _ 38 rfl 3 i0 _ Tryz.underlying38 Hi.out Hz0.out Hz1.out Hz2.out rfl (by decide) (by decide) (n:=i) (m:=1) (cs:=ids) (ds:=[.int .i64 (k:Int)]) (by rfl) (by rfl) (HC.out.rowG 11 rfl) (CellsAt.new _ [.int .i64 (k:Int)] _ rfl) rfl (by simp [Value.oneCell']) (by omega) ?_))
   intro a9 c9 w9 k9 ch9 f9
   have o9:=Own.rowTurn (HC.out.pick 11 rfl) k9 ch9 (fun x hx=>by simpa using f9 x hx)
   have HE:Hid (Own w0 w9 (wparts p (wokeM W2 (L.take (i + 1))) D2 T ++ (RowGA 1 a9 c9 (i + 1) (intc ((L.take (i + 1)).map (·.id))) :: ItemsA (.slice (some ⟨g5,0,none⟩) N c5) L :: R))):=Lib.hid (by
    rw [HWK.out,HSN.out,Int.toNat_natCast]
    have o10:Own w0 w9 (RowGA 1 a9 c9 (i + 1) (ids ++ [.int .i64 (k:Int)]) :: (wparts p (W3.setSt k 1) D2 T ++ (ItemsA (.slice (some ⟨g5,0,none⟩) N c5) L :: R))):=(o9.pick 11 rfl).drop
    exact o10.perm List.perm_middle.symm)
   clear o9 k9 ch9 f9 HC HWK HSN
   go_wp2
   exact ⟨⟨i + 1,a9,c9,by omega,by go_num,rfl,HE⟩,by simp [intOf];omega⟩
  ·obtain rfl:i = N:=by omega
   have HE:Hid (D2.fits rr.1 ∧ Own w0 wr (RowGA 1 ra rc rr.2.length (intc rr.2) :: (wparts p rr.1 D2 T ++ R)) ∧ rr.2.length = i):=Lib.hid (by
    have e:L.take i = L:=by rw [← HN.out,List.take_length]
    rw [← HRR2.out]
    have h1:=hr.out
    rw [e] at h1
    refine ⟨wokeM_fits L _ HF2.out,?_,by simp [HN.out]⟩
    have h2:=h1.perm List.perm_middle
    have h3:Own w0 wr (ItemsA (.slice a5 i c5) L :: (RowGA 1 ra rc i (intc (L.map (·.id))) :: (wparts p (wokeM W2 L) D2 T ++ R))):=h2.perm (by
     refine (List.Perm.cons _ List.perm_middle).trans (List.Perm.swap _ _ _))
    have h4:=h3.drop
    rw [List.length_map,HN.out]
    exact h4)
   clear hr HRR2
   go_wp2
   go_ret
   exact ⟨ra,rc,D2,by rw [HE.out.2.2];rfl,HE.out.1,HE.out.2.1⟩
theorem tick_w {w0 w:World} {p:Nat} {T:List Value} {W:Wd} {R:List Asr} {B:Nat} (h:Own w0 w (WldA p W T :: R)) (wf:WF B W) (hB:B ≤ 80000) :
  Calls Tryz.prog 69 #[.pointer (some ⟨p,0,none⟩)] w fun r w'=>∃ ra rc,r = .returned (.slice ra (tickM W).2.length rc) ∧ Own w0 w' (RowGA 1 ra rc (tickM W).2.length (intc (tickM W).2) :: WldA p (tickM W).1 T :: R):=by
 obtain ⟨D,hf,ho⟩:=h.wld
 by_cases hen:W.en = 0
 ·refine (wtick_any ho hf hen (by have:=wf.hp.1;omega) (by have:=wf.clock;omega) (fun x hx=>(wf.hp.2.2.1 x hx).1)).mono (fun r w' hh=>?_)
  obtain ⟨ra,rc,D',h1,h2,h3⟩:=hh
  exact ⟨ra,rc,h1,Own.wldBack h2 h3⟩
 ·have et:tickM W = (W,[]):=by unfold tickM;rw [if_neg hen]
  rw [et]
  have p9:=(ho.cel 0 rfl 9 _ rfl).1
  have H:=Lib.hid (Own.toWld hf ho)
  have hb:(W.en != 0) = true:=by rw [bne_iff_ne];exact hen
  generalize W.en = e at *
  clear h hf ho et
  go_enter Tryz.func69,Tryz.ntmps69
  go_wp2
  go_ret
  exact ⟨none,0,rfl,Own.rowNil0 1 H.out⟩
def up13 (G:Gt):Bool:=decide (G.st = 1) || decide (G.st = 3)
theorem awaited_any (w:World) (st:Int) (v:Value):Calls Tryz.prog 50 #[.agg #[.int .i64 st,v]] w fun r w'=>r = .returned (.bool (decide (st = 1) || decide (st = 3))) ∧ Below w.heap.size w w':=by
 have hb:=below_alloc1 w (.cells #[.int .i64 st,v] 115)
 have HB:=Lib.hid hb
 clear hb
 by_cases h1:st = 1
 ·subst h1
  go_enter Tryz.func50,Tryz.ntmps50
  go_wp2
  go_ret
  exact ⟨rfl,HB.out⟩
 ·have h2:(st == 1) = false:=by rw [beq_eq_false_iff_ne];exact h1
  have h3:(decide (st = 1) || decide (st = 3)) = (st == 3):=by rw [decide_eq_false h1,Bool.false_or];by_cases h:st = 3 <;> simp [h]
  rw [h3]
  clear h3
  go_enter Tryz.func50,Tryz.ntmps50
  go_wp2
  go_ret
  exact ⟨rfl,HB.out⟩
theorem indexg_any (w:World) (aa:Option Addr) (ac:Nat) (sk:List (Nat × Nat)) (gs:List Gt) (h:CellsAt w aa (gcs sk gs)) (hs:sk.length = gs.length) (hl:gs.length ≤ 1000000) :
  Calls Tryz.prog 63 #[.slice aa gs.length ac,.func (.func 50) #[] #[]] w fun r w'=>∃ k:Int,r = .returned (.int .i64 k) ∧ decide (k ≥ 0) = gs.any up13 ∧ Below w.heap.size w w':=by
 obtain ⟨N,hN⟩:∃ N,N = gs.length:=⟨_,rfl⟩
 rw [← hN] at hl ⊢
 have HN:=Lib.hid hN
 have HC:=Lib.hid (fun (i:Nat) (hi:i < N)=>(by
  obtain ⟨b,off,h1,h2,h3⟩:=gcs_at h (g:=i) (List.getElem?_eq_getElem (by omega)) (List.getElem?_eq_getElem (by omega))
  exact ⟨b,off,_,_,h1,List.take_succ_eq_append_getElem (by omega),h2,h3⟩:∃ b off G v,aa = some ⟨b,off,none⟩ ∧ gs.take (i + 1) = gs.take i ++ [G] ∧ w.cell? ⟨b,off + i * 2,none⟩ = some (.int .i64 G.st) ∧ w.cell? ⟨b,off + i * 2 + 1,none⟩ = some v))
 have en:∀ (args:Array Value) (w:World),(callFunc 50 args).run Tryz.prog w = .ok (.enter 50 args) w:=fun _ _=>by kernel_rfl
 clear h hs hN
 go_enter Tryz.func63,Tryz.ntmps63
 go_wp2_with fail
 go_loopw [8] (fun iv wr=>∃ i:Nat,i ≤ N ∧ iv = .int .i64 i ∧ Hid ((gs.take i).any up13 = false ∧ Below w.heap.size w wr)) (fun iv _=>N - (intOf iv).toNat)
 case atStart=>exact ⟨0,by omega,rfl,Lib.hid ⟨rfl,Below.refl _ _⟩⟩
 case round =>
  obtain ⟨i,hi,rfl,hb⟩:=hrel
  by_cases hlt:i < N
  ·have hlt2:(i:Int) < (N:Int):=by omega
   have hi0:(0:Int) ≤ (i:Int):=by omega
   obtain ⟨b,off,G,v,rfl,hG,c0,c1⟩:=HC.out i hlt
   have d0:=cell_below c0 hb.out.2
   have d1:=cell_below c1 hb.out.2
   have HG:=Lib.hid hG
   clear hG
   go_wp2_with fail
   refine (awaited_any wr G.st v).mono ?_
   rintro r w1 ⟨rfl,hb1⟩
   have HB1:=Lib.hid (below_on hb.out.2 hb1)
   have HNO:=Lib.hid hb.out.1
   clear hb1 hb d0 d1
   have e:(decide (G.st = 1) || decide (G.st = 3)) = up13 G:=rfl
   rw [e]
   cases hu:up13 G with
   | true =>
    go_wp2
    go_ret
    refine ⟨_,rfl,?_,HB1.out⟩
    have hmem:G ∈ gs:=List.mem_of_mem_take (i:=i + 1) (by rw [HG.out];simp)
    rw [List.any_eq_true.2 ⟨G,hmem,hu⟩]
    exact decide_eq_true (by omega)
   | false =>
    have H2:Hid ((gs.take (i + 1)).any up13 = false ∧ Below w.heap.size w w1):=Lib.hid ⟨by rw [HG.out,List.any_append,HNO.out,Bool.false_or,List.any_cons,hu];rfl,HB1.out⟩
    clear hu HNO HB1
    go_wp2
    exact ⟨⟨i + 1,by omega,by go_num,H2⟩,by simp [intOf];omega⟩
  ·obtain rfl:i = N:=by omega
   go_wp2
   go_ret
   exact ⟨_,rfl,by have:=hb.out.1;rw [HN.out,List.take_length] at this;rw [this];rfl,hb.out.2⟩
theorem containsg_any (w:World) (aa:Option Addr) (ac:Nat) (sk:List (Nat × Nat)) (gs:List Gt) (h:CellsAt w aa (gcs sk gs)) (hs:sk.length = gs.length) (hl:gs.length ≤ 1000000) :
  Calls Tryz.prog 51 #[.slice aa gs.length ac,.func (.func 50) #[] #[]] w fun r w'=>r = .returned (.bool (gs.any up13)) ∧ Below w.heap.size w w':=by
 have HI:=Lib.hid (indexg_any w aa ac sk gs h hs hl)
 generalize gs.length = N at *
 generalize gs.any up13 = u at *
 clear h hs hl
 go_enter Tryz.func51,Tryz.ntmps51
 go_wp2_with fail
 refine HI.out.mono ?_
 rintro r w1 ⟨k,rfl,rfl,hb⟩
 have HB:=Lib.hid hb
 clear hb
 go_wp2
 go_ret
 exact ⟨rfl,HB.out⟩
theorem stuck_w {w0 w:World} {p:Nat} {T:List Value} {W:Wd} {R:List Asr} (h:Own w0 w (WldA p W T :: R)) (hl:W.gs.length ≤ 1000000):Calls Tryz.prog 35 #[.pointer (some ⟨p,0,none⟩)] w fun r w'=>r = .returned (.bool (stuckM W)) ∧ Below w.heap.size w w':=by
 obtain ⟨D,hf,ho⟩:=h.wld
 have c8:=(ho.cel 0 rfl 9 _ rfl).1
 have c2:=(ho.cel 0 rfl 2 _ rfl).1
 have HCT:=Lib.hid (containsg_any w D.aa D.ac D.sk W.gs (ho.rowG 2 rfl).cells hf.g hl)
 have e:stuckM W = (decide (W.en = 0) && !W.gs.any up13):=rfl
 rw [e]
 generalize W.gs.any up13 = u at *
 generalize W.gs.length = N at *
 generalize hen:W.en = en at *
 clear h hf ho e hen hl
 by_cases h0:en = 0
 ·subst h0
  go_enter Tryz.func35,Tryz.ntmps35
  go_wp2_with (go_at_call 51;refine HCT.out.mono ?_;rintro r w1 ⟨rfl,hb⟩)
  have HB:=Lib.hid hb
  clear hb
  go_wp2
  go_ret
  exact ⟨by simp,HB.out⟩
 ·have h1:(en == 0) = false:=by rw [beq_eq_false_iff_ne];exact h0
  rw [decide_eq_false h0,Bool.false_and]
  go_enter Tryz.func35,Tryz.ntmps35
  go_wp2
  go_ret
  exact ⟨rfl,Below.refl _ _⟩
def asksE (W:Wd) (k:Nat):Option (Int × Int):=if W.lets (k:Int) ∧ 1 ≤ askN W ((W.ins k).getD (0,0,0,0)) then some (askK ((W.ins k).getD (0,0,0,0)),(askN W ((W.ins k).getD (0,0,0,0)):Int)) else none
theorem askN_lt {B:Nat} {W:Wd} (wf:WF B W) (k:Nat):askN W ((W.ins k).getD (0,0,0,0)) ≤ 1099511627776:=by
 unfold askN
 split
 ·rename_i e
  cases hx:W.ins k with
  | none=>rw [hx] at e;exact absurd e (by decide)
  | some x =>
   rw [hx] at e
   simp only [Option.getD_some] at e ⊢
   have:=((wf.insOk hx).1.o21 e).2
   omega
 ·split
  ·rename_i e
   refine Nat.le_trans (enF_len _ _ _) ?_
   unfold Wd.cas
   rw [if_neg (by omega),if_neg (by omega)]
   have:=wf.p.kl
   simp only [List.length_take,List.length_drop]
   omega
  ·omega
theorem perm_mid {α:Type} (Q A R S:List α):(((Q ++ (A ++ R)) ++ S)).Perm (A ++ (Q ++ (R ++ S))):=by
 rw [List.append_assoc,List.append_assoc]
 exact List.perm_append_comm_assoc Q A (R ++ S)
theorem sd_exec {w0 w:World} {b sp:Nat} {L:Sl} {X:Sd} {R:List Asr} {D:Drw sp} {s:D.T} {j B:Nat} (h:SAt w0 w b sp L X (D.A s ++ R)) (hok:D.ok (j + 1) s) (wf:WF B X.W) (hB:B ≤ 80000) (k:Nat) :
  Calls Tryz.prog 72 #[.pointer (some ⟨b,0,none⟩),.int .i64 (k:Int),.func (.func 42) #[.pointer (some ⟨sp,0,none⟩)] #[]] w fun r w' =>
   (∃ v s' ra rc,Fit D s (asksE X.W k) v s' ∧ D.ok j s' ∧ r = .returned (.agg #[.bool (execM X.W (k:Int) v).2.1,.slice ra (execM X.W (k:Int) v).2.2.length rc]) ∧ SAt w0 w' b sp L { X with W:=(execM X.W (k:Int) v).1 } (RowGA 1 ra rc (execM X.W (k:Int) v).2.2.length (intc (execM X.W (k:Int) v).2.2) :: (D.A s' ++ R))) ∨
   (∃ ch s' kd n,r = .panicked ch ∧ asksE X.W k = some (kd,n) ∧ D.Dp s kd n r s' ∧ D.ok j s' ∧ SAt w0 w' b sp L X (D.A s' ++ R)):=by
 obtain ⟨T,Q,h1,h2⟩:=h.world
 have en:∀ (args:Array Value) (w:World),(callFunc 42 args).run Tryz.prog w = .ok (.enter 42 args) w:=fun _ _=>by kernel_rfl
 have hself:({ X with W:=X.W }:Sd) = X:=rfl
 have hal:=askN_lt wf k
 refine (exec_w (fst:=#[.pointer (some ⟨sp,0,none⟩)]) (cap:=#[]) (Qd:=fun v R'=>∃ s',(0 ≤ v ∧ v < (askN X.W ((X.W.ins k).getD (0,0,0,0)):Int)) ∧ D.Dv s (askK ((X.W.ins k).getD (0,0,0,0))) (askN X.W ((X.W.ins k).getD (0,0,0,0)):Int) v s' ∧ D.ok j s' ∧ R' = Q ++ (D.A s' ++ R))
  (Qp:=fun r R'=>∃ s',D.Dp s (askK ((X.W.ins k).getD (0,0,0,0))) (askN X.W ((X.W.ins k).getD (0,0,0,0)):Int) r s' ∧ D.ok j s' ∧ R' = Q ++ (D.A s' ++ R)) h1 wf hB (k:Int) en (fun _ hn=>?_)).mono (fun r w' hh=>?_)
 ·simp only [Int.toNat_natCast] at hn ⊢
  intro Z dq w' hD
  obtain ⟨S,k1,k2⟩:=hD.tail
  have k3:Own w0 w' (D.A s ++ (Q ++ (R ++ S))):=k1.perm (perm_mid _ _ _ _)
  refine (D.hd s _ _ _ j hok ⟨by omega,by omega⟩ k3).mono (fun r w'' hh=>?_)
  rcases hh with ⟨v,s',a1,a2,a3,a4,a5⟩ | ⟨ch,s',a1,a2,a3,a4⟩
  ·exact .inl ⟨v,_,a1,⟨s',a2,a3,a4,rfl⟩,k2 _ _ (a5.perm (perm_mid _ _ _ _).symm)⟩
  ·exact .inr ⟨ch,_,a1,⟨s',a2,a3,rfl⟩,k2 _ _ (a4.perm (perm_mid _ _ _ _).symm)⟩
 ·simp only [ExecW,Int.toNat_natCast] at hh
  rcases hh with ⟨v,R',ra,rc,hq,h3,h4⟩ | ⟨ch,R',h3,h4,h5,h6⟩
  ·rcases hq with ⟨hn,rfl⟩ | ⟨hn,s',hv,hdv,hok',rfl⟩
   ·have hno:asksE X.W k = none:=by
     unfold asksE
     rw [if_neg]
     rintro ⟨c1,c2⟩
     rcases hn with hn | hn
     ·exact hn c1
     ·omega
    have e:execM X.W (k:Int) v = execM X.W (k:Int) 0:=execM_none wf (fun hl=>by
     rw [Int.toNat_natCast]
     rcases hn with hn | hn
     ·exact absurd hl hn
     ·exact hn) v 0
    rw [e] at h3 h4
    refine .inl ⟨0,s,ra,rc,.inl ⟨hno,rfl,rfl⟩,D.less _ _ hok,h3,?_⟩
    refine h2 _ _ _ (h4.perm ?_)
    exact (List.Perm.swap _ _ _).trans (List.Perm.cons _ List.perm_middle.symm)
   ·have hso:asksE X.W k = some (askK ((X.W.ins k).getD (0,0,0,0)),(askN X.W ((X.W.ins k).getD (0,0,0,0)):Int)):=by unfold asksE;rw [if_pos hn]
    refine .inl ⟨v,s',ra,rc,.inr ⟨_,_,hso,hv,hdv⟩,hok',h3,?_⟩
    refine h2 _ _ _ (h4.perm ?_)
    exact (List.Perm.swap _ _ _).trans (List.Perm.cons _ List.perm_middle.symm)
  ·obtain ⟨s',hdp,hok',rfl⟩:=h5
   have hso:asksE X.W k = some (askK ((X.W.ins k).getD (0,0,0,0)),(askN X.W ((X.W.ins k).getD (0,0,0,0)):Int)):=by unfold asksE;rw [if_pos h4]
   exact .inr ⟨ch,s',_,_,h3,hso,hdp,hok',h2 _ _ _ h6⟩
theorem sd_tick {w0 w:World} {b sp:Nat} {L:Sl} {X:Sd} {R:List Asr} {B:Nat} (h:SAt w0 w b sp L X R) (wf:WF B X.W) (hB:B ≤ 80000) :
  Calls Tryz.prog 69 #[.pointer (some ⟨b,0,none⟩)] w fun r w'=>∃ ra rc,r = .returned (.slice ra (tickM X.W).2.length rc) ∧ SAt w0 w' b sp L { X with W:=(tickM X.W).1 } (RowGA 1 ra rc (tickM X.W).2.length (intc (tickM X.W).2) :: R):=by
 obtain ⟨T,Q,h1,h2⟩:=h.world
 refine (tick_w h1 wf hB).mono (fun r w' hh=>?_)
 obtain ⟨ra,rc,h3,h4⟩:=hh
 exact ⟨ra,rc,h3,h2 _ _ _ (h4.perm ((List.Perm.swap _ _ _).trans (List.Perm.cons _ List.perm_middle.symm)))⟩
theorem sd_end {w0 w:World} {b sp:Nat} {L:Sl} {X:Sd} {R:List Asr} (h:SAt w0 w b sp L X R):Calls Tryz.prog 34 #[.pointer (some ⟨b,0,none⟩)] w fun r w'=>r = .returned (.tuple #[.int .i64 X.W.en,.int .i64 X.W.why]) ∧ ∃ k,w' = w.drewN k:=by
 obtain ⟨T,Q,h1,h2⟩:=h.world;exact end_w h1
theorem sd_stuck {w0 w:World} {b sp:Nat} {L:Sl} {X:Sd} {R:List Asr} (h:SAt w0 w b sp L X R) (hl:X.W.gs.length ≤ 1000000):Calls Tryz.prog 35 #[.pointer (some ⟨b,0,none⟩)] w fun r w'=>r = .returned (.bool (stuckM X.W)) ∧ Below w.heap.size w w':=by
 obtain ⟨T,Q,h1,h2⟩:=h.world;exact stuck_w h1 hl
theorem sd_status {w0 w:World} {b sp:Nat} {L:Sl} {X:Sd} {R:List Asr} (h:SAt w0 w b sp L X R) (g:Int):Calls Tryz.prog 74 #[.pointer (some ⟨b,0,none⟩),.int .i64 g] w fun r w'=>r = .returned (.int .i64 (statusM X.W g)) ∧ w' = w:=by
 obtain ⟨T,Q,h1,h2⟩:=h.world;exact status_w h1 g
theorem stat_any {w0 w:World} {b sp:Nat} {L:Sl} {X:Sd} {R:List Asr} (h:SAt w0 w b sp L X R) (hl:X.W.gs.length ≤ 1000000) :
  Calls Tryz.prog 16 #[.pointer (some ⟨b,0,none⟩)] w fun r w'=>r = .returned (.int .i64 (overM X)) ∧ Below w.heap.size w w':=by
 have HE:=Lib.hid (sd_end h)
 have HS:=Lib.hid (fun k=>sd_stuck (h.step (below_dN w k)) hl)
 unfold overM
 generalize stuckM X.W = st at *
 generalize X.W.en = en at *
 clear h hl
 go_enter Tryz.func16,Tryz.ntmps16
 go_wp2_with fail
 refine HE.out.mono ?_
 rintro r w1 ⟨rfl,k,rfl⟩
 by_cases e1:en = 1
 ·subst e1
  go_wp2
  go_ret
  exact ⟨rfl,below_dN w k⟩
 ·have b1:(en == 1) = false:=by simpa using e1
  by_cases e2:en = 2
  ·subst e2
   go_wp2
   go_ret
   exact ⟨rfl,below_dN w k⟩
  ·have b2:(en == 2) = false:=by simpa using e2
   go_wp2_with fail
   refine (HS.out k).mono ?_
   rintro r w2 ⟨rfl,hb⟩
   have HB:=Lib.hid (below_on (below_dN w k) hb)
   clear hb
   cases st with
   | true =>
    go_wp2
    go_ret
    exact ⟨by simp [e1,e2],HB.out⟩
   | false =>
    go_wp2
    go_ret
    exact ⟨by simp [e1,e2],HB.out⟩
theorem readyA_snoc:∀ (l:List Int) (X:Sd) (i:Nat) (g:Int),readyA X i (l ++ [g]) = { (readyA X i l).setP i { (readyA X i l).p i with q:=(mReady ((readyA X i l).p i).N ((readyA X i l).p i).q g (readyA X i l).gl).1 } with gl:=(mReady ((readyA X i l).p i).N ((readyA X i l).p i).q g (readyA X i l).gl).2.1 }
 | [],X,i,g=>rfl
 | h :: t,X,i,g=>by
  rw [List.cons_append]
  exact readyA_snoc t _ i g
section
variable {w0 w:World} {b sp:Nat} {L:Sl} {X:Sd} {R:List Asr}
theorem SAt.perm {R':List Asr} (h:SAt w0 w b sp L X R) (hp:R.Perm R'):SAt w0 w b sp L X R':=by
 obtain ⟨S,h1,h2⟩:=h.tail
 exact h2 _ _ (h1.perm (hp.append_right S))
theorem SAt.box (h:SAt w0 w b sp L X R) (l:List Value) (t:TypeId):SAt w0 (w.alloc (.cells l.toArray t)) b sp L X (CelA w.heap.size l :: R):=by
 obtain ⟨S,h1,h2⟩:=h.tail
 exact h2 _ _ (h1.alloc l t rfl)
theorem SAt.cel {q:Nat} {cs:List Value} (h:SAt w0 w b sp L X (CelA q cs :: R)) (k:Nat) (v:Value) (hk:cs[k]? = some v):w.cell? ⟨q,k,none⟩ = some v ∧ w.frozen? ⟨q,k,none⟩ = false:=by
 obtain ⟨S,h1,h2⟩:=h.tail
 exact Own.cel h1 0 rfl k v hk
theorem SAt.setBox {q:Nat} {cs:List Value} (h:SAt w0 w b sp L X (CelA q cs :: R)) (k:Nat) (v:Value):SAt w0 (w.setCell ⟨q,k,none⟩ v) b sp L X (CelA q (cs.set k v) :: R):=by
 obtain ⟨S,h1,h2⟩:=h.tail
 exact h2 _ _ (Own.set h1 k v)
theorem SAt.row {a:Option Addr} {cap n:Nat} {cs:List Value} {A:Asr} (h:SAt w0 w b sp L X (A :: RowGA 1 a cap n cs :: R)):RowG 1 w a cap n cs:=by
 obtain ⟨S,h1,h2⟩:=h.tail
 exact Own.rowG h1 1 rfl
end
def RunP (w0:World) (b sp:Nat) (L:Sl) (D:Drw sp) (s:D.T) (X:Sd) (R:List Asr) (j m k:Nat) (r:Ending) (w':World):Prop :=
 (∃ v s' ra rc,Fit D s (asksE X.W k) v s' ∧ D.ok j s' ∧ r = .returned (.slice ra (runM X m v).2.length rc) ∧ SAt w0 w' b sp L (runM X m v).1 (RowGA 1 ra rc (runM X m v).2.length (intc (runM X m v).2) :: (D.A s' ++ R))) ∨
 (∃ ch s' kd n,r = .panicked ch ∧ asksE X.W k = some (kd,n) ∧ D.Dp s kd n r s' ∧ D.ok j s' ∧ SAt w0 w' b sp L X (D.A s' ++ R))
theorem RunP.dry {w0:World} {b sp:Nat} {L:Sl} {D:Drw sp} {s:D.T} {X:Sd} {R:List Asr} {j m k:Nat} {w':World} {ch:List PanicEntry} {s':D.T} {kd n:Int} (h1:asksE X.W k = some (kd,n)) (h2:D.Dp s kd n (.panicked ch) s') (h3:D.ok j s') (h4:SAt w0 w' b sp L X (D.A s' ++ R)):RunP w0 b sp L D s X R j m k (.panicked ch) w':=.inr ⟨ch,s',kd,n,rfl,h1,h2,h3,h4⟩
theorem run_any {w0 w:World} {b sp:Nat} {L:Sl} {X:Sd} {R:List Asr} {D:Drw sp} {s:D.T} {j B:Nat} (h:SAt w0 w b sp L X (D.A s ++ R)) (hok:D.ok (j + 1) s) (wf:SdWF B X) (hB:B ≤ 80000) {m:Nat} (hm:m < X.ms.length) (hP:(X.m m).P ≠ -1) (hG:(X.m m).G ≠ -1) (hen:X.W.en = 0) {k:Nat} (hk:(X.m m).G = (k:Int)) :
  Calls Tryz.prog 60 #[.pointer (some ⟨b,0,none⟩),.int .i64 (m:Int)] w (RunP w0 b sp L D s X R j m k):=by
 obtain ⟨i,hPi,hi,hby⟩:=wf.at hm hP
 obtain ⟨pb,off,p,g,hpa,hld⟩:=h.pa hi
 obtain ⟨mb,off2,hma⟩:=h.ma hm
 obtain ⟨C13,c13⟩:=h.c13
 have c11:=h.c11
 obtain ⟨⟨z0,z1,z2⟩,f0,f1,f2⟩:=h.mach hm hma
 rw [hma] at c13
 rw [hPi] at z0
 rw [hk] at z1
 have hnp:=wf.np
 have hnm:=wf.nm
 have hmL:=wf.mL m
 have hmX:(m:Int) < (X.ms.length:Int):=by omega
 have hm0:(0:Int) ≤ (m:Int):=by omega
 have hiX:(i:Int) < (X.ps.length:Int):=by omega
 have hi0:(0:Int) ≤ (i:Int):=by omega
 have hLp:=hmL.2.2 hG
 obtain ⟨k',hk',hks,hkl⟩:=wf.lets hm hG
 have hkk:k' = k:=by omega
 subst hkk
 have hlets:X.W.lets (k':Int):=⟨hen,by omega,by omega,by simpa using hks⟩
 have HEX:=Lib.hid (fun (wx:World) (hx:SAt w0 wx b sp L X (D.A s ++ R))=>sd_exec hx hok wf.wf hB k')
 have HEX2:=Lib.hid (fun (wx:World) (q:Nat) (hx:SAt w0 wx b sp L X (D.A s ++ (CelA q [.bool false,.slice none 0 0] :: R)))=>sd_exec hx hok wf.wf hB k')
 have HRL:Hid (∀ (v:Int),(execM X.W (k':Int) v).2.2.length ≤ 100):=Lib.hid (fun v=>by
  have hr:=(rd_exec wf.wf hB hlets v).1
  have hw:=(wf.wf.exec hB (k':Int) v).1
  exact Nat.le_trans (nodup_len _ _ hr.nd (fun x hx=>by
   obtain ⟨q,e,-,-,hs⟩:=hr.st x hx
   refine ⟨by omega,?_⟩
   rcases Nat.lt_or_ge q (execM X.W (k':Int) v).1.gs.length with h1 | h1
   ·omega
   ·rw [g_out (by omega)] at hs;exact absurd hs (by decide))) hw.g1.2)
 have HLEN:Hid (∀ (v:Int) (l:List Int),l.length ≤ (execM X.W (k':Int) v).2.2.length → (readyA { X with W:=(execM X.W (k':Int) v).1 } i l).gl.length ≤ 1000):=Lib.hid (fun v l hl=>by
  have hr:=(rd_exec wf.wf hB hlets v).1
  have hw:=(wf.wf.exec hB (k':Int) v).1
  have hb:(execM X.W (k':Int) v).2.2.length ≤ 100:=Nat.le_trans (nodup_len _ _ hr.nd (fun x hx=>by
   obtain ⟨q,e,-,-,hs⟩:=hr.st x hx
   refine ⟨by omega,?_⟩
   rcases Nat.lt_or_ge q (execM X.W (k':Int) v).1.gs.length with h1 | h1
   ·omega
   ·rw [g_out (by omega)] at hs;exact absurd hs (by decide))) hw.g1.2
  have hp:=(qs_ready l { X with W:=(execM X.W (k':Int) v).1 } i hi).2.length_eq
  have h2:({ X with W:=(execM X.W (k':Int) v).1 }:Sd).all.length ≤ 100:=wf.bound
  have h3:(readyA { X with W:=(execM X.W (k':Int) v).1 } i l).gl.length ≤ (readyA { X with W:=(execM X.W (k':Int) v).1 } i l).all.length:=by
   unfold Sd.all;rw [List.length_append];omega
  rw [List.length_append] at hp
  omega)
 have HQ:Hid (∀ (v:Int) (l:List Int),Qs { X with W:=(execM X.W (k':Int) v).1 } (readyA { X with W:=(execM X.W (k':Int) v).1 } i l)):=Lib.hid (fun v l=>(qs_ready l { X with W:=(execM X.W (k':Int) v).1 } i hi).1)
 have HMOD:Hid (∀ v,runM X m v = if (execM X.W (k':Int) v).2.1 = true ∧ 0 < (X.m m).L - 1 then ((readyA { X with W:=(execM X.W (k':Int) v).1 } i (execM X.W (k':Int) v).2.2).setM m { (readyA { X with W:=(execM X.W (k':Int) v).1 } i (execM X.W (k':Int) v).2.2).m m with L:=(X.m m).L - 1 },(execM X.W (k':Int) v).2.2)
   else ({ (readyA { X with W:=(execM X.W (k':Int) v).1 } i (execM X.W (k':Int) v).2.2).setM m { (readyA { X with W:=(execM X.W (k':Int) v).1 } i (execM X.W (k':Int) v).2.2).m m with G:=-1,L:=(X.m m).L - 1 } with gl:=if ((readyA { X with W:=(execM X.W (k':Int) v).1 } i (execM X.W (k':Int) v).2.2).W.g k').st = 1 then (readyA { X with W:=(execM X.W (k':Int) v).1 } i (execM X.W (k':Int) v).2.2).gl ++ [(k':Int)] else (readyA { X with W:=(execM X.W (k':Int) v).1 } i (execM X.W (k':Int) v).2.2).gl },(execM X.W (k':Int) v).2.2)):=Lib.hid (fun v=>by
  unfold runM
  simp only
  have hi2:(X.m m).P.toNat = i:=by rw [hPi,Int.toNat_natCast]
  rw [hi2]
  simp only [hk,Int.toNat_natCast])
 have HST:Hid (∀ v,k' < (execM X.W (k':Int) v).1.gs.length):=Lib.hid (fun v=>by
  have:=(wf.wf.exec hB (k':Int) v).2.gl;omega)
 have H:=Lib.hid h
 have HMM:=Lib.hid hm
 have HMA:=Lib.hid hma
 have HPA:=Lib.hid hpa
 have HLD:=Lib.hid hld
 have HI:=Lib.hid hi
 obtain ⟨LL,hLL⟩:∃ LL,LL = (X.m m).L:=⟨_,rfl⟩
 have HGI:=Lib.hid hk
 have HPI:=Lib.hid hPi
 rw [← hLL] at z2 HMOD hLp
 have hL2:LL ≤ 1024:=by rw [hLL];exact hmL.2.1
 have HLL:=Lib.hid hLL
 clear h hok wf hm hP hG hen hPi hi hby hpa hld hma hnp hnm hmL hk hk' hks hkl hlets hLL
 go_enter Tryz.func60,Tryz.ntmps60
 go_upto_region 2 with fail
 have hmf:∀ (fn:Fn) (first cap:Array Value) (w:World),(Instr.makeFunc fn first cap).run Tryz.prog w = .ok (.func fn first cap) w:=fun _ _ _ _=>rfl
 have HSB:Hid (∀ wx Y Z,SAt w0 wx b sp L Y Z → Y.ms = X.ms → wx.cell? ⟨b,11,none⟩ = some (.pointer (some ⟨sp,0,none⟩)) ∧ wx.cell? ⟨mb,off2 + m * 3 + 1,none⟩ = some (.int .i64 (k':Int))):=Lib.hid (fun wx Y Z hx e=>by
  have e1:Y.m m = X.m m:=by unfold Sd.m;rw [e]
  have h2:=(hx.mach (i:=m) (by rw [e];exact HMM.out) HMA.out).1.2.1
  rw [e1,HGI.out] at h2
  exact ⟨hx.c11,h2⟩)
 clear c11 z0 z1 z2 f0 f1 f2
 refine wp_region_lexP (fun wx=>wx.cell? ⟨b,11,none⟩ = some (.pointer (some ⟨sp,0,none⟩)) ∧ wx.cell? ⟨mb,off2 + m * 3 + 1,none⟩ = some (.int .i64 (k':Int))) 15 (Array.replicate 15 false) (by kernel_rfl) (by kernel_rfl) ?_
 have h1:=H.out.step (below_drew1 w)
 generalize w.drew = w1 at *
 refine wpAnyH_seg 0 12 _ #[true,true,true,true,true,true,true,true,true,true,true,true,false,false,false] 3 (by kernel_rfl) body_put (HSB.out _ _ _ h1 rfl) (by kernel_rfl) ?_
 simp only [List.take_succ_cons,List.take_zero,List.drop_zero]
 repeat ((first | refine wpSegH_no (by rfl) ?_ | (refine wpSegH_yes (by rfl) ?_;apply Exists.intro;apply And.intro;(· (intro wx hS;(try dsimp only at hS);go_simp;first | done | with_reducible rfl))));simp only [Act.put,List.setIfInBounds_toArray,List.set_cons_zero,List.set_cons_succ])
 refine wpSegH_nil ?_
 refine wpAnyH_two 12 13 _ #[true,true,true,true,true,true,true,true,true,true,true,true,true,false,false] #[true,true,true,true,true,true,true,true,true,true,true,true,false,true,false] 2 (by kernel_rfl) (fun K hK=>?_) (fun K hK=>?_)
 ·skip
  have HKK:=Lib.hid hK
  clear hK
  simp only [List.drop_succ_cons,List.drop_zero]
  refine headH_mk (by rfl) ?_
  go_simp
  refine (HEX.out _ h1).mono ?_
  intro r w2 hp
  rcases hp with ⟨v,s',ra,rc,hfit,hok',rfl,h2⟩ | ⟨ch,s',kd,n,rfl,hak,hdp,hok',h2⟩
  ·skip
   have HFIT:=Lib.hid (And.intro hfit hok')
   have HLEN2:=Lib.hid (HLEN.out v)
   have HQ2:=Lib.hid (HQ.out v)
   have HMOD2:=Lib.hid (HMOD.out v)
   have HST2:=Lib.hid (HST.out v)
   have hrl:=HRL.out v
   clear hfit hok' HLEN HQ HMOD HST HEX HEX2 HRL
   generalize execM X.W (k':Int) v = E at *
   obtain ⟨W1,kp,rd⟩:=E
   simp only at h2 HLEN2 HQ2 HMOD2 HST2 hrl ⊢
   obtain ⟨X1,hX1⟩:∃ X1:Sd,X1 = { X with W:=W1 }:=⟨_,rfl⟩
   rw [← hX1] at h2 HLEN2 HQ2 HMOD2
   have HX1:Hid (X1.ms = X.ms ∧ X1.ps = X.ps ∧ X1.W = W1):=Lib.hid (by rw [hX1];exact ⟨rfl,rfl,rfl⟩)
   clear hX1
   obtain ⟨N,hN⟩:∃ N,N = rd.length:=⟨_,rfl⟩
   rw [← hN] at h2 hrl ⊢
   have HN:=Lib.hid hN
   clear hN
   have e1:=HSB.out _ _ _ h2 HX1.out.1
   refine HKK.out _ _ (e1) ?_
   clear HKK K
   have h3:=h2.box [.bool false,.slice none 0 0] 163
   have e2:=HSB.out _ _ _ h3 HX1.out.1
   refine wpAnyH_one 13 _ #[true,true,true,true,true,true,true,true,true,true,true,true,true,true,false] 1 (by kernel_rfl) (fun K hK=>?_)
   have HKK:=Lib.hid hK
   clear hK
   simp only [List.drop_succ_cons,List.drop_zero]
   refine headH_mk (by rfl) ?_
   go_simp
   refine HKK.out _ _ (e2) ?_
   clear HKK K
   generalize w2.alloc (.cells #[.bool false,.slice none 0 0] 163) = w3 at *
   generalize w2.heap.size = qb at *
   obtain ⟨x0,y0⟩:=h3.cel 0 _ rfl
   obtain ⟨x1,y1⟩:=h3.cel 1 _ rfl
   have h4:=(h3.setBox 0 (.bool kp)).setBox 1 (.slice ra N rc)
   have e3:=HSB.out _ _ _ h4 HX1.out.1
   refine wpAnyH_one 14 _ #[true,true,true,true,true,true,true,true,true,true,true,true,true,true,true] 0 (by kernel_rfl) (fun K hK=>?_)
   have HKK:=Lib.hid hK
   clear hK
   simp only [List.drop_succ_cons,List.drop_zero]
   refine headH_mk (by rfl) ?_
   go_simp
   refine HKK.out _ _ (e3) ?_
   clear HKK K
   refine wpAnyH_done (by kernel_rfl) (?_) _
   have HS:=Lib.hid h4
   clear h2 h3 h4 e1 e2 x0 y0 x1 y1 H
   generalize (w3.setCell ⟨qb,0,none⟩ (.bool kp)).setCell ⟨qb,1,none⟩ (.slice ra N rc) = w4 at *
   obtain ⟨c11,z1⟩:=e3
   have c1:=(HS.out.cel 1 _ rfl).1
   clear c11 z1
   go_wp2_with fail
   go_loopw [31] (fun iv wr=>∃ i2:Nat,i2 ≤ N ∧ iv = .int .i64 i2 ∧ Hid (SAt w0 wr b sp L (readyA X1 i (rd.take i2)) (CelA qb [.bool kp,.slice ra N rc] :: RowGA 1 ra rc N (intc rd) :: (D.A s' ++ R)))) (fun iv _=>N - (intOf iv).toNat)
   case atStart=>exact ⟨0,by omega,rfl,HS⟩
   case round =>
    obtain ⟨i2,hi2,rfl,hr⟩:=hrel
    clear HS c1
    have q:=HQ2.out (rd.take i2)
    have hms:(readyA X1 i (rd.take i2)).ms = X.ms:=q.ms.trans HX1.out.1
    have hps:(readyA X1 i (rd.take i2)).ps.length = X.ps.length:=by rw [q.len,HX1.out.2.1]
    have hmm:(readyA X1 i (rd.take i2)).m m = X.m m:=by unfold Sd.m;rw [hms]
    have hmY:m < (readyA X1 i (rd.take i2)).ms.length:=by rw [hms];exact HMM.out
    have hiY:i < (readyA X1 i (rd.take i2)).ps.length:=by rw [hps];exact HI.out
    by_cases hlt:i2 < N
    ·have hlt2:(i2:Int) < (N:Int):=by omega
     have hi20:(0:Int) ≤ (i2:Int):=by omega
     have hil:i2 < rd.length:=by rw [← HN.out];exact hlt
     have hrow:=hr.out.row
     obtain ⟨rb,roff,rfl,hc⟩:=hrow.cells i2 (.int .i64 rd[i2]) (by rw [intc_get,List.getElem?_eq_getElem hil];rfl)
     have z0:=(hr.out.mach hmY HMA.out).1.1
     rw [hmm,HPI.out] at z0
     obtain ⟨C12,c12⟩:=hr.out.c12
     rw [HPA.out,hps] at c12
     have x0:=(hr.out.proc hiY HPA.out HLD.out).1.1
     have hgl:=HLEN2.out (rd.take i2) (by rw [List.length_take];omega)
     have htk:rd.take (i2 + 1) = rd.take i2 ++ [rd[i2]]:=List.take_succ_eq_append_getElem hil
     have HRD:=Lib.hid (fun (wx:World) (hx:SAt w0 wx b sp L (readyA X1 i (rd.take i2)) (CelA qb [.bool kp,.slice (some ⟨rb,roff,none⟩) N rc] :: RowGA 1 (some ⟨rb,roff,none⟩) rc N (intc rd) :: (D.A s' ++ R)))=>(sd_ready hx hiY HLD.out (by omega) rd[i2]).mono (R':=fun r w'=>(∃ y,r = .returned (.int .i64 y)) ∧ SAt w0 w' b sp L (readyA X1 i (rd.take (i2 + 1))) (CelA qb [.bool kp,.slice (some ⟨rb,roff,none⟩) N rc] :: RowGA 1 (some ⟨rb,roff,none⟩) rc N (intc rd) :: (D.A s' ++ R))) (fun r w' hh=>⟨⟨_,hh.1⟩,by rw [htk,readyA_snoc];exact hh.2⟩))
     generalize rd[i2] = gv at *
     clear q hms hps hmm hmY hiY hil hrow hgl htk
     go_upto_region 6 with fail
     refine wp_region_lexK (fun wx=>∃ nq,wx = World.drewN (wr) nq) 15 1 (Array.replicate 16 false) #[true,true,true,true,true,true,true,true,true,true,true,true,true,true,true,false] (by kernel_rfl) (by kernel_rfl) ?_
     refine wpAnyK_seg 0 15 _ #[true,true,true,true,true,true,true,true,true,true,true,true,true,true,true,false] 0 (by kernel_rfl) noPanic_put (drew_q wr) (by kernel_rfl) ?_
     simp only [List.take_succ_cons,List.take_zero,List.drop_zero]
     repeat ((first | refine wpSegH_no (by rfl) ?_ | (refine wpSegH_yes (by rfl) ?_;apply Exists.intro;apply And.intro;(· (rintro wx ⟨nq,rfl⟩;go_simp;first | done | with_reducible rfl))));simp only [Act.put,List.setIfInBounds_toArray,List.set_cons_zero,List.set_cons_succ])
     refine wpSegH_nil ?_
     refine wpAnyK_next ?_
     refine wpAnyK_seq 15 (by kernel_rfl) ?_
     simp only [List.drop_succ_cons,List.drop_zero]
     go_wp2_with fail
     refine (HRD.out _ (hr.out.step (below_dN wr _))).mono ?_
     rintro r w5 ⟨⟨y,rfl⟩,h5⟩
     have H5:=Lib.hid h5
     clear h5 HRD hr z0 c12 x0 hc
     go_wp2_with fail
     refine NoPanic.normal ?_
     go_wp2
     exact ⟨⟨i2 + 1,by omega,by go_num,H5⟩,by simp [intOf];omega⟩
    ·obtain rfl:i2 = N:=by omega
     have etk:rd.take i2 = rd:=by rw [HN.out,List.take_length]
     rw [etk] at hr q hms hps hmm hmY hiY
     obtain ⟨Y,hY⟩:∃ Y,Y = readyA X1 i rd:=⟨_,rfl⟩
     have HMOD3:=HMOD2
     have hylen:=HLEN2.out rd (by omega)
     rw [← hY] at hr q hms hps hmm hmY hiY HMOD3 hylen
     have hYW:Y.W = W1:=q.W.trans HX1.out.2.2
     obtain ⟨⟨-,z1,z2⟩,-,f1,f2⟩:=hr.out.mach hmY HMA.out
     rw [hmm,HGI.out] at z1
     rw [hmm,← HLL.out] at z2
     have hwr:IntKind.i64.wrap (LL - 1) = LL - 1:=by rw [IntKind.wrap_i64];omega
     have h6:=hr.out.setL hmY HMA.out (LL - 1)
     have hm6:m < (Y.setM m { Y.m m with L:=LL - 1 }).ms.length:=by simpa [Sd.setM] using hmY
     obtain ⟨⟨-,y1,y2⟩,-,g1,-⟩:=h6.mach hm6 HMA.out
     rw [setM_m hmY,if_pos rfl] at y1 y2
     simp only at y1 y2
     rw [hmm,HGI.out] at y1
     obtain ⟨b0,-⟩:=h6.cel 0 _ rfl
     obtain ⟨b1,-⟩:=h6.cel 1 _ rfl
     have H6:=Lib.hid h6
     have HY:Hid (Y.ms = X.ms ∧ Y.m m = X.m m ∧ m < Y.ms.length ∧ m < (Y.setM m { Y.m m with L:=LL - 1 }).ms.length ∧ Y.W = W1 ∧ Y.gl.length ≤ 1000):=Lib.hid ⟨hms,hmm,hmY,hm6,hYW,hylen⟩
     clear q hms hps hmm hmY hiY hY hYW h6 hm6 HMOD2 HQ2 HLEN2 hylen etk hr HX1 z1 f1
     go_upto_region 9 with fail
     generalize wr.setCell ⟨mb,off2 + m * 3 + 2,none⟩ (.int .i64 (LL - 1)) = w6 at *
     clear z2 f2
     have HPO:Hid (∀ wx Z,SAt w0 wx b sp L Z (RowGA 1 ra rc i2 (intc rd) :: (D.A s' ++ R)) → runM X m v = (Z,rd) → RunP w0 b sp L D s X R j m k' (.returned (.slice ra i2 rc)) wx):=Lib.hid (fun wx Z hz e=>.inl ⟨v,s',ra,rc,HFIT.out.1,HFIT.out.2,by rw [e,HN.out],by rw [e];rw [HN.out] at hz;exact hz⟩)
     by_cases hkeep:kp = true ∧ 0 < LL - 1
     ·obtain ⟨hk1,hk2⟩:=hkeep
      subst hk1
      have hres:=HMOD3.out
      rw [if_pos ⟨rfl,hk2⟩] at hres
      have HRES:Hid (∀ rr,rr = Ending.returned (.slice ra i2 rc) → RunP w0 b sp L D s X R j m k' rr w6):=Lib.hid (fun rr e=>by rw [e];exact HPO.out _ _ H6.out.less hres)
      clear hres HPO HMOD3 H6
      have hk3:LL - 1 > 0:=hk2
      go_wp2
      go_ret
      exact HRES.out _ rfl
     ·have hres:=HMOD3.out
      rw [if_neg hkeep] at hres
      have HRES:=Lib.hid hres
      clear hres HMOD3
      obtain ⟨e1,e2,e3,e4,e5,e6⟩:=HY.out
      have hst:statusM W1 (k':Int) = (W1.g k').st:=by
       unfold statusM
       rw [if_pos ⟨by omega,by have:=HST2.out;omega⟩,Int.toNat_natCast]
      have HSTA:=Lib.hid (fun (wx:World) (hx:SAt w0 wx b sp L (Y.setM m { Y.m m with L:=LL - 1 }) (CelA qb [.bool kp,.slice ra i2 rc] :: RowGA 1 ra rc i2 (intc rd) :: (D.A s' ++ R)))=>(by
       have:=sd_status hx (k':Int)
       rw [show (Y.setM m { Y.m m with L:=LL - 1 }).W = W1 from e5,hst] at this
       exact this:Calls Tryz.prog 74 #[.pointer (some ⟨b,0,none⟩),.int .i64 (k':Int)] wx fun r w'=>r = .returned (.int .i64 (W1.g k').st) ∧ w' = wx))
      rw [e5] at HRES
      generalize (W1.g k').st = sv at *
      have hcond:(kp = true ∧ LL - 1 > 0) = False:=by simpa using hkeep
      clear e1 e2 e3 e4 e5 e6 hst
      have HB0:=Lib.hid b0
      have HB1:=Lib.hid b1
      have hk0:kp = false ∨ (kp = true ∧ ¬ LL - 1 > 0):=by
       cases kp with
       | false=>exact .inl rfl
       | true=>exact .inr ⟨rfl,fun hc=>hkeep ⟨rfl,hc⟩⟩
      clear hkeep hcond
      rcases hk0 with rfl | ⟨rfl,hk0⟩
      ·skip
       go_upto_region 11 with fail
       refine wp_region_lexK (fun wx=>∃ nq,wx = World.drewN (w6) nq) 7 2 (Array.replicate 9 false) #[true,true,true,true,true,true,true,false,false] (by kernel_rfl) (by kernel_rfl) ?_
       refine wpAnyK_seg 0 7 _ #[true,true,true,true,true,true,true,false,false] 0 (by kernel_rfl) noPanic_put (drew_q w6) (by kernel_rfl) ?_
       simp only [List.take_succ_cons,List.take_zero,List.drop_zero]
       repeat ((first | refine wpSegH_no (by rfl) ?_ | (refine wpSegH_yes (by rfl) ?_;apply Exists.intro;apply And.intro;(· (rintro wx ⟨nq,rfl⟩;go_simp;first | done | with_reducible rfl))));simp only [Act.put,List.setIfInBounds_toArray,List.set_cons_zero,List.set_cons_succ])
       refine wpSegH_nil ?_
       refine wpAnyK_next ?_
       refine wpAnyK_seq 7 (by kernel_rfl) ?_
       simp only [List.drop_succ_cons,List.drop_zero]
       go_wp2_with fail
       refine (HSTA.out _ (H6.out.step (below_dN w6 _))).mono ?_
       rintro r w7 ⟨rfl,rfl⟩
       by_cases hsv:sv = 1
       ·have hsv2:(sv == 1) = true:=by simpa using hsv
        rw [if_pos hsv] at HRES
        have h7:=H6.out.step (below_dN w6 1)
        have y7:=cell_below y1 (below_dN w6 1)
        have HY1:Hid (∀ wx Z,SAt w0 wx b sp L (Y.setM m { Y.m m with L:=LL - 1 }) Z → wx.cell? ⟨mb,off2 + m * 3 + 1,none⟩ = some (.int .i64 (k':Int))):=Lib.hid (fun wx Z hz=>by
         have h2:=(hz.mach HY.out.2.2.2.1 HMA.out).1.2.1
         rw [setM_m HY.out.2.2.1,if_pos rfl] at h2
         simp only at h2
         rw [HY.out.2.1,HGI.out] at h2;exact h2)
        have H7:=Lib.hid h7
        clear hsv h7 HSTA H6 y1 y2 b0 b1 HB0 HB1 g1
        go_wp2_with fail
        refine NoPanic.normal ?_
        go_upto_region 12 with fail
        have h7:=H7.out
        generalize w6.drewN 1 = w7 at *
        have h8:=h7.step (below_drew1 w7)
        refine wp_region_lexK (fun wx=>wx.cell? ⟨mb,off2 + m * 3 + 1,none⟩ = some (.int .i64 (k':Int))) 9 0 (Array.replicate 9 false) #[true,true,true,true,true,true,true,true,true] (by kernel_rfl) (by kernel_rfl) ?_
        refine wpAnyK_seg 0 7 _ #[true,true,true,true,true,true,true,false,false] 2 (by kernel_rfl) noPanic_put (HY1.out _ _ h8) (by kernel_rfl) ?_
        simp only [List.take_succ_cons,List.take_zero,List.drop_zero]
        repeat ((first | refine wpSegH_no (by rfl) ?_ | (refine wpSegH_yes (by rfl) ?_;apply Exists.intro;apply And.intro;(· (intro wx hS;(try dsimp only at hS);go_simp;first | done | with_reducible rfl))));simp only [Act.put,List.setIfInBounds_toArray,List.set_cons_zero,List.set_cons_succ])
        refine wpSegH_nil ?_
        have h9:=h8.box [.int .i64 (k':Int)] 3
        refine wpAnyK_one 7 _ #[true,true,true,true,true,true,true,true,false] 1 (by kernel_rfl) (fun K hK=>?_)
        have HKK:=Lib.hid hK
        clear hK
        simp only [List.drop_succ_cons,List.drop_zero]
        refine headH_mk (by rfl) ?_
        go_simp
        refine HKK.out _ _ (HY1.out _ _ h9) ?_
        clear HKK K
        refine wpAnyK_one 8 _ #[true,true,true,true,true,true,true,true,true] 0 (by kernel_rfl) (fun K hK=>?_)
        have HKK:=Lib.hid hK
        clear hK
        simp only [List.drop_succ_cons,List.drop_zero]
        refine headH_mk (by rfl) ?_
        go_simp
        refine (sd_gput h9 (some ⟨w7.drew.heap.size,0,none⟩) 1 1 [(k':Int)] rfl (RowAt.one w7.drew (k':Int) 3 rfl).ints (by have:=HY.out.2.2.2.2.2;show Y.gl.length + 1 ≤ _;omega)).mono ?_
        rintro r w10 ⟨rfl,h10⟩
        have e10:w10.cell? ⟨mb,off2 + m * 3 + 1,none⟩ = some (.int .i64 (k':Int)):=by
         have h2:w10.cell? ⟨mb,off2 + m * 3 + 1,none⟩ = some (.int .i64 ((Y.setM m { Y.m m with L:=LL - 1 }).m m).G):=(h10.mach (i:=m) HY.out.2.2.2.1 HMA.out).1.2.1
         rw [setM_m HY.out.2.2.1,if_pos rfl] at h2
         simp only at h2
         rw [HY.out.2.1,HGI.out] at h2;exact h2
        refine HKK.out _ _ (e10) ?_
        clear HKK K
        refine wpAnyK_next ?_
        refine wpAnyK_done (by kernel_rfl) (NoPanic.normal ?_)
        have h11:=h10.setG (i:=m) HY.out.2.2.2.1 HMA.out (-1)
        obtain ⟨⟨-,d1,-⟩,-,k1,-⟩:=h10.mach (i:=m) HY.out.2.2.2.1 HMA.out
        have e8:=(h11.less.cel 1 _ rfl).1
        have HF:Hid (∀ rr,rr = Ending.returned (.slice ra i2 rc) → RunP w0 b sp L D s X R j m k' rr (w10.setCell ⟨mb,off2 + m * 3 + 1,none⟩ (.int .i64 (-1)))):=Lib.hid (fun rr e=>by
         rw [e]
         refine HPO.out _ _ h11.less.less ?_
         rw [HRES.out]
         congr 1
         show _ = ({ (Y.setM m { Y.m m with L:=LL - 1 }).setM m { (Y.setM m { Y.m m with L:=LL - 1 }).m m with G:=-1 } with gl:=Y.gl ++ [(k':Int)] }:Sd)
         rw [setM_setM,setM_m HY.out.2.2.1,if_pos rfl])
        clear h7 h8 h9 h10 h11 y7 HRES HPO e10 H7 HY1
        go_upto_region 14 with fail
        clear d1 k1
        generalize w10.setCell ⟨mb,off2 + m * 3 + 1,none⟩ (.int .i64 (-1)) = w11 at *
        go_wp2
        go_ret
        exact HF.out _ rfl
       ·have hsv2:(sv == 1) = false:=by simpa using hsv
        rw [if_neg hsv] at HRES
        have h8:=(H6.out.step (below_dN w6 1)).setG HY.out.2.2.2.1 HMA.out (-1)
        obtain ⟨⟨-,d1,-⟩,-,k1,-⟩:=(H6.out.step (below_dN w6 1)).mach HY.out.2.2.2.1 HMA.out
        have e8:=(h8.cel 1 _ rfl).1
        have HF:Hid (∀ rr,rr = Ending.returned (.slice ra i2 rc) → RunP w0 b sp L D s X R j m k' rr ((w6.drewN 1).setCell ⟨mb,off2 + m * 3 + 1,none⟩ (.int .i64 (-1)))):=Lib.hid (fun rr e=>by
         rw [e]
         refine HPO.out _ _ h8.less ?_
         rw [HRES.out]
         congr 1
         rw [setM_setM,setM_m HY.out.2.2.1,if_pos rfl]
         rfl)
        clear hsv h8 HSTA H6 y1 y2 b0 b1 HB0 HB1 g1 HRES HPO
        go_wp2_with fail
        refine NoPanic.normal ?_
        go_upto_region 14 with fail
        clear d1 k1
        generalize (w6.drewN 1).setCell ⟨mb,off2 + m * 3 + 1,none⟩ (.int .i64 (-1)) = w9 at *
        go_wp2
        go_ret
        exact HF.out _ rfl
      ·skip
       go_upto_region 11 with fail
       refine wp_region_lexK (fun wx=>∃ nq,wx = World.drewN (w6) nq) 7 2 (Array.replicate 9 false) #[true,true,true,true,true,true,true,false,false] (by kernel_rfl) (by kernel_rfl) ?_
       refine wpAnyK_seg 0 7 _ #[true,true,true,true,true,true,true,false,false] 0 (by kernel_rfl) noPanic_put (drew_q w6) (by kernel_rfl) ?_
       simp only [List.take_succ_cons,List.take_zero,List.drop_zero]
       repeat ((first | refine wpSegH_no (by rfl) ?_ | (refine wpSegH_yes (by rfl) ?_;apply Exists.intro;apply And.intro;(· (rintro wx ⟨nq,rfl⟩;go_simp;first | done | with_reducible rfl))));simp only [Act.put,List.setIfInBounds_toArray,List.set_cons_zero,List.set_cons_succ])
       refine wpSegH_nil ?_
       refine wpAnyK_next ?_
       refine wpAnyK_seq 7 (by kernel_rfl) ?_
       simp only [List.drop_succ_cons,List.drop_zero]
       go_wp2_with fail
       refine (HSTA.out _ (H6.out.step (below_dN w6 _))).mono ?_
       rintro r w7 ⟨rfl,rfl⟩
       by_cases hsv:sv = 1
       ·have hsv2:(sv == 1) = true:=by simpa using hsv
        rw [if_pos hsv] at HRES
        have h7:=H6.out.step (below_dN w6 1)
        have y7:=cell_below y1 (below_dN w6 1)
        have HY1:Hid (∀ wx Z,SAt w0 wx b sp L (Y.setM m { Y.m m with L:=LL - 1 }) Z → wx.cell? ⟨mb,off2 + m * 3 + 1,none⟩ = some (.int .i64 (k':Int))):=Lib.hid (fun wx Z hz=>by
         have h2:=(hz.mach HY.out.2.2.2.1 HMA.out).1.2.1
         rw [setM_m HY.out.2.2.1,if_pos rfl] at h2
         simp only at h2
         rw [HY.out.2.1,HGI.out] at h2;exact h2)
        have H7:=Lib.hid h7
        clear hsv h7 HSTA H6 y1 y2 b0 b1 HB0 HB1 g1
        go_wp2_with fail
        refine NoPanic.normal ?_
        go_upto_region 12 with fail
        have h7:=H7.out
        generalize w6.drewN 1 = w7 at *
        have h8:=h7.step (below_drew1 w7)
        refine wp_region_lexK (fun wx=>wx.cell? ⟨mb,off2 + m * 3 + 1,none⟩ = some (.int .i64 (k':Int))) 9 0 (Array.replicate 9 false) #[true,true,true,true,true,true,true,true,true] (by kernel_rfl) (by kernel_rfl) ?_
        refine wpAnyK_seg 0 7 _ #[true,true,true,true,true,true,true,false,false] 2 (by kernel_rfl) noPanic_put (HY1.out _ _ h8) (by kernel_rfl) ?_
        simp only [List.take_succ_cons,List.take_zero,List.drop_zero]
        repeat ((first | refine wpSegH_no (by rfl) ?_ | (refine wpSegH_yes (by rfl) ?_;apply Exists.intro;apply And.intro;(· (intro wx hS;(try dsimp only at hS);go_simp;first | done | with_reducible rfl))));simp only [Act.put,List.setIfInBounds_toArray,List.set_cons_zero,List.set_cons_succ])
        refine wpSegH_nil ?_
        have h9:=h8.box [.int .i64 (k':Int)] 3
        refine wpAnyK_one 7 _ #[true,true,true,true,true,true,true,true,false] 1 (by kernel_rfl) (fun K hK=>?_)
        have HKK:=Lib.hid hK
        clear hK
        simp only [List.drop_succ_cons,List.drop_zero]
        refine headH_mk (by rfl) ?_
        go_simp
        refine HKK.out _ _ (HY1.out _ _ h9) ?_
        clear HKK K
        refine wpAnyK_one 8 _ #[true,true,true,true,true,true,true,true,true] 0 (by kernel_rfl) (fun K hK=>?_)
        have HKK:=Lib.hid hK
        clear hK
        simp only [List.drop_succ_cons,List.drop_zero]
        refine headH_mk (by rfl) ?_
        go_simp
        refine (sd_gput h9 (some ⟨w7.drew.heap.size,0,none⟩) 1 1 [(k':Int)] rfl (RowAt.one w7.drew (k':Int) 3 rfl).ints (by have:=HY.out.2.2.2.2.2;show Y.gl.length + 1 ≤ _;omega)).mono ?_
        rintro r w10 ⟨rfl,h10⟩
        have e10:w10.cell? ⟨mb,off2 + m * 3 + 1,none⟩ = some (.int .i64 (k':Int)):=by
         have h2:w10.cell? ⟨mb,off2 + m * 3 + 1,none⟩ = some (.int .i64 ((Y.setM m { Y.m m with L:=LL - 1 }).m m).G):=(h10.mach (i:=m) HY.out.2.2.2.1 HMA.out).1.2.1
         rw [setM_m HY.out.2.2.1,if_pos rfl] at h2
         simp only at h2
         rw [HY.out.2.1,HGI.out] at h2;exact h2
        refine HKK.out _ _ (e10) ?_
        clear HKK K
        refine wpAnyK_next ?_
        refine wpAnyK_done (by kernel_rfl) (NoPanic.normal ?_)
        have h11:=h10.setG (i:=m) HY.out.2.2.2.1 HMA.out (-1)
        obtain ⟨⟨-,d1,-⟩,-,k1,-⟩:=h10.mach (i:=m) HY.out.2.2.2.1 HMA.out
        have e8:=(h11.less.cel 1 _ rfl).1
        have HF:Hid (∀ rr,rr = Ending.returned (.slice ra i2 rc) → RunP w0 b sp L D s X R j m k' rr (w10.setCell ⟨mb,off2 + m * 3 + 1,none⟩ (.int .i64 (-1)))):=Lib.hid (fun rr e=>by
         rw [e]
         refine HPO.out _ _ h11.less.less ?_
         rw [HRES.out]
         congr 1
         show _ = ({ (Y.setM m { Y.m m with L:=LL - 1 }).setM m { (Y.setM m { Y.m m with L:=LL - 1 }).m m with G:=-1 } with gl:=Y.gl ++ [(k':Int)] }:Sd)
         rw [setM_setM,setM_m HY.out.2.2.1,if_pos rfl])
        clear h7 h8 h9 h10 h11 y7 HRES HPO e10 H7 HY1
        go_upto_region 14 with fail
        clear d1 k1
        generalize w10.setCell ⟨mb,off2 + m * 3 + 1,none⟩ (.int .i64 (-1)) = w11 at *
        go_wp2
        go_ret
        exact HF.out _ rfl
       ·have hsv2:(sv == 1) = false:=by simpa using hsv
        rw [if_neg hsv] at HRES
        have h8:=(H6.out.step (below_dN w6 1)).setG HY.out.2.2.2.1 HMA.out (-1)
        obtain ⟨⟨-,d1,-⟩,-,k1,-⟩:=(H6.out.step (below_dN w6 1)).mach HY.out.2.2.2.1 HMA.out
        have e8:=(h8.cel 1 _ rfl).1
        have HF:Hid (∀ rr,rr = Ending.returned (.slice ra i2 rc) → RunP w0 b sp L D s X R j m k' rr ((w6.drewN 1).setCell ⟨mb,off2 + m * 3 + 1,none⟩ (.int .i64 (-1)))):=Lib.hid (fun rr e=>by
         rw [e]
         refine HPO.out _ _ h8.less ?_
         rw [HRES.out]
         congr 1
         rw [setM_setM,setM_m HY.out.2.2.1,if_pos rfl]
         rfl)
        clear hsv h8 HSTA H6 y1 y2 b0 b1 HB0 HB1 g1 HRES HPO
        go_wp2_with fail
        refine NoPanic.normal ?_
        go_upto_region 14 with fail
        clear d1 k1
        generalize (w6.drewN 1).setCell ⟨mb,off2 + m * 3 + 1,none⟩ (.int .i64 (-1)) = w9 at *
        go_wp2
        go_ret
        exact HF.out _ rfl
  ·exact ⟨rfl,RunP.dry hak hdp hok' h2⟩
 ·skip
  have h2:=h1.box [.bool false,.slice none 0 0] 163
  have e2:=HSB.out _ _ _ h2 rfl
  have HKK:=Lib.hid hK
  clear hK
  simp only [List.drop_succ_cons,List.drop_zero]
  refine headH_mk (by rfl) ?_
  go_simp
  refine HKK.out _ _ (e2) ?_
  clear HKK K
  generalize w1.alloc (.cells #[.bool false,.slice none 0 0] 163) = w2 at *
  generalize w1.heap.size = qb at *
  refine wpAnyH_one 12 _ #[true,true,true,true,true,true,true,true,true,true,true,true,true,true,false] 1 (by kernel_rfl) (fun K hK=>?_)
  have HKK:=Lib.hid hK
  clear hK
  simp only [List.drop_succ_cons,List.drop_zero]
  refine headH_mk (by rfl) ?_
  go_simp
  refine (HEX2.out _ qb (h2.perm List.perm_middle.symm)).mono ?_
  intro r w3 hp
  rcases hp with ⟨v,s',ra,rc,hfit,hok',rfl,h3⟩ | ⟨ch,s',kd,n,rfl,hak,hdp,hok',h3⟩
  ·skip
   have HFIT:=Lib.hid (And.intro hfit hok')
   have HLEN2:=Lib.hid (HLEN.out v)
   have HQ2:=Lib.hid (HQ.out v)
   have HMOD2:=Lib.hid (HMOD.out v)
   have HST2:=Lib.hid (HST.out v)
   have hrl:=HRL.out v
   clear hfit hok' HLEN HQ HMOD HST HEX HEX2 HRL
   generalize execM X.W (k':Int) v = E at *
   obtain ⟨W1,kp,rd⟩:=E
   simp only at h3 HLEN2 HQ2 HMOD2 HST2 hrl ⊢
   obtain ⟨X1,hX1⟩:∃ X1:Sd,X1 = { X with W:=W1 }:=⟨_,rfl⟩
   rw [← hX1] at h3 HLEN2 HQ2 HMOD2
   have HX1:Hid (X1.ms = X.ms ∧ X1.ps = X.ps ∧ X1.W = W1):=Lib.hid (by rw [hX1];exact ⟨rfl,rfl,rfl⟩)
   clear hX1
   obtain ⟨N,hN⟩:∃ N,N = rd.length:=⟨_,rfl⟩
   rw [← hN] at h3 hrl ⊢
   have HN:=Lib.hid hN
   clear hN
   have h3:SAt w0 w3 b sp L X1 (CelA qb [.bool false,.slice none 0 0] :: RowGA 1 ra rc N (intc rd) :: (D.A s' ++ R)):=h3.perm ((List.Perm.cons _ List.perm_middle).trans (List.Perm.swap _ _ _))
   have e3:=HSB.out _ _ _ h3 HX1.out.1
   refine HKK.out _ _ (e3) ?_
   clear HKK K
   obtain ⟨x0,y0⟩:=h3.cel 0 _ rfl
   obtain ⟨x1,y1⟩:=h3.cel 1 _ rfl
   have h4:=(h3.setBox 0 (.bool kp)).setBox 1 (.slice ra N rc)
   have e3:=HSB.out _ _ _ h4 HX1.out.1
   refine wpAnyH_one 14 _ #[true,true,true,true,true,true,true,true,true,true,true,true,true,true,true] 0 (by kernel_rfl) (fun K hK=>?_)
   have HKK:=Lib.hid hK
   clear hK
   simp only [List.drop_succ_cons,List.drop_zero]
   refine headH_mk (by rfl) ?_
   go_simp
   refine HKK.out _ _ (e3) ?_
   clear HKK K
   refine wpAnyH_done (by kernel_rfl) (?_) _
   have HS:=Lib.hid h4
   clear h2 h3 h4 e2 x0 y0 x1 y1 H
   generalize (w3.setCell ⟨qb,0,none⟩ (.bool kp)).setCell ⟨qb,1,none⟩ (.slice ra N rc) = w4 at *
   obtain ⟨c11,z1⟩:=e3
   have c1:=(HS.out.cel 1 _ rfl).1
   clear c11 z1
   go_wp2_with fail
   go_loopw [31] (fun iv wr=>∃ i2:Nat,i2 ≤ N ∧ iv = .int .i64 i2 ∧ Hid (SAt w0 wr b sp L (readyA X1 i (rd.take i2)) (CelA qb [.bool kp,.slice ra N rc] :: RowGA 1 ra rc N (intc rd) :: (D.A s' ++ R)))) (fun iv _=>N - (intOf iv).toNat)
   case atStart=>exact ⟨0,by omega,rfl,HS⟩
   case round =>
    obtain ⟨i2,hi2,rfl,hr⟩:=hrel
    clear HS c1
    have q:=HQ2.out (rd.take i2)
    have hms:(readyA X1 i (rd.take i2)).ms = X.ms:=q.ms.trans HX1.out.1
    have hps:(readyA X1 i (rd.take i2)).ps.length = X.ps.length:=by rw [q.len,HX1.out.2.1]
    have hmm:(readyA X1 i (rd.take i2)).m m = X.m m:=by unfold Sd.m;rw [hms]
    have hmY:m < (readyA X1 i (rd.take i2)).ms.length:=by rw [hms];exact HMM.out
    have hiY:i < (readyA X1 i (rd.take i2)).ps.length:=by rw [hps];exact HI.out
    by_cases hlt:i2 < N
    ·have hlt2:(i2:Int) < (N:Int):=by omega
     have hi20:(0:Int) ≤ (i2:Int):=by omega
     have hil:i2 < rd.length:=by rw [← HN.out];exact hlt
     have hrow:=hr.out.row
     obtain ⟨rb,roff,rfl,hc⟩:=hrow.cells i2 (.int .i64 rd[i2]) (by rw [intc_get,List.getElem?_eq_getElem hil];rfl)
     have z0:=(hr.out.mach hmY HMA.out).1.1
     rw [hmm,HPI.out] at z0
     obtain ⟨C12,c12⟩:=hr.out.c12
     rw [HPA.out,hps] at c12
     have x0:=(hr.out.proc hiY HPA.out HLD.out).1.1
     have hgl:=HLEN2.out (rd.take i2) (by rw [List.length_take];omega)
     have htk:rd.take (i2 + 1) = rd.take i2 ++ [rd[i2]]:=List.take_succ_eq_append_getElem hil
     have HRD:=Lib.hid (fun (wx:World) (hx:SAt w0 wx b sp L (readyA X1 i (rd.take i2)) (CelA qb [.bool kp,.slice (some ⟨rb,roff,none⟩) N rc] :: RowGA 1 (some ⟨rb,roff,none⟩) rc N (intc rd) :: (D.A s' ++ R)))=>(sd_ready hx hiY HLD.out (by omega) rd[i2]).mono (R':=fun r w'=>(∃ y,r = .returned (.int .i64 y)) ∧ SAt w0 w' b sp L (readyA X1 i (rd.take (i2 + 1))) (CelA qb [.bool kp,.slice (some ⟨rb,roff,none⟩) N rc] :: RowGA 1 (some ⟨rb,roff,none⟩) rc N (intc rd) :: (D.A s' ++ R))) (fun r w' hh=>⟨⟨_,hh.1⟩,by rw [htk,readyA_snoc];exact hh.2⟩))
     generalize rd[i2] = gv at *
     clear q hms hps hmm hmY hiY hil hrow hgl htk
     go_upto_region 6 with fail
     refine wp_region_lexK (fun wx=>∃ nq,wx = World.drewN (wr) nq) 15 1 (Array.replicate 16 false) #[true,true,true,true,true,true,true,true,true,true,true,true,true,true,true,false] (by kernel_rfl) (by kernel_rfl) ?_
     refine wpAnyK_seg 0 15 _ #[true,true,true,true,true,true,true,true,true,true,true,true,true,true,true,false] 0 (by kernel_rfl) noPanic_put (drew_q wr) (by kernel_rfl) ?_
     simp only [List.take_succ_cons,List.take_zero,List.drop_zero]
     repeat ((first | refine wpSegH_no (by rfl) ?_ | (refine wpSegH_yes (by rfl) ?_;apply Exists.intro;apply And.intro;(· (rintro wx ⟨nq,rfl⟩;go_simp;first | done | with_reducible rfl))));simp only [Act.put,List.setIfInBounds_toArray,List.set_cons_zero,List.set_cons_succ])
     refine wpSegH_nil ?_
     refine wpAnyK_next ?_
     refine wpAnyK_seq 15 (by kernel_rfl) ?_
     simp only [List.drop_succ_cons,List.drop_zero]
     go_wp2_with fail
     refine (HRD.out _ (hr.out.step (below_dN wr _))).mono ?_
     rintro r w5 ⟨⟨y,rfl⟩,h5⟩
     have H5:=Lib.hid h5
     clear h5 HRD hr z0 c12 x0 hc
     go_wp2_with fail
     refine NoPanic.normal ?_
     go_wp2
     exact ⟨⟨i2 + 1,by omega,by go_num,H5⟩,by simp [intOf];omega⟩
    ·obtain rfl:i2 = N:=by omega
     have etk:rd.take i2 = rd:=by rw [HN.out,List.take_length]
     rw [etk] at hr q hms hps hmm hmY hiY
     obtain ⟨Y,hY⟩:∃ Y,Y = readyA X1 i rd:=⟨_,rfl⟩
     have HMOD3:=HMOD2
     have hylen:=HLEN2.out rd (by omega)
     rw [← hY] at hr q hms hps hmm hmY hiY HMOD3 hylen
     have hYW:Y.W = W1:=q.W.trans HX1.out.2.2
     obtain ⟨⟨-,z1,z2⟩,-,f1,f2⟩:=hr.out.mach hmY HMA.out
     rw [hmm,HGI.out] at z1
     rw [hmm,← HLL.out] at z2
     have hwr:IntKind.i64.wrap (LL - 1) = LL - 1:=by rw [IntKind.wrap_i64];omega
     have h6:=hr.out.setL hmY HMA.out (LL - 1)
     have hm6:m < (Y.setM m { Y.m m with L:=LL - 1 }).ms.length:=by simpa [Sd.setM] using hmY
     obtain ⟨⟨-,y1,y2⟩,-,g1,-⟩:=h6.mach hm6 HMA.out
     rw [setM_m hmY,if_pos rfl] at y1 y2
     simp only at y1 y2
     rw [hmm,HGI.out] at y1
     obtain ⟨b0,-⟩:=h6.cel 0 _ rfl
     obtain ⟨b1,-⟩:=h6.cel 1 _ rfl
     have H6:=Lib.hid h6
     have HY:Hid (Y.ms = X.ms ∧ Y.m m = X.m m ∧ m < Y.ms.length ∧ m < (Y.setM m { Y.m m with L:=LL - 1 }).ms.length ∧ Y.W = W1 ∧ Y.gl.length ≤ 1000):=Lib.hid ⟨hms,hmm,hmY,hm6,hYW,hylen⟩
     clear q hms hps hmm hmY hiY hY hYW h6 hm6 HMOD2 HQ2 HLEN2 hylen etk hr HX1 z1 f1
     go_upto_region 9 with fail
     generalize wr.setCell ⟨mb,off2 + m * 3 + 2,none⟩ (.int .i64 (LL - 1)) = w6 at *
     clear z2 f2
     have HPO:Hid (∀ wx Z,SAt w0 wx b sp L Z (RowGA 1 ra rc i2 (intc rd) :: (D.A s' ++ R)) → runM X m v = (Z,rd) → RunP w0 b sp L D s X R j m k' (.returned (.slice ra i2 rc)) wx):=Lib.hid (fun wx Z hz e=>.inl ⟨v,s',ra,rc,HFIT.out.1,HFIT.out.2,by rw [e,HN.out],by rw [e];rw [HN.out] at hz;exact hz⟩)
     by_cases hkeep:kp = true ∧ 0 < LL - 1
     ·obtain ⟨hk1,hk2⟩:=hkeep
      subst hk1
      have hres:=HMOD3.out
      rw [if_pos ⟨rfl,hk2⟩] at hres
      have HRES:Hid (∀ rr,rr = Ending.returned (.slice ra i2 rc) → RunP w0 b sp L D s X R j m k' rr w6):=Lib.hid (fun rr e=>by rw [e];exact HPO.out _ _ H6.out.less hres)
      clear hres HPO HMOD3 H6
      have hk3:LL - 1 > 0:=hk2
      go_wp2
      go_ret
      exact HRES.out _ rfl
     ·have hres:=HMOD3.out
      rw [if_neg hkeep] at hres
      have HRES:=Lib.hid hres
      clear hres HMOD3
      obtain ⟨e1,e2,e3,e4,e5,e6⟩:=HY.out
      have hst:statusM W1 (k':Int) = (W1.g k').st:=by
       unfold statusM
       rw [if_pos ⟨by omega,by have:=HST2.out;omega⟩,Int.toNat_natCast]
      have HSTA:=Lib.hid (fun (wx:World) (hx:SAt w0 wx b sp L (Y.setM m { Y.m m with L:=LL - 1 }) (CelA qb [.bool kp,.slice ra i2 rc] :: RowGA 1 ra rc i2 (intc rd) :: (D.A s' ++ R)))=>(by
       have:=sd_status hx (k':Int)
       rw [show (Y.setM m { Y.m m with L:=LL - 1 }).W = W1 from e5,hst] at this
       exact this:Calls Tryz.prog 74 #[.pointer (some ⟨b,0,none⟩),.int .i64 (k':Int)] wx fun r w'=>r = .returned (.int .i64 (W1.g k').st) ∧ w' = wx))
      rw [e5] at HRES
      generalize (W1.g k').st = sv at *
      have hcond:(kp = true ∧ LL - 1 > 0) = False:=by simpa using hkeep
      clear e1 e2 e3 e4 e5 e6 hst
      have HB0:=Lib.hid b0
      have HB1:=Lib.hid b1
      have hk0:kp = false ∨ (kp = true ∧ ¬ LL - 1 > 0):=by
       cases kp with
       | false=>exact .inl rfl
       | true=>exact .inr ⟨rfl,fun hc=>hkeep ⟨rfl,hc⟩⟩
      clear hkeep hcond
      rcases hk0 with rfl | ⟨rfl,hk0⟩
      ·skip
       go_upto_region 11 with fail
       refine wp_region_lexK (fun wx=>∃ nq,wx = World.drewN (w6) nq) 7 2 (Array.replicate 9 false) #[true,true,true,true,true,true,true,false,false] (by kernel_rfl) (by kernel_rfl) ?_
       refine wpAnyK_seg 0 7 _ #[true,true,true,true,true,true,true,false,false] 0 (by kernel_rfl) noPanic_put (drew_q w6) (by kernel_rfl) ?_
       simp only [List.take_succ_cons,List.take_zero,List.drop_zero]
       repeat ((first | refine wpSegH_no (by rfl) ?_ | (refine wpSegH_yes (by rfl) ?_;apply Exists.intro;apply And.intro;(· (rintro wx ⟨nq,rfl⟩;go_simp;first | done | with_reducible rfl))));simp only [Act.put,List.setIfInBounds_toArray,List.set_cons_zero,List.set_cons_succ])
       refine wpSegH_nil ?_
       refine wpAnyK_next ?_
       refine wpAnyK_seq 7 (by kernel_rfl) ?_
       simp only [List.drop_succ_cons,List.drop_zero]
       go_wp2_with fail
       refine (HSTA.out _ (H6.out.step (below_dN w6 _))).mono ?_
       rintro r w7 ⟨rfl,rfl⟩
       by_cases hsv:sv = 1
       ·have hsv2:(sv == 1) = true:=by simpa using hsv
        rw [if_pos hsv] at HRES
        have h7:=H6.out.step (below_dN w6 1)
        have y7:=cell_below y1 (below_dN w6 1)
        have HY1:Hid (∀ wx Z,SAt w0 wx b sp L (Y.setM m { Y.m m with L:=LL - 1 }) Z → wx.cell? ⟨mb,off2 + m * 3 + 1,none⟩ = some (.int .i64 (k':Int))):=Lib.hid (fun wx Z hz=>by
         have h2:=(hz.mach HY.out.2.2.2.1 HMA.out).1.2.1
         rw [setM_m HY.out.2.2.1,if_pos rfl] at h2
         simp only at h2
         rw [HY.out.2.1,HGI.out] at h2;exact h2)
        have H7:=Lib.hid h7
        clear hsv h7 HSTA H6 y1 y2 b0 b1 HB0 HB1 g1
        go_wp2_with fail
        refine NoPanic.normal ?_
        go_upto_region 12 with fail
        have h7:=H7.out
        generalize w6.drewN 1 = w7 at *
        have h8:=h7.step (below_drew1 w7)
        refine wp_region_lexK (fun wx=>wx.cell? ⟨mb,off2 + m * 3 + 1,none⟩ = some (.int .i64 (k':Int))) 9 0 (Array.replicate 9 false) #[true,true,true,true,true,true,true,true,true] (by kernel_rfl) (by kernel_rfl) ?_
        refine wpAnyK_seg 0 7 _ #[true,true,true,true,true,true,true,false,false] 2 (by kernel_rfl) noPanic_put (HY1.out _ _ h8) (by kernel_rfl) ?_
        simp only [List.take_succ_cons,List.take_zero,List.drop_zero]
        repeat ((first | refine wpSegH_no (by rfl) ?_ | (refine wpSegH_yes (by rfl) ?_;apply Exists.intro;apply And.intro;(· (intro wx hS;(try dsimp only at hS);go_simp;first | done | with_reducible rfl))));simp only [Act.put,List.setIfInBounds_toArray,List.set_cons_zero,List.set_cons_succ])
        refine wpSegH_nil ?_
        have h9:=h8.box [.int .i64 (k':Int)] 3
        refine wpAnyK_one 7 _ #[true,true,true,true,true,true,true,true,false] 1 (by kernel_rfl) (fun K hK=>?_)
        have HKK:=Lib.hid hK
        clear hK
        simp only [List.drop_succ_cons,List.drop_zero]
        refine headH_mk (by rfl) ?_
        go_simp
        refine HKK.out _ _ (HY1.out _ _ h9) ?_
        clear HKK K
        refine wpAnyK_one 8 _ #[true,true,true,true,true,true,true,true,true] 0 (by kernel_rfl) (fun K hK=>?_)
        have HKK:=Lib.hid hK
        clear hK
        simp only [List.drop_succ_cons,List.drop_zero]
        refine headH_mk (by rfl) ?_
        go_simp
        refine (sd_gput h9 (some ⟨w7.drew.heap.size,0,none⟩) 1 1 [(k':Int)] rfl (RowAt.one w7.drew (k':Int) 3 rfl).ints (by have:=HY.out.2.2.2.2.2;show Y.gl.length + 1 ≤ _;omega)).mono ?_
        rintro r w10 ⟨rfl,h10⟩
        have e10:w10.cell? ⟨mb,off2 + m * 3 + 1,none⟩ = some (.int .i64 (k':Int)):=by
         have h2:w10.cell? ⟨mb,off2 + m * 3 + 1,none⟩ = some (.int .i64 ((Y.setM m { Y.m m with L:=LL - 1 }).m m).G):=(h10.mach (i:=m) HY.out.2.2.2.1 HMA.out).1.2.1
         rw [setM_m HY.out.2.2.1,if_pos rfl] at h2
         simp only at h2
         rw [HY.out.2.1,HGI.out] at h2;exact h2
        refine HKK.out _ _ (e10) ?_
        clear HKK K
        refine wpAnyK_next ?_
        refine wpAnyK_done (by kernel_rfl) (NoPanic.normal ?_)
        have h11:=h10.setG (i:=m) HY.out.2.2.2.1 HMA.out (-1)
        obtain ⟨⟨-,d1,-⟩,-,k1,-⟩:=h10.mach (i:=m) HY.out.2.2.2.1 HMA.out
        have e8:=(h11.less.cel 1 _ rfl).1
        have HF:Hid (∀ rr,rr = Ending.returned (.slice ra i2 rc) → RunP w0 b sp L D s X R j m k' rr (w10.setCell ⟨mb,off2 + m * 3 + 1,none⟩ (.int .i64 (-1)))):=Lib.hid (fun rr e=>by
         rw [e]
         refine HPO.out _ _ h11.less.less ?_
         rw [HRES.out]
         congr 1
         show _ = ({ (Y.setM m { Y.m m with L:=LL - 1 }).setM m { (Y.setM m { Y.m m with L:=LL - 1 }).m m with G:=-1 } with gl:=Y.gl ++ [(k':Int)] }:Sd)
         rw [setM_setM,setM_m HY.out.2.2.1,if_pos rfl])
        clear h7 h8 h9 h10 h11 y7 HRES HPO e10 H7 HY1
        go_upto_region 14 with fail
        clear d1 k1
        generalize w10.setCell ⟨mb,off2 + m * 3 + 1,none⟩ (.int .i64 (-1)) = w11 at *
        go_wp2
        go_ret
        exact HF.out _ rfl
       ·have hsv2:(sv == 1) = false:=by simpa using hsv
        rw [if_neg hsv] at HRES
        have h8:=(H6.out.step (below_dN w6 1)).setG HY.out.2.2.2.1 HMA.out (-1)
        obtain ⟨⟨-,d1,-⟩,-,k1,-⟩:=(H6.out.step (below_dN w6 1)).mach HY.out.2.2.2.1 HMA.out
        have e8:=(h8.cel 1 _ rfl).1
        have HF:Hid (∀ rr,rr = Ending.returned (.slice ra i2 rc) → RunP w0 b sp L D s X R j m k' rr ((w6.drewN 1).setCell ⟨mb,off2 + m * 3 + 1,none⟩ (.int .i64 (-1)))):=Lib.hid (fun rr e=>by
         rw [e]
         refine HPO.out _ _ h8.less ?_
         rw [HRES.out]
         congr 1
         rw [setM_setM,setM_m HY.out.2.2.1,if_pos rfl]
         rfl)
        clear hsv h8 HSTA H6 y1 y2 b0 b1 HB0 HB1 g1 HRES HPO
        go_wp2_with fail
        refine NoPanic.normal ?_
        go_upto_region 14 with fail
        clear d1 k1
        generalize (w6.drewN 1).setCell ⟨mb,off2 + m * 3 + 1,none⟩ (.int .i64 (-1)) = w9 at *
        go_wp2
        go_ret
        exact HF.out _ rfl
      ·skip
       go_upto_region 11 with fail
       refine wp_region_lexK (fun wx=>∃ nq,wx = World.drewN (w6) nq) 7 2 (Array.replicate 9 false) #[true,true,true,true,true,true,true,false,false] (by kernel_rfl) (by kernel_rfl) ?_
       refine wpAnyK_seg 0 7 _ #[true,true,true,true,true,true,true,false,false] 0 (by kernel_rfl) noPanic_put (drew_q w6) (by kernel_rfl) ?_
       simp only [List.take_succ_cons,List.take_zero,List.drop_zero]
       repeat ((first | refine wpSegH_no (by rfl) ?_ | (refine wpSegH_yes (by rfl) ?_;apply Exists.intro;apply And.intro;(· (rintro wx ⟨nq,rfl⟩;go_simp;first | done | with_reducible rfl))));simp only [Act.put,List.setIfInBounds_toArray,List.set_cons_zero,List.set_cons_succ])
       refine wpSegH_nil ?_
       refine wpAnyK_next ?_
       refine wpAnyK_seq 7 (by kernel_rfl) ?_
       simp only [List.drop_succ_cons,List.drop_zero]
       go_wp2_with fail
       refine (HSTA.out _ (H6.out.step (below_dN w6 _))).mono ?_
       rintro r w7 ⟨rfl,rfl⟩
       by_cases hsv:sv = 1
       ·have hsv2:(sv == 1) = true:=by simpa using hsv
        rw [if_pos hsv] at HRES
        have h7:=H6.out.step (below_dN w6 1)
        have y7:=cell_below y1 (below_dN w6 1)
        have HY1:Hid (∀ wx Z,SAt w0 wx b sp L (Y.setM m { Y.m m with L:=LL - 1 }) Z → wx.cell? ⟨mb,off2 + m * 3 + 1,none⟩ = some (.int .i64 (k':Int))):=Lib.hid (fun wx Z hz=>by
         have h2:=(hz.mach HY.out.2.2.2.1 HMA.out).1.2.1
         rw [setM_m HY.out.2.2.1,if_pos rfl] at h2
         simp only at h2
         rw [HY.out.2.1,HGI.out] at h2;exact h2)
        have H7:=Lib.hid h7
        clear hsv h7 HSTA H6 y1 y2 b0 b1 HB0 HB1 g1
        go_wp2_with fail
        refine NoPanic.normal ?_
        go_upto_region 12 with fail
        have h7:=H7.out
        generalize w6.drewN 1 = w7 at *
        have h8:=h7.step (below_drew1 w7)
        refine wp_region_lexK (fun wx=>wx.cell? ⟨mb,off2 + m * 3 + 1,none⟩ = some (.int .i64 (k':Int))) 9 0 (Array.replicate 9 false) #[true,true,true,true,true,true,true,true,true] (by kernel_rfl) (by kernel_rfl) ?_
        refine wpAnyK_seg 0 7 _ #[true,true,true,true,true,true,true,false,false] 2 (by kernel_rfl) noPanic_put (HY1.out _ _ h8) (by kernel_rfl) ?_
        simp only [List.take_succ_cons,List.take_zero,List.drop_zero]
        repeat ((first | refine wpSegH_no (by rfl) ?_ | (refine wpSegH_yes (by rfl) ?_;apply Exists.intro;apply And.intro;(· (intro wx hS;(try dsimp only at hS);go_simp;first | done | with_reducible rfl))));simp only [Act.put,List.setIfInBounds_toArray,List.set_cons_zero,List.set_cons_succ])
        refine wpSegH_nil ?_
        have h9:=h8.box [.int .i64 (k':Int)] 3
        refine wpAnyK_one 7 _ #[true,true,true,true,true,true,true,true,false] 1 (by kernel_rfl) (fun K hK=>?_)
        have HKK:=Lib.hid hK
        clear hK
        simp only [List.drop_succ_cons,List.drop_zero]
        refine headH_mk (by rfl) ?_
        go_simp
        refine HKK.out _ _ (HY1.out _ _ h9) ?_
        clear HKK K
        refine wpAnyK_one 8 _ #[true,true,true,true,true,true,true,true,true] 0 (by kernel_rfl) (fun K hK=>?_)
        have HKK:=Lib.hid hK
        clear hK
        simp only [List.drop_succ_cons,List.drop_zero]
        refine headH_mk (by rfl) ?_
        go_simp
        refine (sd_gput h9 (some ⟨w7.drew.heap.size,0,none⟩) 1 1 [(k':Int)] rfl (RowAt.one w7.drew (k':Int) 3 rfl).ints (by have:=HY.out.2.2.2.2.2;show Y.gl.length + 1 ≤ _;omega)).mono ?_
        rintro r w10 ⟨rfl,h10⟩
        have e10:w10.cell? ⟨mb,off2 + m * 3 + 1,none⟩ = some (.int .i64 (k':Int)):=by
         have h2:w10.cell? ⟨mb,off2 + m * 3 + 1,none⟩ = some (.int .i64 ((Y.setM m { Y.m m with L:=LL - 1 }).m m).G):=(h10.mach (i:=m) HY.out.2.2.2.1 HMA.out).1.2.1
         rw [setM_m HY.out.2.2.1,if_pos rfl] at h2
         simp only at h2
         rw [HY.out.2.1,HGI.out] at h2;exact h2
        refine HKK.out _ _ (e10) ?_
        clear HKK K
        refine wpAnyK_next ?_
        refine wpAnyK_done (by kernel_rfl) (NoPanic.normal ?_)
        have h11:=h10.setG (i:=m) HY.out.2.2.2.1 HMA.out (-1)
        obtain ⟨⟨-,d1,-⟩,-,k1,-⟩:=h10.mach (i:=m) HY.out.2.2.2.1 HMA.out
        have e8:=(h11.less.cel 1 _ rfl).1
        have HF:Hid (∀ rr,rr = Ending.returned (.slice ra i2 rc) → RunP w0 b sp L D s X R j m k' rr (w10.setCell ⟨mb,off2 + m * 3 + 1,none⟩ (.int .i64 (-1)))):=Lib.hid (fun rr e=>by
         rw [e]
         refine HPO.out _ _ h11.less.less ?_
         rw [HRES.out]
         congr 1
         show _ = ({ (Y.setM m { Y.m m with L:=LL - 1 }).setM m { (Y.setM m { Y.m m with L:=LL - 1 }).m m with G:=-1 } with gl:=Y.gl ++ [(k':Int)] }:Sd)
         rw [setM_setM,setM_m HY.out.2.2.1,if_pos rfl])
        clear h7 h8 h9 h10 h11 y7 HRES HPO e10 H7 HY1
        go_upto_region 14 with fail
        clear d1 k1
        generalize w10.setCell ⟨mb,off2 + m * 3 + 1,none⟩ (.int .i64 (-1)) = w11 at *
        go_wp2
        go_ret
        exact HF.out _ rfl
       ·have hsv2:(sv == 1) = false:=by simpa using hsv
        rw [if_neg hsv] at HRES
        have h8:=(H6.out.step (below_dN w6 1)).setG HY.out.2.2.2.1 HMA.out (-1)
        obtain ⟨⟨-,d1,-⟩,-,k1,-⟩:=(H6.out.step (below_dN w6 1)).mach HY.out.2.2.2.1 HMA.out
        have e8:=(h8.cel 1 _ rfl).1
        have HF:Hid (∀ rr,rr = Ending.returned (.slice ra i2 rc) → RunP w0 b sp L D s X R j m k' rr ((w6.drewN 1).setCell ⟨mb,off2 + m * 3 + 1,none⟩ (.int .i64 (-1)))):=Lib.hid (fun rr e=>by
         rw [e]
         refine HPO.out _ _ h8.less ?_
         rw [HRES.out]
         congr 1
         rw [setM_setM,setM_m HY.out.2.2.1,if_pos rfl]
         rfl)
        clear hsv h8 HSTA H6 y1 y2 b0 b1 HB0 HB1 g1 HRES HPO
        go_wp2_with fail
        refine NoPanic.normal ?_
        go_upto_region 14 with fail
        clear d1 k1
        generalize (w6.drewN 1).setCell ⟨mb,off2 + m * 3 + 1,none⟩ (.int .i64 (-1)) = w9 at *
        go_wp2
        go_ret
        exact HF.out _ rfl
  ·exact ⟨rfl,RunP.dry hak hdp hok' (SAt.less (h3.perm List.perm_middle))⟩
end Go.Proofs.YtodjgipiomnnfaaGreat
open Go Go.RowKit
set_option linter.unusedVariables false
namespace Go.Proofs.YtodjgipiomnnfaaGreat
theorem hold_any {w0 w:World} {b sp:Nat} {L:Sl} {X:Sd} {R:List Asr} (h:SAt w0 w b sp L X R) {m:Nat} (hm:m < X.ms.length) (hn:X.ps.length ≤ 1000) (hn2:X.ms.length ≤ 1000) :
  Calls Tryz.prog 58 #[.pointer (some ⟨b,0,none⟩),.int .i64 (m:Int)] w fun r w'=>r = .returned (.int .i64 (holdM X m).2) ∧ SAt w0 w' b sp L (holdM X m).1 R:=by
 obtain ⟨C12,c12⟩:=h.c12
 obtain ⟨C13,c13⟩:=h.c13
 have HP:=Lib.hid (fun (i:Nat) (hi:i < X.ps.length)=>(by
  obtain ⟨pb,off,p,g,k1,k2⟩:=h.pa hi
  exact ⟨pb,off,p,g,k1,k2,h.proc hi k1 k2⟩:∃ pb off p g,L.pa = some ⟨pb,off,none⟩ ∧ L.ld[i]? = some (p,g) ∧ (w.cell? ⟨pb,off + i * 3,none⟩ = some (.pointer (some ⟨p,0,none⟩)) ∧ w.cell? ⟨pb,off + i * 3 + 1,none⟩ = some (.int .i64 ((X.p i).tu:Int)) ∧ w.cell? ⟨pb,off + i * 3 + 2,none⟩ = some (.int .i64 (X.p i).by_)) ∧
  w.frozen? ⟨pb,off + i * 3 + 1,none⟩ = false ∧ w.frozen? ⟨pb,off + i * 3 + 2,none⟩ = false))
 obtain ⟨mb,off2,hma⟩:=h.ma hm
 rw [hma] at c13
 have HMA:=Lib.hid hma
 have HE:=Lib.hid (fun (i:Nat) (hi:i < X.ps.length) (hb:(X.p i).by_ = -1) (hall:∀ j,j < i → (X.p j).by_ ≠ -1)=>(by
  unfold holdM
  have e:X.ps.findIdx? (fun p=>p.by_ == -1) = some i:=by
   rw [List.findIdx?_eq_some_iff_getElem]
   have eg:∀ j (hj:j < X.ps.length),X.ps[j] = X.p j:=fun j hj=>by
    have:=X.p_at hj;rw [List.getElem?_eq_getElem hj] at this;simpa using this
   exact ⟨hi,by rw [eg i hi];simpa using hb,fun j hj=>by rw [eg j (by omega)];simpa using hall j hj⟩
  rw [e]:holdM X m = ((X.setP i { X.p i with by_:=(m:Int) }).setM m { X.m m with P:=(i:Int) },2)))
 have HN:=Lib.hid (fun (hall:∀ j,j < X.ps.length → (X.p j).by_ ≠ -1)=>(by
  unfold holdM
  have e:X.ps.findIdx? (fun p=>p.by_ == -1) = none:=by
   rw [List.findIdx?_eq_none_iff]
   intro P hP
   obtain ⟨j,hj,rfl⟩:=List.getElem_of_mem hP
   have eg:=X.p_at hj
   rw [List.getElem?_eq_getElem hj] at eg
   simp only [Option.some.injEq] at eg
   rw [eg];simpa using hall j hj
  rw [e]:holdM X m = (X,3)))
 have H:=Lib.hid h
 generalize hrr:holdM X m = rr at *
 have HRR:=Lib.hid hrr
 have hmX:(m:Int) < (X.ms.length:Int):=by omega
 have hm0:(0:Int) ≤ (m:Int):=by omega
 have HMX:=Lib.hid hm
 obtain ⟨N,hN⟩:∃ N,N = X.ps.length:=⟨_,rfl⟩
 have HNN:=Lib.hid hN
 obtain ⟨K,hK⟩:∃ K,K = X.ms.length:=⟨_,rfl⟩
 rw [← hN] at HP HE HN c12 hn
 rw [← hK] at c13 hmX hn2
 have HKK:=Lib.hid hK
 clear h hma hrr hN hK hm
 go_enter Tryz.func58,Tryz.ntmps58
 go_wp2_with fail
 go_loopw [12] (fun iv wr=>∃ i:Nat,i ≤ N ∧ iv = .int .i64 i ∧ wr = w ∧ Hid (∀ j,j < i → (X.p j).by_ ≠ -1)) (fun iv _=>N - (intOf iv).toNat)
 case atStart=>exact ⟨0,by omega,rfl,rfl,Lib.hid (fun j hj=>by omega)⟩
 case round =>
  obtain ⟨i,hi,rfl,rfl,hall⟩:=hrel
  by_cases hlt:i < N
  ·have hlt2:(i:Int) < (N:Int):=by omega
   have hi0:(0:Int) ≤ (i:Int):=by omega
   obtain ⟨pb,off,p,g,hpa,-,⟨x0,x1,x2⟩,y1,y2⟩:=HP.out i hlt
   rw [hpa] at c12
   have HPA:=Lib.hid hpa
   clear hpa x0 x1 y1
   by_cases hby:(X.p i).by_ = -1
   ·have o1:=H.out.setBy (by rw [← HNN.out];exact hlt) HPA.out (m:Int)
    obtain ⟨⟨z0,z1,z2⟩,f0,f1,f2⟩:=o1.mach (i:=m) (by exact HMX.out) HMA.out
    have o2:=o1.setP (i:=m) (by exact HMX.out) HMA.out (i:Int)
    have hres:=HE.out i hlt hby hall.out
    have HFIN:Hid (rr.2 = 2 ∧ SAt w0 ((wr.setCell ⟨pb,off + i * 3 + 2,none⟩ (.int .i64 (m:Int))).setCell ⟨mb,off2 + m * 3,none⟩ (.int .i64 (i:Int))) b sp L rr.1 R):=Lib.hid (by
     rw [hres]
     exact ⟨rfl,o2⟩)
    rw [hby] at x2
    clear o1 o2 hres z1 z2 f1 f2 hby
    go_wp2
    go_ret
    exact ⟨by rw [HFIN.out.1];rfl,HFIN.out.2⟩
   ·have hb2:((X.p i).by_ == -1) = false:=by simpa using hby
    have H2:Hid (∀ j,j < i + 1 → (X.p j).by_ ≠ -1):=Lib.hid (fun j hj=>by
     rcases Nat.lt_succ_iff_lt_or_eq.1 hj with h | h
     ·exact hall.out j h
     ·rw [h];exact hby)
    generalize (X.p i).by_ = bv at *
    clear hby hall
    go_wp2
    exact ⟨⟨i + 1,by omega,by go_num,by trivial,H2⟩,by simp [intOf];omega⟩
  ·obtain rfl:i = N:=by omega
   have hres:=HN.out hall.out
   have HFIN:Hid (rr.2 = 3 ∧ SAt w0 wr b sp L rr.1 R):=Lib.hid (by rw [hres];exact ⟨rfl,H.out⟩)
   clear hres
   go_wp2
   go_ret
   exact ⟨by rw [HFIN.out.1];rfl,HFIN.out.2⟩
def evV (e:Ev) (ra:Option Addr) (rc:Nat):Value:=.agg #[.int .i64 e.kind,.int .i64 e.M,.int .i64 e.G,.slice ra e.rd.length rc]
def evz:List Value:=[.int .i64 0,.int .i64 0,.int .i64 0,.slice none 0 0]
theorem ev_get {w:World} {q:Nat} {a b c:Int} {ra:Option Addr} {n rc:Nat} (e0:w.cell? ⟨q,0,none⟩ = some (.int .i64 a)) (e1:w.cell? ⟨q,1,none⟩ = some (.int .i64 b)) (e2:w.cell? ⟨q,2,none⟩ = some (.int .i64 c)) (e3:w.cell? ⟨q,3,none⟩ = some (.slice ra n rc)) :
  (loadVar 46 ⟨q,0,none⟩).run Tryz.prog w = .ok (.agg #[.int .i64 a,.int .i64 b,.int .i64 c,.slice ra n rc]) w:=by
 simp [go_sem,e0,e1,e2,e3]
theorem stick_any {w0 w:World} {b sp:Nat} {L:Sl} {X:Sd} {R:List Asr} {B:Nat} (h:SAt w0 w b sp L X R) (wf:SdWF B X) (hB:B ≤ 80000) :
  Calls Tryz.prog 57 #[.pointer (some ⟨b,0,none⟩)] w fun r w'=>∃ ra rc,r = .returned (evV (pickedM X X.ms.length 0).2 ra rc) ∧ SAt w0 w' b sp L (pickedM X X.ms.length 0).1 (RowGA 1 ra rc (pickedM X X.ms.length 0).2.rd.length (intc (pickedM X X.ms.length 0).2.rd) :: R):=by
 have hpk:pickedM X X.ms.length 0 = ((clockM X).1,⟨1,-1,-1,(clockM X).2⟩):=by unfold pickedM;rw [if_pos rfl]
 rw [hpk]
 unfold clockM evV
 simp only
 have h1:=h.box evz 46
 have HT:=Lib.hid (sd_tick h1 wf.wf hB)
 have hl:(tickM X.W).2.length ≤ 100:=by
  have tk:=tk_tick wf.wf
  have hw:=wf.wf.tick.1
  refine Nat.le_trans (nodup_len _ _ tk.nd (fun x hx=>?_)) hw.g1.2
  obtain ⟨q,e,-,hs⟩:=tk.st x hx
  refine ⟨by omega,?_⟩
  rcases Nat.lt_or_ge q (tickM X.W).1.gs.length with h1 | h1
  ·omega
  ·rw [g_out (by omega)] at hs;exact absurd hs (by decide)
 have hgl:=wf.gl
 generalize htk:tickM X.W = tk at *
 obtain ⟨W1,rd⟩:=tk
 simp only at HT hl ⊢
 obtain ⟨N,hN⟩:∃ N,N = rd.length:=⟨_,rfl⟩
 rw [← hN] at HT hl ⊢
 have HN:=Lib.hid hN
 have HPUT:=Lib.hid (fun (wx:World) (a:Option Addr) (c:Nat) (Z:List Asr) (hx:SAt w0 wx b sp L { X with W:=W1 } (RowGA 1 a c N (intc rd) :: Z))=>(by
  obtain ⟨S,k1,k2⟩:=hx.tail
  have hr:=Own.rowG k1 0 rfl
  exact sd_gput hx a N c rd HN.out (RowG.to_row hr).1.ints (by rw [← HN.out];show X.gl.length + N ≤ _;omega):Calls Tryz.prog 28 #[.pointer (some ⟨b,14,none⟩),.slice a N c] wx fun r w'=>r = .returned (.tuple #[]) ∧ SAt w0 w' b sp L { X with W:=W1,gl:=X.gl ++ rd } (RowGA 1 a c N (intc rd) :: Z)))
 have H1:=Lib.hid h1
 clear h h1 wf hl hgl htk hN hpk
 unfold evz at H1 HT
 go_enter Tryz.func57,Tryz.ntmps57
 go_upto_region 1 with fail
 generalize w.alloc (.cells [.int .i64 0,.int .i64 0,.int .i64 0,.slice none 0 0].toArray 46) = w1 at *
 go_wp2_with fail
 refine HT.out.mono ?_
 rintro r w2 ⟨ra,rc,rfl,h2⟩
 have HP:=Lib.hid (HPUT.out _ _ _ _ h2)
 clear h2 HPUT HT
 go_wp2_with fail
 refine HP.out.mono ?_
 rintro r w3 ⟨rfl,h3⟩
 have h4:=h3.perm (List.Perm.swap _ _ _)
 generalize w.heap.size = q at *
 obtain ⟨x0,y0⟩:=h4.cel 0 _ rfl
 obtain ⟨x1,y1⟩:=h4.cel 1 _ rfl
 obtain ⟨x2,y2⟩:=h4.cel 2 _ rfl
 obtain ⟨x3,y3⟩:=h4.cel 3 _ rfl
 have h5:=(((h4.setBox 0 (.int .i64 1)).setBox 1 (.int .i64 (-1))).setBox 2 (.int .i64 (-1))).setBox 3 (.slice ra N rc)
 obtain ⟨u0,-⟩:=h5.cel 0 _ rfl
 obtain ⟨u1,-⟩:=h5.cel 1 _ rfl
 obtain ⟨u2,-⟩:=h5.cel 2 _ rfl
 obtain ⟨u3,-⟩:=h5.cel 3 _ rfl
 have H5:=Lib.hid h5.less
 clear h3 h4 h5 H1 HP
 have EG:=ev_get u0 u1 u2 u3
 go_wp2
 exact bodyPost_ret (results_cell Tryz.results57 _ ⟨q,0,none⟩ rfl EG) rfl ⟨ra,rc,rfl,H5.out⟩
theorem perm_two {α:Type _} {a b:α} {A R:List α}:List.Perm (a :: b :: (A ++ R)) (A ++ (a :: b :: R)):=(List.Perm.cons a List.perm_middle.symm).trans List.perm_middle.symm
theorem perm_four {α:Type _} {a b c r:α} {A R:List α}:List.Perm (r :: (A ++ (a :: b :: c :: R))) (a :: b :: c :: r :: (A ++ R)):=(List.Perm.cons r (List.perm_middle.trans (List.Perm.cons a (List.perm_middle.trans (List.Perm.cons b List.perm_middle))))).trans ((List.Perm.swap _ _ _).trans (List.Perm.cons a ((List.Perm.swap _ _ _).trans (List.Perm.cons b (List.Perm.swap _ _ _)))))
theorem perm_three {α:Type _} {a b c:α} {A R:List α}:List.Perm (c :: a :: b :: (A ++ R)) (A ++ (a :: b :: c :: R)):=(List.Perm.cons c perm_two).trans (List.perm_middle.symm.trans (List.Perm.append_left A (List.perm_middle (l₁:=[a,b]) (l₂:=R)).symm))
def PickP (w0:World) (b sp:Nat) (L:Sl) (D:Drw sp) (s:D.T) (X:Sd) (R:List Asr) (j m:Nat) (r:Ending) (w':World):Prop :=
 (∃ v s' ra rc,Fit D s (asks2 X m) v s' ∧ D.ok j s' ∧ r = .returned (evV (pickedM X m v).2 ra rc) ∧ SAt w0 w' b sp L (pickedM X m v).1 (RowGA 1 ra rc (pickedM X m v).2.rd.length (intc (pickedM X m v).2.rd) :: (D.A s' ++ R))) ∨
 (∃ ch s' kd n,r = .panicked ch ∧ asks2 X m = some (kd,n) ∧ D.Dp s kd n r s' ∧ D.ok j s' ∧ SAt w0 w' b sp L X (D.A s' ++ R))
theorem SAt.nilRow {w0 w:World} {b sp:Nat} {L:Sl} {X:Sd} {R:List Asr} (h:SAt w0 w b sp L X R):SAt w0 w b sp L X (RowGA 1 none 0 0 [] :: R):=by
 obtain ⟨S,h1,h2⟩:=h.tail
 exact h2 _ _ (Own.rowNil0 1 h1)
theorem pick_clock {w0 w:World} {b sp:Nat} {L:Sl} {X:Sd} {R:List Asr} {D:Drw sp} {s:D.T} {j B:Nat} (h:SAt w0 w b sp L X (D.A s ++ R)) (hok:D.ok (j + 1) s) (wf:SdWF B X) (hB:B ≤ 80000) :
  Calls Tryz.prog 41 #[.pointer (some ⟨b,0,none⟩),.int .i64 (X.ms.length:Int)] w (PickP w0 b sp L D s X R j X.ms.length):=by
 have h1:=h.box evz 46
 have HT:=Lib.hid (stick_any h1 wf hB)
 obtain ⟨C13,c13⟩:=h1.c13
 have ha:asks2 X X.ms.length = none:=by unfold asks2;rw [if_pos rfl]
 have HEND:Hid (∀ ra rc wx rr,rr = Ending.returned (evV (pickedM X X.ms.length 0).2 ra rc) → SAt w0 wx b sp L (pickedM X X.ms.length 0).1 (RowGA 1 ra rc (pickedM X X.ms.length 0).2.rd.length (intc (pickedM X X.ms.length 0).2.rd) :: (D.A s ++ R)) → PickP w0 b sp L D s X R j X.ms.length rr wx):=Lib.hid (fun ra rc wx rr e hx=>.inl ⟨0,s,ra,rc,.inl ⟨ha,rfl,rfl⟩,D.less _ _ hok,e,hx⟩)
 generalize pickedM X X.ms.length 0 = pk at *
 obtain ⟨Y,k0,M0,G0,rd⟩:=pk
 unfold evV at HT HEND
 simp only at HT HEND
 obtain ⟨K,hK⟩:∃ K,K = X.ms.length:=⟨_,rfl⟩
 rw [← hK] at c13 HEND ⊢
 generalize rd.length = N at *
 clear h h1 hok wf ha hK
 unfold evz at HT c13
 go_enter Tryz.func41,Tryz.ntmps41
 go_upto_region 1 with fail
 generalize w.alloc (.cells [.int .i64 0,.int .i64 0,.int .i64 0,.slice none 0 0].toArray 46) = w1 at *
 go_wp2_with fail
 refine HT.out.mono ?_
 rintro r w2 ⟨ra,rc,rfl,h2⟩
 generalize w.heap.size = q at *
 have h3:=h2.perm (List.Perm.swap _ _ _)
 obtain ⟨x0,y0⟩:=h3.cel 0 _ rfl
 obtain ⟨x1,y1⟩:=h3.cel 1 _ rfl
 obtain ⟨x2,y2⟩:=h3.cel 2 _ rfl
 obtain ⟨x3,y3⟩:=h3.cel 3 _ rfl
 have h5:=(((h3.setBox 0 (.int .i64 k0)).setBox 1 (.int .i64 M0)).setBox 2 (.int .i64 G0)).setBox 3 (.slice ra N rc)
 have EG:=ev_get (h5.cel 0 _ rfl).1 (h5.cel 1 _ rfl).1 (h5.cel 2 _ rfl).1 (h5.cel 3 _ rfl).1
 have H5:=Lib.hid h5.less
 clear h2 h3 h5 HT
 go_wp2
 exact bodyPost_ret (results_cell Tryz.results41 _ ⟨q,0,none⟩ rfl EG) rfl (HEND.out ra rc _ _ rfl H5.out)
theorem pick_hold {w0 w:World} {b sp:Nat} {L:Sl} {X:Sd} {R:List Asr} {D:Drw sp} {s:D.T} {j B:Nat} (h:SAt w0 w b sp L X (D.A s ++ R)) (hok:D.ok (j + 1) s) (wf:SdWF B X) (hB:B ≤ 80000) {m:Nat} (hm:m < X.ms.length) (hP:(X.m m).P = -1) :
  Calls Tryz.prog 41 #[.pointer (some ⟨b,0,none⟩),.int .i64 (m:Int)] w (PickP w0 b sp L D s X R j m):=by
 obtain ⟨mb,off2,hma⟩:=h.ma hm
 have hne:((m:Int) == (X.ms.length:Int)) = false:=by rw [beq_eq_false_iff_ne];omega
 have hnp:=wf.np
 have hnm:=wf.nm
 have hmX:(m:Int) < (X.ms.length:Int):=by omega
 have hm0:(0:Int) ≤ (m:Int):=by omega
 have h1:=h.box evz 46
 obtain ⟨C13,c13⟩:=h1.c13
 rw [hma] at c13
 obtain ⟨K,hK⟩:∃ K,K = X.ms.length:=⟨_,rfl⟩
 have HC13:=Lib.hid (fun (wx:World) (Z:List Asr) (hx:SAt w0 wx b sp L X Z)=>(by
  obtain ⟨C,hc⟩:=hx.c13
  rw [hma,← hK] at hc
  exact ⟨C,hc⟩:∃ C,wx.cell? ⟨b,13,none⟩ = some (.slice (some ⟨mb,off2,none⟩) K C)))
 have HM:=Lib.hid (fun (wx:World) (Z:List Asr) (hx:SAt w0 wx b sp L X Z)=>hx.mach hm hma)
 have H1:=Lib.hid h1
 rw [← hK] at c13 hne hmX
 have ha:asks2 X m = none:=by unfold asks2;rw [if_neg (by omega),if_pos hP]
 have hpk:∀ v,pickedM X m v = ((holdM X m).1,⟨(holdM X m).2,(m:Int),-1,[]⟩):=fun v=>by unfold pickedM;rw [if_neg (by omega),if_pos hP]
 have HH:=Lib.hid (fun (wx:World) (Z:List Asr) (hx:SAt w0 wx b sp L X Z)=>hold_any hx hm (by omega) (by omega))
 have HEND:Hid (∀ wx rr,rr = Ending.returned (.agg #[.int .i64 (holdM X m).2,.int .i64 (m:Int),.int .i64 (-1),.slice none 0 0]) → SAt w0 wx b sp L (holdM X m).1 (D.A s ++ R) → PickP w0 b sp L D s X R j m rr wx):=Lib.hid (fun wx rr e hx=>.inl ⟨0,s,none,0,.inl ⟨ha,rfl,rfl⟩,D.less _ _ hok,by rw [hpk,e];rfl,by rw [hpk];exact hx.nilRow⟩)
 generalize holdM X m = hd at *
 obtain ⟨Y,kd⟩:=hd
 simp only at HH HEND
 rw [hP] at HM
 obtain ⟨mP,hmP⟩:∃ mP:Int,mP = -1:=⟨_,rfl⟩
 generalize (X.m m).G = mG at *
 generalize (X.m m).L = mL at *
 rw [← hmP] at HM
 have HmP:=Lib.hid hmP
 clear h h1 hok wf hnp hnm hma ha hpk hm hP hK hmP
 unfold evz at H1 c13
 go_enter Tryz.func41,Tryz.ntmps41
 go_upto_region 1 with fail
 generalize w.alloc (.cells [.int .i64 0,.int .i64 0,.int .i64 0,.slice none 0 0].toArray 46) = w1 at *
 generalize w.heap.size = q at *
 go_upto_region 4 with fail
 have H2:=Lib.hid (H1.out.box [.int .i64 0,.int .i64 (m:Int),.int .i64 (-1),.slice none 0 0] 46)
 clear H1 c13
 generalize w1.alloc (.cells #[.int .i64 0,.int .i64 (m:Int),.int .i64 (-1),.slice none 0 0] 46) = w2 at *
 generalize w1.heap.size = q5 at *
 obtain ⟨C2,d13⟩:=HC13.out _ _ H2.out
 obtain ⟨⟨z0,z1,z2⟩,-⟩:=HM.out _ _ H2.out
 have H3:=Lib.hid (H2.out.box [.int .i64 mP,.int .i64 mG,.int .i64 mL] 66)
 clear H2
 go_upto_region 6 with fail
 clear z0 z1 z2 d13
 generalize w2.alloc (.cells #[.int .i64 mP,.int .i64 mG,.int .i64 mL] 66) = w3 at *
 generalize w2.heap.size = q6 at *
 have x0:=(H3.out.cel 0 _ rfl).1
 have x1:=(H3.out.cel 1 _ rfl).1
 obtain rfl:=HmP.out
 go_wp2_with fail
 refine (HH.out _ _ H3.out).mono ?_
 rintro r w4 ⟨rfl,h4⟩
 have h5:=h4.less
 obtain ⟨y0,v0⟩:=h5.cel 0 _ rfl
 obtain ⟨y1,v1⟩:=h5.cel 1 _ rfl
 obtain ⟨y2,v2⟩:=h5.cel 2 _ rfl
 obtain ⟨y3,v3⟩:=h5.cel 3 _ rfl
 have h6:=h5.setBox 0 (.int .i64 kd)
 obtain ⟨u0,-⟩:=h6.cel 0 _ rfl
 obtain ⟨u1,-⟩:=h6.cel 1 _ rfl
 obtain ⟨u2,-⟩:=h6.cel 2 _ rfl
 obtain ⟨u3,-⟩:=h6.cel 3 _ rfl
 clear h4 h5 H3 HH HM HC13 x0 x1
 go_upto_region 10 with fail
 clear y0 y1 y2 y3 v0 v1 v2 v3
 generalize w4.setCell ⟨q5,0,none⟩ (.int .i64 kd) = w5 at *
 have h7:=h6.perm (List.Perm.swap _ _ _)
 obtain ⟨p0,r0⟩:=h7.cel 0 _ rfl
 obtain ⟨p1,r1⟩:=h7.cel 1 _ rfl
 obtain ⟨p2,r2⟩:=h7.cel 2 _ rfl
 obtain ⟨p3,r3⟩:=h7.cel 3 _ rfl
 have h8:=(((h7.setBox 0 (.int .i64 kd)).setBox 1 (.int .i64 (m:Int))).setBox 2 (.int .i64 (-1))).setBox 3 (.slice none 0 0)
 have EG:=ev_get (h8.cel 0 _ rfl).1 (h8.cel 1 _ rfl).1 (h8.cel 2 _ rfl).1 (h8.cel 3 _ rfl).1
 have H8:=Lib.hid h8.less.less
 clear h6 h7 h8
 go_wp2
 exact bodyPost_ret (results_cell Tryz.results41 _ ⟨q,0,none⟩ rfl EG) rfl (HEND.out _ _ rfl H8.out)
theorem pick_look {w0 w:World} {b sp:Nat} {L:Sl} {X:Sd} {R:List Asr} {D:Drw sp} {s:D.T} {j B:Nat} (h:SAt w0 w b sp L X (D.A s ++ R)) (hok:D.ok (j + 1) s) (wf:SdWF B X) (hB:B ≤ 80000) {m:Nat} (hm:m < X.ms.length) (hP:(X.m m).P ≠ -1) (hG:(X.m m).G = -1) :
  Calls Tryz.prog 41 #[.pointer (some ⟨b,0,none⟩),.int .i64 (m:Int)] w (PickP w0 b sp L D s X R j m):=by
 obtain ⟨mb,off2,hma⟩:=h.ma hm
 have hne:((m:Int) == (X.ms.length:Int)) = false:=by rw [beq_eq_false_iff_ne];omega
 have hnp:=wf.np
 have hnm:=wf.nm
 have hmX:(m:Int) < (X.ms.length:Int):=by omega
 have hm0:(0:Int) ≤ (m:Int):=by omega
 have h1:=h.box evz 46
 obtain ⟨C13,c13⟩:=h1.c13
 rw [hma] at c13
 obtain ⟨K,hK⟩:∃ K,K = X.ms.length:=⟨_,rfl⟩
 have HC13:=Lib.hid (fun (wx:World) (Z:List Asr) (hx:SAt w0 wx b sp L X Z)=>(by
  obtain ⟨C,hc⟩:=hx.c13
  rw [hma,← hK] at hc
  exact ⟨C,hc⟩:∃ C,wx.cell? ⟨b,13,none⟩ = some (.slice (some ⟨mb,off2,none⟩) K C)))
 have HM:=Lib.hid (fun (wx:World) (Z:List Asr) (hx:SAt w0 wx b sp L X Z)=>hx.mach hm hma)
 have H1:=Lib.hid h1
 rw [← hK] at c13 hne hmX
 have ha:asks2 X m = asksL X m:=by unfold asks2 asksL;rw [if_neg (by omega),if_neg hP,if_pos hG]
 have hpk:∀ v,pickedM X m v = ((lookM X m v.toNat).1,⟨(lookM X m v.toNat).2.1,(m:Int),(lookM X m v.toNat).2.2,[]⟩):=fun v=>by unfold pickedM;rw [if_neg (by omega),if_neg hP,if_pos hG]
 have HH:=Lib.hid (fun (wx:World) (Z:List Asr) (hx:SAt w0 wx b sp L X (D.A s ++ Z))=>look_any hx hok wf hB hm hP hG)
 have HEND:Hid (∀ v s' wx rr,Fit D s (asksL X m) v s' → D.ok j s' → rr = Ending.returned (.agg #[.int .i64 (lookM X m v.toNat).2.1,.int .i64 (m:Int),.int .i64 (lookM X m v.toNat).2.2,.slice none 0 0]) → SAt w0 wx b sp L (lookM X m v.toNat).1 (D.A s' ++ R) → PickP w0 b sp L D s X R j m rr wx):=Lib.hid (fun v s' wx rr hf ho e hx=>.inl ⟨v,s',none,0,by rw [ha];exact hf,ho,by rw [hpk,e];rfl,by rw [hpk];exact hx.nilRow⟩)
 have HDRY:Hid (∀ ch s' kd n wx,asksL X m = some (kd,n) → D.Dp s kd n (.panicked ch) s' → D.ok j s' → SAt w0 wx b sp L X (D.A s' ++ R) → PickP w0 b sp L D s X R j m (.panicked ch) wx):=Lib.hid (fun ch s' kd n wx e h1 h2 h3=>.inr ⟨ch,s',kd,n,rfl,by rw [ha];exact e,h1,h2,h3⟩)
 have hPb:((X.m m).P == -1) = false:=by simpa using hP
 rw [hG] at HM
 obtain ⟨mG,hmG⟩:∃ mG:Int,mG = -1:=⟨_,rfl⟩
 generalize (X.m m).P = mP at *
 generalize (X.m m).L = mL at *
 rw [← hmG] at HM
 have HmG:=Lib.hid hmG
 clear h h1 hok wf hnp hnm hma ha hpk hm hP hG hK hmG
 unfold evz at H1 c13
 go_enter Tryz.func41,Tryz.ntmps41
 go_upto_region 1 with fail
 generalize w.alloc (.cells [.int .i64 0,.int .i64 0,.int .i64 0,.slice none 0 0].toArray 46) = w1 at *
 generalize w.heap.size = q at *
 go_upto_region 4 with fail
 have H2:=Lib.hid (H1.out.box [.int .i64 0,.int .i64 (m:Int),.int .i64 (-1),.slice none 0 0] 46)
 clear H1 c13
 generalize w1.alloc (.cells #[.int .i64 0,.int .i64 (m:Int),.int .i64 (-1),.slice none 0 0] 46) = w2 at *
 generalize w1.heap.size = q5 at *
 obtain ⟨C2,d13⟩:=HC13.out _ _ H2.out
 obtain ⟨⟨z0,z1,z2⟩,-⟩:=HM.out _ _ H2.out
 have H3:=Lib.hid (H2.out.box [.int .i64 mP,.int .i64 mG,.int .i64 mL] 66)
 clear H2
 go_upto_region 6 with fail
 clear z0 z1 z2 d13
 generalize w2.alloc (.cells #[.int .i64 mP,.int .i64 mG,.int .i64 mL] 66) = w3 at *
 generalize w2.heap.size = q6 at *
 have x0:=(H3.out.cel 0 _ rfl).1
 have x1:=(H3.out.cel 1 _ rfl).1
 obtain rfl:=HmG.out
 have H3b:Hid (SAt w0 w3 b sp L X (D.A s ++ (CelA q5 [.int .i64 0,.int .i64 (m:Int),.int .i64 (-1),.slice none 0 0] :: CelA q [.int .i64 0,.int .i64 0,.int .i64 0,.slice none 0 0] :: R))):=Lib.hid (H3.out.less.perm perm_two)
 go_wp2_with fail
 refine (HH.out _ _ H3b.out).mono ?_
 intro r w4 hp
 clear H3 H3b HH HM HC13 x0 x1
 rcases hp with ⟨v,s',hf,ho,rfl,h4⟩ | ⟨ch,s',kd,n,rfl,hk,hdp,ho,h4⟩
 ·have HF:=Lib.hid (And.intro hf ho)
  unfold turnV at h4 ⊢
  simp only at h4 ⊢
  have HE2:=Lib.hid (HEND.out v s')
  clear hf ho HEND HDRY
  generalize lookM X m v.toNat = lk at *
  obtain ⟨Y,kd,gg⟩:=lk
  simp only at h4 HE2 ⊢
  have h5:=h4.perm perm_two.symm
  obtain ⟨y0,v0⟩:=h5.cel 0 _ rfl
  obtain ⟨y1,v1⟩:=h5.cel 1 _ rfl
  obtain ⟨y2,v2⟩:=h5.cel 2 _ rfl
  obtain ⟨y3,v3⟩:=h5.cel 3 _ rfl
  have h6:=(h5.setBox 0 (.int .i64 kd)).setBox 2 (.int .i64 gg)
  obtain ⟨u0,-⟩:=h6.cel 0 _ rfl
  obtain ⟨u1,-⟩:=h6.cel 1 _ rfl
  obtain ⟨u2,-⟩:=h6.cel 2 _ rfl
  obtain ⟨u3,-⟩:=h6.cel 3 _ rfl
  clear h4 h5
  go_upto_region 10 with fail
  clear y0 y1 y2 y3 v0 v1 v2 v3
  generalize (w4.setCell ⟨q5,0,none⟩ (.int .i64 kd)).setCell ⟨q5,2,none⟩ (.int .i64 gg) = w5 at *
  have h7:=h6.perm (List.Perm.swap _ _ _)
  obtain ⟨p0,r0⟩:=h7.cel 0 _ rfl
  obtain ⟨p1,r1⟩:=h7.cel 1 _ rfl
  obtain ⟨p2,r2⟩:=h7.cel 2 _ rfl
  obtain ⟨p3,r3⟩:=h7.cel 3 _ rfl
  have h8:=(((h7.setBox 0 (.int .i64 kd)).setBox 1 (.int .i64 (m:Int))).setBox 2 (.int .i64 gg)).setBox 3 (.slice none 0 0)
  have EG:=ev_get (h8.cel 0 _ rfl).1 (h8.cel 1 _ rfl).1 (h8.cel 2 _ rfl).1 (h8.cel 3 _ rfl).1
  have H8:=Lib.hid h8.less.less
  clear h6 h7 h8
  go_wp2
  exact bodyPost_ret (results_cell Tryz.results41 _ ⟨q,0,none⟩ rfl EG) rfl (HE2.out _ _ HF.out.1 HF.out.2 rfl H8.out)
 ·exact ⟨rfl,HDRY.out ch s' kd n _ hk hdp ho (SAt.less (SAt.less (h4.perm perm_two.symm)))⟩
theorem pick_run {w0 w:World} {b sp:Nat} {L:Sl} {X:Sd} {R:List Asr} {D:Drw sp} {s:D.T} {j B:Nat} (h:SAt w0 w b sp L X (D.A s ++ R)) (hok:D.ok (j + 1) s) (wf:SdWF B X) (hB:B ≤ 80000) {m:Nat} (hm:m < X.ms.length) (hP:(X.m m).P ≠ -1) (hG:(X.m m).G ≠ -1) (hen:X.W.en = 0) :
  Calls Tryz.prog 41 #[.pointer (some ⟨b,0,none⟩),.int .i64 (m:Int)] w (PickP w0 b sp L D s X R j m):=by
 obtain ⟨mb,off2,hma⟩:=h.ma hm
 have hne:((m:Int) == (X.ms.length:Int)) = false:=by rw [beq_eq_false_iff_ne];omega
 have hnp:=wf.np
 have hnm:=wf.nm
 have hmX:(m:Int) < (X.ms.length:Int):=by omega
 have hm0:(0:Int) ≤ (m:Int):=by omega
 have h1:=h.box evz 46
 obtain ⟨C13,c13⟩:=h1.c13
 rw [hma] at c13
 obtain ⟨K,hK⟩:∃ K,K = X.ms.length:=⟨_,rfl⟩
 have HC13:=Lib.hid (fun (wx:World) (Z:List Asr) (hx:SAt w0 wx b sp L X Z)=>(by
  obtain ⟨C,hc⟩:=hx.c13
  rw [hma,← hK] at hc
  exact ⟨C,hc⟩:∃ C,wx.cell? ⟨b,13,none⟩ = some (.slice (some ⟨mb,off2,none⟩) K C)))
 have HM:=Lib.hid (fun (wx:World) (Z:List Asr) (hx:SAt w0 wx b sp L X Z)=>hx.mach hm hma)
 have H1:=Lib.hid h1
 rw [← hK] at c13 hne hmX
 obtain ⟨k,hk,-,-⟩:=wf.lets hm hG
 have ha:asks2 X m = asksE X.W k:=by
  unfold asks2 asksE Sd.ins
  rw [if_neg (by omega),if_neg hP,if_neg hG,hk,Int.toNat_natCast]
 have hpk:∀ v,pickedM X m v = ((runM X m v).1,⟨7,(m:Int),(k:Int),(runM X m v).2⟩):=fun v=>by unfold pickedM;rw [if_neg (by omega),if_neg hP,if_neg hG,hk]
 have HH:=Lib.hid (fun (wx:World) (Z:List Asr) (hx:SAt w0 wx b sp L X (D.A s ++ Z))=>run_any hx hok wf hB hm hP hG hen hk)
 have HEND:Hid (∀ v s' ra rc wx rr,Fit D s (asksE X.W k) v s' → D.ok j s' → rr = Ending.returned (.agg #[.int .i64 7,.int .i64 (m:Int),.int .i64 (k:Int),.slice ra (runM X m v).2.length rc]) → SAt w0 wx b sp L (runM X m v).1 (RowGA 1 ra rc (runM X m v).2.length (intc (runM X m v).2) :: (D.A s' ++ R)) → PickP w0 b sp L D s X R j m rr wx):=Lib.hid (fun v s' ra rc wx rr hf ho e hx=>.inl ⟨v,s',ra,rc,by rw [ha];exact hf,ho,by rw [hpk,e];rfl,by rw [hpk];exact hx⟩)
 have HDRY:Hid (∀ ch s' kd n wx,asksE X.W k = some (kd,n) → D.Dp s kd n (.panicked ch) s' → D.ok j s' → SAt w0 wx b sp L X (D.A s' ++ R) → PickP w0 b sp L D s X R j m (.panicked ch) wx):=Lib.hid (fun ch s' kd n wx e h1 h2 h3=>.inr ⟨ch,s',kd,n,rfl,by rw [ha];exact e,h1,h2,h3⟩)
 have hPb:((X.m m).P == -1) = false:=by simpa using hP
 have hGb:((k:Int) == -1) = false:=by rw [beq_eq_false_iff_ne];omega
 rw [hk] at HM
 obtain ⟨mG,hmG⟩:∃ mG:Int,mG = (k:Int):=⟨_,rfl⟩
 generalize (X.m m).P = mP at *
 generalize (X.m m).L = mL at *
 rw [← hmG] at HM hGb
 have HmG:=Lib.hid hmG
 clear h h1 hok wf hnp hnm hma ha hpk hm hP hG hK hmG hen hk
 unfold evz at H1 c13
 go_enter Tryz.func41,Tryz.ntmps41
 go_upto_region 1 with fail
 generalize w.alloc (.cells [.int .i64 0,.int .i64 0,.int .i64 0,.slice none 0 0].toArray 46) = w1 at *
 generalize w.heap.size = q at *
 go_upto_region 4 with fail
 have H2:=Lib.hid (H1.out.box [.int .i64 0,.int .i64 (m:Int),.int .i64 (-1),.slice none 0 0] 46)
 clear H1 c13
 generalize w1.alloc (.cells #[.int .i64 0,.int .i64 (m:Int),.int .i64 (-1),.slice none 0 0] 46) = w2 at *
 generalize w1.heap.size = q5 at *
 obtain ⟨C2,d13⟩:=HC13.out _ _ H2.out
 obtain ⟨⟨z0,z1,z2⟩,-⟩:=HM.out _ _ H2.out
 have H3:=Lib.hid (H2.out.box [.int .i64 mP,.int .i64 mG,.int .i64 mL] 66)
 clear H2
 go_upto_region 6 with fail
 clear z0 z1 z2 d13
 generalize w2.alloc (.cells #[.int .i64 mP,.int .i64 mG,.int .i64 mL] 66) = w3 at *
 generalize w2.heap.size = q6 at *
 have x0:=(H3.out.cel 0 _ rfl).1
 have x1:=(H3.out.cel 1 _ rfl).1
 have H3b:Hid (SAt w0 w3 b sp L X (D.A s ++ (CelA q5 [.int .i64 0,.int .i64 (m:Int),.int .i64 (-1),.slice none 0 0] :: CelA q [.int .i64 0,.int .i64 0,.int .i64 0,.slice none 0 0] :: CelA q6 [.int .i64 mP,.int .i64 mG,.int .i64 mL] :: R))):=Lib.hid (H3.out.perm perm_three)
 have HS:Hid (∀ wx Y A,SAt w0 wx b sp L Y (A ++ (CelA q5 [.int .i64 0,.int .i64 (m:Int),.int .i64 (-1),.slice none 0 0] :: CelA q [.int .i64 0,.int .i64 0,.int .i64 0,.slice none 0 0] :: CelA q6 [.int .i64 mP,.int .i64 mG,.int .i64 mL] :: R)) → wx.cell? ⟨q6,1,none⟩ = some (.int .i64 mG)):=Lib.hid (fun wx Y A hx=>((hx.perm perm_three.symm).cel 1 _ rfl).1)
 go_upto_region 5 with fail
 have x1:=HS.out _ _ _ H3b.out
 clear H3 HM HC13 x0
 refine wp_region_lexP (fun wx=>wx.cell? ⟨q6,1,none⟩ = some (.int .i64 mG)) 11 (Array.replicate 11 false) (by kernel_rfl) (by kernel_rfl) ?_
 have h4:=H3b.out.step (below_drew1 w3)
 generalize w3.drew = w4 at *
 refine wpAnyH_seg 0 4 _ #[true,true,true,true,false,false,false,false,false,false,false] 7 (by kernel_rfl) (fun d _ _ _ _=>by cases d <;> exact fun h=>h) (HS.out _ _ _ h4) (by kernel_rfl) ?_
 simp only [List.take_succ_cons,List.take_zero,List.drop_zero]
 repeat ((first | refine wpSegH_no (by rfl) ?_ | (refine wpSegH_yes (by rfl) ?_;apply Exists.intro;apply And.intro;(· (intro wx hS;(try dsimp only at hS);go_simp;first | done | with_reducible rfl))));simp only [Act.put,List.setIfInBounds_toArray,List.set_cons_zero,List.set_cons_succ])
 refine wpSegH_nil ?_
 refine wpAnyH_seg 5 1 _ #[true,true,true,true,false,true,false,false,false,false,false] 6 (by kernel_rfl) (fun d _ _ _ _=>by cases d <;> exact fun h=>h) (HS.out _ _ _ h4) (by kernel_rfl) ?_
 simp only [List.take_succ_cons,List.take_zero,List.drop_succ_cons,List.drop_zero]
 repeat ((first | refine wpSegH_no (by rfl) ?_ | (refine wpSegH_yes (by rfl) ?_;apply Exists.intro;apply And.intro;(· (intro wx hS;(try dsimp only at hS);go_simp;first | done | with_reducible rfl))));simp only [Act.put,List.setIfInBounds_toArray,List.set_cons_zero,List.set_cons_succ])
 refine wpSegH_nil ?_
 refine wpAnyH_one 4 _ #[true,true,true,true,true,true,false,false,false,false,false] 5 (by kernel_rfl) (fun K hK=>?_)
 have HKK:=Lib.hid hK
 clear hK
 simp only [List.drop_succ_cons,List.drop_zero]
 refine headH_mk (by rfl) ?_
 go_simp
 refine (HH.out _ _ h4).mono ?_
 intro r w5 hp
 rcases hp with ⟨v,s',ra,rc,hf,ho,rfl,h5⟩ | ⟨ch,s',kd,n,rfl,hkk,hdp,ho,h5⟩
 ·have HF:=Lib.hid (And.intro hf ho)
  have HE2:=Lib.hid (HEND.out v s')
  clear hf ho HEND HDRY HH H3b x1 h4
  generalize runM X m v = lk at *
  obtain ⟨Y,rd⟩:=lk
  simp only at h5 HE2 ⊢
  have HX:=Lib.hid (HE2.out ra rc)
  clear HE2
  generalize rd.length = N at *
  have h6:SAt w0 w5 b sp L Y (CelA q5 [.int .i64 0,.int .i64 (m:Int),.int .i64 (-1),.slice none 0 0] :: CelA q [.int .i64 0,.int .i64 0,.int .i64 0,.slice none 0 0] :: CelA q6 [.int .i64 mP,.int .i64 mG,.int .i64 mL] :: RowGA 1 ra rc N (intc rd) :: (D.A s' ++ R)):=h5.perm perm_four
  have HS5:Hid (∀ wx c0 c2 c3 Z,SAt w0 wx b sp L Y (CelA q5 [c0,.int .i64 (m:Int),c2,c3] :: CelA q [.int .i64 0,.int .i64 0,.int .i64 0,.slice none 0 0] :: CelA q6 [.int .i64 mP,.int .i64 mG,.int .i64 mL] :: Z) → wx.cell? ⟨q6,1,none⟩ = some (.int .i64 mG)):=Lib.hid (fun wx c0 c2 c3 Z hx=>(hx.less.less.cel 1 _ rfl).1)
  refine HKK.out _ _ (HS5.out _ _ _ _ _ h6) ?_
  clear HKK K
  obtain ⟨y0,v0⟩:=h6.cel 0 _ rfl
  have h7:=h6.setBox 0 (.int .i64 7)
  refine wpAnyH_one 6 _ #[true,true,true,true,true,true,true,false,false,false,false] 4 (by kernel_rfl) (fun K hK=>?_)
  have HKK:=Lib.hid hK
  clear hK
  simp only [List.drop_succ_cons,List.drop_zero]
  refine headH_mk (by rfl) ?_
  go_simp
  refine HKK.out _ _ (HS5.out _ _ _ _ _ h7) ?_
  clear HKK K
  refine wpAnyH_seg 7 1 _ #[true,true,true,true,true,true,true,true,false,false,false] 3 (by kernel_rfl) (fun d _ _ _ _=>by cases d <;> exact fun h=>h) (HS5.out _ _ _ _ _ h7) (by kernel_rfl) ?_
  simp only [List.take_succ_cons,List.take_zero,List.drop_succ_cons,List.drop_zero]
  repeat ((first | refine wpSegH_no (by rfl) ?_ | (refine wpSegH_yes (by rfl) ?_;apply Exists.intro;apply And.intro;(· (intro wx hS;(try dsimp only at hS);go_simp;first | done | with_reducible rfl))));simp only [Act.put,List.setIfInBounds_toArray,List.set_cons_zero,List.set_cons_succ])
  refine wpSegH_nil ?_
  generalize w5.setCell ⟨q5,0,none⟩ (.int .i64 7) = w6 at *
  clear y0 v0
  obtain ⟨y2,v2⟩:=h7.cel 2 _ rfl
  have h8:=h7.setBox 2 (.int .i64 mG)
  refine wpAnyH_one 8 _ #[true,true,true,true,true,true,true,true,true,false,false] 2 (by kernel_rfl) (fun K hK=>?_)
  have HKK:=Lib.hid hK
  clear hK
  simp only [List.drop_succ_cons,List.drop_zero]
  refine headH_mk (by rfl) ?_
  go_simp
  refine HKK.out _ _ (HS5.out _ _ _ _ _ h8) ?_
  clear HKK K
  refine wpAnyH_seg 9 1 _ #[true,true,true,true,true,true,true,true,true,true,false] 1 (by kernel_rfl) (fun d _ _ _ _=>by cases d <;> exact fun h=>h) (HS5.out _ _ _ _ _ h8) (by kernel_rfl) ?_
  simp only [List.take_succ_cons,List.take_zero,List.drop_succ_cons,List.drop_zero]
  repeat ((first | refine wpSegH_no (by rfl) ?_ | (refine wpSegH_yes (by rfl) ?_;apply Exists.intro;apply And.intro;(· (intro wx hS;(try dsimp only at hS);go_simp;first | done | with_reducible rfl))));simp only [Act.put,List.setIfInBounds_toArray,List.set_cons_zero,List.set_cons_succ])
  refine wpSegH_nil ?_
  generalize w6.setCell ⟨q5,2,none⟩ (.int .i64 mG) = w7 at *
  clear y2 v2
  obtain ⟨y3,v3⟩:=h8.cel 3 _ rfl
  have h9:=h8.setBox 3 (.slice ra N rc)
  refine wpAnyH_one 10 _ #[true,true,true,true,true,true,true,true,true,true,true] 0 (by kernel_rfl) (fun K hK=>?_)
  have HKK:=Lib.hid hK
  clear hK
  simp only [List.drop_succ_cons,List.drop_zero]
  refine headH_mk (by rfl) ?_
  go_simp
  refine HKK.out _ _ (HS5.out _ _ _ _ _ h9) ?_
  clear HKK K
  refine wpAnyH_done (by kernel_rfl) (?_) _
  generalize w7.setCell ⟨q5,3,none⟩ (.slice ra N rc) = w8 at *
  clear y3 v3 h5 h6 h7 h8 HS HS5
  obtain ⟨u0,-⟩:=h9.cel 0 _ rfl
  obtain ⟨u1,-⟩:=h9.cel 1 _ rfl
  obtain ⟨u2,-⟩:=h9.cel 2 _ rfl
  obtain ⟨u3,-⟩:=h9.cel 3 _ rfl
  have ha:=h9.perm (List.Perm.swap _ _ _)
  obtain ⟨p0,r0⟩:=ha.cel 0 _ rfl
  obtain ⟨p1,r1⟩:=ha.cel 1 _ rfl
  obtain ⟨p2,r2⟩:=ha.cel 2 _ rfl
  obtain ⟨p3,r3⟩:=ha.cel 3 _ rfl
  have h8:=(((ha.setBox 0 (.int .i64 7)).setBox 1 (.int .i64 (m:Int))).setBox 2 (.int .i64 mG)).setBox 3 (.slice ra N rc)
  have EG:=ev_get (h8.cel 0 _ rfl).1 (h8.cel 1 _ rfl).1 (h8.cel 2 _ rfl).1 (h8.cel 3 _ rfl).1
  have H8:=Lib.hid h8.less.less.less
  clear ha h8 h9
  go_wp2
  exact bodyPost_ret (results_cell Tryz.results41 _ ⟨q,0,none⟩ rfl EG) rfl (HX.out _ _ HF.out.1 HF.out.2 (by rw [HmG.out]) H8.out)
 ·exact ⟨rfl,HDRY.out ch s' kd n _ hkk hdp ho (SAt.less (SAt.less (SAt.less (h5.perm perm_three.symm))))⟩
def EnOk (e:Int):Prop:=e = 0 ∨ e = 1 ∨ e = 2
theorem st_near (X:Sd) (i:Nat):(nearM X i).1.st = X.st:=by unfold nearM;split <;> (try split) <;> rfl
theorem st_new (X:Sd) (i v:Nat):(newTurnM X i v).1.st = X.st:=by
 have h:=st_near (turnM X i) i
 unfold newTurnM
 simp only
 split
 ·exact h
 ·split
  ·split <;> exact h
  ·exact h
theorem st_look (X:Sd) (m v:Nat):(lookM X m v).1.st = X.st:=by
 unfold lookM
 simp only
 split
 ·rfl
 ·split <;> exact st_new X _ _
theorem st_ready:∀ (l:List Int) (X:Sd) (i:Nat),(readyA X i l).st = X.st
 | [],X,i=>rfl
 | g :: t,X,i=>st_ready t _ i
theorem st_run (X:Sd) (m:Nat) (v:Int):(runM X m v).1.st = X.st:=by
 unfold runM
 simp only
 split <;> exact st_ready _ _ _
theorem st_hold (X:Sd) (m:Nat):(holdM X m).1.st = X.st:=by unfold holdM;split <;> rfl
theorem st_pick (X:Sd) (m:Nat) (v:Int):(pickedM X m v).1.st = X.st:=by
 unfold pickedM
 split
 ·rfl
 ·split
  ·exact st_hold X m
  ·split
   ·exact st_look X m _
   ·exact st_run X m v
theorem ms_near (X:Sd) (i:Nat):(nearM X i).1.ms = X.ms:=by unfold nearM;split <;> (try split) <;> rfl
theorem ms_new (X:Sd) (i v:Nat):(newTurnM X i v).1.ms = X.ms:=by
 have h:=ms_near (turnM X i) i
 unfold newTurnM
 simp only
 split
 ·exact h
 ·split
  ·split <;> exact h
  ·exact h
theorem ms_ready:∀ (l:List Int) (X:Sd) (i:Nat),(readyA X i l).ms = X.ms
 | [],X,i=>rfl
 | g :: t,X,i=>ms_ready t _ i
theorem ms_pick (X:Sd) (m:Nat) (v:Int):(pickedM X m v).1.ms.length = X.ms.length:=by
 unfold pickedM
 split
 ·rfl
 ·split
  ·unfold holdM;split <;> simp [Sd.setM,Sd.setP]
  ·split
   ·unfold lookM
    simp only
    split
    ·simp [Sd.setM,Sd.setP]
    ·split <;> simp [Sd.setM,Sd.setP,ms_new]
   ·unfold runM
    simp only
    split <;> simp [Sd.setM,Sd.setP,ms_ready]
def StepP (w0:World) (b sp:Nat) (L:Sl) (D:Drw sp) (s:D.T) (X:Sd) (R:List Asr) (j:Nat) (r:Ending) (w':World):Prop :=
 (∃ m:Nat,∃ v s1 s' ra rc,m ≤ X.ms.length ∧ D.Dv s 1 ((X.ms.length:Int) + 1) (m:Int) s1 ∧ Fit D s1 (asks2 X m) v s' ∧ D.ok j s' ∧ r = .returned (evV (stepM X m v).2 ra rc) ∧ SAt w0 w' b sp L (stepM X m v).1 (RowGA 1 ra rc (stepM X m v).2.rd.length (intc (stepM X m v).2.rd) :: (D.A s' ++ R))) ∨
 (∃ ch s',r = .panicked ch ∧ (D.Dp s 1 ((X.ms.length:Int) + 1) r s' ∨ ∃ m:Nat,∃ s1 kd n,m ≤ X.ms.length ∧ D.Dv s 1 ((X.ms.length:Int) + 1) (m:Int) s1 ∧ asks2 X m = some (kd,n) ∧ D.Dp s1 kd n r s') ∧ D.ok j s' ∧ SAt w0 w' b sp L X (D.A s' ++ R))
theorem pick_any {w0 w:World} {b sp:Nat} {L:Sl} {X:Sd} {R:List Asr} {D:Drw sp} {s:D.T} {j B:Nat} (h:SAt w0 w b sp L X (D.A s ++ R)) (hok:D.ok (j + 1) s) (wf:SdWF B X) (hB:B ≤ 80000) (hen:X.W.en = 0) {m:Nat} (hm:m ≤ X.ms.length) :
  Calls Tryz.prog 41 #[.pointer (some ⟨b,0,none⟩),.int .i64 (m:Int)] w (PickP w0 b sp L D s X R j m):=by
 by_cases e:m = X.ms.length
 ·subst e;exact pick_clock h hok wf hB
 ·have hml:m < X.ms.length:=by omega
  by_cases hP:(X.m m).P = -1
  ·exact pick_hold h hok wf hB hml hP
  ·by_cases hG:(X.m m).G = -1
   ·exact pick_look h hok wf hB hml hP hG
   ·exact pick_run h hok wf hB hml hP hG hen
theorem perm_five {α:Type _} {a c r:α} {A R:List α}:List.Perm (r :: (A ++ (a :: c :: R))) (a :: c :: r :: (A ++ R)):=(List.Perm.cons r (List.perm_middle.trans (List.Perm.cons a List.perm_middle))).trans ((List.Perm.swap _ _ _).trans (List.Perm.cons a (List.Perm.swap _ _ _)))
theorem step_any {w0 w:World} {b sp:Nat} {L:Sl} {X:Sd} {R:List Asr} {D:Drw sp} {s:D.T} {j B:Nat} (h:SAt w0 w b sp L X (D.A s ++ R)) (hok:D.ok (j + 2) s) (wf:SdWF B X) (hB:B ≤ 80000) (hov:overM X = 0) (hen:X.W.en = 0) :
  Calls Tryz.prog 22 #[.pointer (some ⟨b,0,none⟩)] w (StepP w0 b sp L D s X R j):=by
 have hnm:=wf.nm
 have h1:=(h.box evz 46).perm List.perm_middle.symm
 have hg1:=wf.wf.g1
 have HSTAT:=Lib.hid (stat_any h1 (by omega))
 rw [hov] at HSTAT
 have HDR:=Lib.hid (fun (wx:World) (n:Int) (Z:List Asr) (hn:n = (X.ms.length:Int) + 1) (hx:SAt w0 wx b sp L X (D.A s ++ Z))=>(by
  subst hn
  obtain ⟨S,k1,k2⟩:=hx.tail
  rw [List.append_assoc] at k1
  refine (D.hd s 1 ((X.ms.length:Int) + 1) (Z ++ S) (j + 1) hok ⟨by omega,by omega⟩ k1).mono (fun r w' hh=>?_)
  rcases hh with ⟨v,s',a1,a2,a3,a4,a5⟩ | ⟨ch,s',a1,a2,a3,a4⟩
  ·exact .inl ⟨v.toNat,s',by rw [a1];congr 2;omega,by omega,by rw [show ((v.toNat:Nat):Int) = v by omega];exact a3,a4,k2 _ _ (by rw [List.append_assoc];exact a5)⟩
  ·exact .inr ⟨ch,s',a1,a2,D.less _ _ a3,k2 _ _ (by rw [List.append_assoc];exact a4)⟩:Calls Tryz.prog 42 #[.pointer (some ⟨sp,0,none⟩),.int .i64 1,.int .i64 n] wx fun r w' =>
   (∃ m:Nat,∃ s1,r = .returned (.int .i64 (m:Int)) ∧ m ≤ X.ms.length ∧ D.Dv s 1 ((X.ms.length:Int) + 1) (m:Int) s1 ∧ D.ok (j + 1) s1 ∧ SAt w0 w' b sp L X (D.A s1 ++ Z)) ∨ (∃ ch s',r = .panicked ch ∧ D.Dp s 1 ((X.ms.length:Int) + 1) r s' ∧ D.ok j s' ∧ SAt w0 w' b sp L X (D.A s' ++ Z))))
 have HPK:=Lib.hid (fun (wx:World) (s1:D.T) (m:Nat) (Z:List Asr) (ho:D.ok (j + 1) s1) (hm:m ≤ X.ms.length) (hx:SAt w0 wx b sp L X (D.A s1 ++ Z))=>pick_any hx ho wf hB hen hm)
 have hst:=wf.st
 have HEND:Hid (∀ (m:Nat) v s1 s' ra rc wx rr,m ≤ X.ms.length → D.Dv s 1 ((X.ms.length:Int) + 1) (m:Int) s1 → Fit D s1 (asks2 X m) v s' → D.ok j s' → rr = Ending.returned (evV (pickedM X m v).2 ra rc) → SAt w0 wx b sp L { (pickedM X m v).1 with st:=(pickedM X m v).1.st + 1 } (RowGA 1 ra rc (pickedM X m v).2.rd.length (intc (pickedM X m v).2.rd) :: (D.A s' ++ R)) → StepP w0 b sp L D s X R j rr wx):=Lib.hid (fun m v s1 s' ra rc wx rr h1 h2 h3 h4 h5 h6=>.inl ⟨m,v,s1,s',ra,rc,h1,h2,h3,h4,h5,by rw [st_pick] at h6;exact h6⟩)
 have HST:Hid (∀ m v,(pickedM X m v).1.st ≤ 80000):=Lib.hid (fun m v=>by rw [st_pick];omega)
 have HD1:Hid (∀ ch s' wx,D.Dp s 1 ((X.ms.length:Int) + 1) (.panicked ch) s' → D.ok j s' → SAt w0 wx b sp L X (D.A s' ++ R) → StepP w0 b sp L D s X R j (.panicked ch) wx):=Lib.hid (fun ch s' wx h1 h2 h3=>.inr ⟨ch,s',rfl,.inl h1,h2,h3⟩)
 have HD2:Hid (∀ ch (m:Nat) s1 s' kd n wx,m ≤ X.ms.length → D.Dv s 1 ((X.ms.length:Int) + 1) (m:Int) s1 → asks2 X m = some (kd,n) → D.Dp s1 kd n (.panicked ch) s' → D.ok j s' → SAt w0 wx b sp L X (D.A s' ++ R) → StepP w0 b sp L D s X R j (.panicked ch) wx):=Lib.hid (fun ch m s1 s' kd n wx h0 h1 h2 h3 h4 h5=>.inr ⟨ch,s',rfl,.inr ⟨m,s1,kd,n,h0,h1,h2,h3⟩,h4,h5⟩)
 have HSB:Hid (∀ wx (Y:Sd) Z,SAt w0 wx b sp L Y Z → Y.ms.length = X.ms.length → wx.cell? ⟨b,11,none⟩ = some (.pointer (some ⟨sp,0,none⟩)) ∧ wx.cell? ⟨b,13,none⟩ = some (.slice L.ma X.ms.length L.mc)):=Lib.hid (fun wx Y Z hx e=>⟨hx.c11,by rw [← e];exact hx.c13'⟩)
 have HLM:Hid (∀ m v,m ≤ X.ms.length → (pickedM X m v).1.ms.length = X.ms.length):=Lib.hid (fun m v hm=>ms_pick X m v)
 have hwr:IntKind.i64.wrap ((X.ms.length:Int) + 1) = (X.ms.length:Int) + 1:=by rw [IntKind.wrap_i64];omega
 obtain ⟨K,hK⟩:∃ K,K = X.ms.length:=⟨_,rfl⟩
 simp only [← hK] at HDR HPK HEND HD1 HD2 HSB HLM hwr hnm
 have H1:=Lib.hid h1
 have HKX:=Lib.hid hK.symm
 clear h h1 hok wf hov hen hg1 hst hK
 unfold evz at H1 HSTAT
 go_enter Tryz.func22,Tryz.ntmps22
 go_upto_region 1 with fail
 generalize w.alloc (.cells [.int .i64 0,.int .i64 0,.int .i64 0,.slice none 0 0].toArray 46) = w1 at *
 generalize w.heap.size = q at *
 go_wp2_with fail
 refine HSTAT.out.mono ?_
 rintro r w2 ⟨rfl,hb⟩
 have H2:=Lib.hid (H1.out.step hb)
 clear H1 hb HSTAT
 go_upto_region 3 with fail
 have h3:=H2.out.step (below_drew1 w2)
 refine wp_region_lexP (fun wx=>wx.cell? ⟨b,11,none⟩ = some (.pointer (some ⟨sp,0,none⟩)) ∧ wx.cell? ⟨b,13,none⟩ = some (.slice L.ma K L.mc)) 15 (Array.replicate 15 false) (by kernel_rfl) (by kernel_rfl) ?_
 generalize w2.drew = w3 at *
 refine wpAnyH_seg 0 11 _ #[true,true,true,true,true,true,true,true,true,true,true,false,false,false,false] 4 (by kernel_rfl) body_put (HSB.out _ _ _ h3 HKX.out) (by kernel_rfl) ?_
 simp only [List.take_succ_cons,List.take_zero,List.drop_zero]
 repeat ((first | refine wpSegH_no (by rfl) ?_ | (refine wpSegH_yes (by rfl) ?_;apply Exists.intro;apply And.intro;(· (intro wx hS;(try dsimp only at hS);go_simp;first | done | with_reducible rfl))));simp only [Act.put,List.setIfInBounds_toArray,List.set_cons_zero,List.set_cons_succ])
 refine wpSegH_nil ?_
 refine wpAnyH_two 11 13 _ #[true,true,true,true,true,true,true,true,true,true,true,true,false,false,false] #[true,true,true,true,true,true,true,true,true,true,true,false,false,true,false] 3 (by kernel_rfl) (fun K hK=>?_) (fun K hK=>?_)
 ·skip
  have HKK:=Lib.hid hK
  clear hK
  simp only [List.drop_succ_cons,List.drop_zero]
  refine headH_mk (by rfl) ?_
  go_simp
  refine (HDR.out _ _ _ rfl h3).mono ?_
  intro r w4 hp
  rcases hp with ⟨m,s1,rfl,hm,hdv,ho1,h4⟩ | ⟨ch,s',rfl,hdp,ho1,h4⟩
  ·skip
   have e4:=HSB.out _ _ _ h4 HKX.out
   refine HKK.out _ _ (e4) ?_
   clear HKK K
   refine wpAnyH_two 12 13 _ #[true,true,true,true,true,true,true,true,true,true,true,true,true,false,false] #[true,true,true,true,true,true,true,true,true,true,true,true,false,true,false] 2 (by kernel_rfl) (fun K hK=>?_) (fun K hK=>?_)
   ·skip
    have HKK:=Lib.hid hK
    clear hK
    simp only [List.drop_succ_cons,List.drop_zero]
    refine headH_mk (by rfl) ?_
    go_simp
    refine (HPK.out _ _ _ _ ho1 hm h4).mono ?_
    intro r w6 hp
    rcases hp with ⟨v,s',ra,rc,hf,ho,rfl,h6⟩ | ⟨ch,s',kd,n,rfl,hk,hdp,ho,h6⟩
    ·skip
     have HFF:=Lib.hid (And.intro hm (And.intro hdv (And.intro hf ho)))
     have HE2:=Lib.hid (fun wx rr=>HEND.out m v s1 s' ra rc wx rr)
     have hst:=HST.out m v
     have hlm:=HLM.out m v hm
     generalize pickedM X m v = pk at *
     obtain ⟨Y,k0,M0,G0,rd⟩:=pk
     unfold evV at HE2 ⊢
     simp only at h6 HE2 hst hlm ⊢
     generalize rd.length = N at *
     have e6:=HSB.out _ _ _ h6 hlm
     refine HKK.out _ _ (e6) ?_
     clear HKK K
     have h5:=h6
     have h7:=((h6.perm ((List.Perm.cons _ List.perm_middle).trans (List.Perm.swap _ _ _))).box evz 46)
     unfold evz at h7
     have e7:=HSB.out _ _ _ h7 hlm
     refine wpAnyH_one 13 _ #[true,true,true,true,true,true,true,true,true,true,true,true,true,true,false] 1 (by kernel_rfl) (fun K hK=>?_)
     have HKK:=Lib.hid hK
     clear hK
     simp only [List.drop_succ_cons,List.drop_zero]
     refine headH_mk (by rfl) ?_
     go_simp
     refine HKK.out _ _ (e7) ?_
     clear HKK K
     generalize w6.alloc (.cells [.int .i64 0,.int .i64 0,.int .i64 0,.slice none 0 0].toArray 46) = w7 at *
     generalize w6.heap.size = q3 at *
     obtain ⟨x0,y0⟩:=h7.cel 0 _ rfl
     obtain ⟨x1,y1⟩:=h7.cel 1 _ rfl
     obtain ⟨x2,y2⟩:=h7.cel 2 _ rfl
     obtain ⟨x3,y3⟩:=h7.cel 3 _ rfl
     have h9:=(((h7.setBox 0 (.int .i64 k0)).setBox 1 (.int .i64 M0)).setBox 2 (.int .i64 G0)).setBox 3 (.slice ra N rc)
     have e9:=HSB.out _ _ _ h9 hlm
     refine wpAnyH_one 14 _ #[true,true,true,true,true,true,true,true,true,true,true,true,true,true,true] 0 (by kernel_rfl) (fun K hK=>?_)
     have HKK:=Lib.hid hK
     clear hK
     simp only [List.drop_succ_cons,List.drop_zero]
     refine headH_mk (by rfl) ?_
     go_simp
     refine HKK.out _ _ (e9) ?_
     clear HKK K
     refine wpAnyH_done (by kernel_rfl) (?_) _
     clear HEND HST HLM HD1 HD2 HPK HDR hm hdv hf ho
     have HQ:=Lib.hid h9
     generalize (((w7.setCell ⟨q3,0,none⟩ (.int .i64 k0)).setCell ⟨q3,1,none⟩ (.int .i64 M0)).setCell ⟨q3,2,none⟩ (.int .i64 G0)).setCell ⟨q3,3,none⟩ (.slice ra N rc) = w8 at *
     clear h3 h4 h5 h6 h7 h9 H2
     obtain ⟨c16,f16⟩:=HQ.out.c16
     have hwr2:IntKind.i64.wrap ((Y.st:Int) + 1) = (Y.st:Int) + 1:=by rw [IntKind.wrap_i64];omega
     have ha:=HQ.out.setSt (Y.st + 1)
     rw [show ((Y.st + 1:Nat):Int) = (Y.st:Int) + 1 by omega] at ha
     have HA:=Lib.hid ha
     clear ha HQ HSB
     go_upto_region 5 with fail
     clear c16 f16
     generalize w8.setCell ⟨b,16,none⟩ (.int .i64 ((Y.st:Int) + 1)) = w9 at *
     obtain ⟨u0,-⟩:=HA.out.cel 0 _ rfl
     obtain ⟨u1,-⟩:=HA.out.cel 1 _ rfl
     obtain ⟨u2,-⟩:=HA.out.cel 2 _ rfl
     obtain ⟨u3,-⟩:=HA.out.cel 3 _ rfl
     have hb:=HA.out.perm (List.Perm.swap _ _ _)
     obtain ⟨p0,r0⟩:=hb.cel 0 _ rfl
     obtain ⟨p1,r1⟩:=hb.cel 1 _ rfl
     obtain ⟨p2,r2⟩:=hb.cel 2 _ rfl
     obtain ⟨p3,r3⟩:=hb.cel 3 _ rfl
     have hc:=(((hb.setBox 0 (.int .i64 k0)).setBox 1 (.int .i64 M0)).setBox 2 (.int .i64 G0)).setBox 3 (.slice ra N rc)
     have EG:=ev_get (hc.cel 0 _ rfl).1 (hc.cel 1 _ rfl).1 (hc.cel 2 _ rfl).1 (hc.cel 3 _ rfl).1
     have HC:=Lib.hid hc.less.less
     clear hb hc HA
     go_wp2
     exact bodyPost_ret (results_cell Tryz.results22 _ ⟨q,0,none⟩ rfl EG) rfl (HE2.out _ _ HFF.out.1 HFF.out.2.1 HFF.out.2.2.1 HFF.out.2.2.2 rfl HC.out)
    ·exact ⟨rfl,HD2.out ch m s1 s' kd n _ hm hdv hk hdp ho (SAt.less (h6.perm List.perm_middle))⟩
   ·skip
    have h5:=(h4.perm List.perm_middle).box evz 46
    unfold evz at h5
    have e5:=HSB.out _ _ _ h5 HKX.out
    have HKK:=Lib.hid hK
    clear hK
    simp only [List.drop_succ_cons,List.drop_zero]
    refine headH_mk (by rfl) ?_
    go_simp
    refine HKK.out _ _ (e5) ?_
    clear HKK K
    generalize w4.alloc (.cells [.int .i64 0,.int .i64 0,.int .i64 0,.slice none 0 0].toArray 46) = w5 at *
    generalize w4.heap.size = q3 at *
    refine wpAnyH_one 12 _ #[true,true,true,true,true,true,true,true,true,true,true,true,true,true,false] 1 (by kernel_rfl) (fun K hK=>?_)
    have HKK:=Lib.hid hK
    clear hK
    simp only [List.drop_succ_cons,List.drop_zero]
    refine headH_mk (by rfl) ?_
    go_simp
    refine (HPK.out _ _ _ _ ho1 hm (h5.perm perm_two)).mono ?_
    intro r w7 hp
    rcases hp with ⟨v,s',ra,rc,hf,ho,rfl,h6⟩ | ⟨ch,s',kd,n,rfl,hk,hdp,ho,h6⟩
    ·skip
     have HFF:=Lib.hid (And.intro hm (And.intro hdv (And.intro hf ho)))
     have HE2:=Lib.hid (fun wx rr=>HEND.out m v s1 s' ra rc wx rr)
     have hst:=HST.out m v
     have hlm:=HLM.out m v hm
     generalize pickedM X m v = pk at *
     obtain ⟨Y,k0,M0,G0,rd⟩:=pk
     unfold evV at HE2 ⊢
     simp only at h6 HE2 hst hlm ⊢
     generalize rd.length = N at *
     have e6:=HSB.out _ _ _ h6 hlm
     refine HKK.out _ _ (e6) ?_
     clear HKK K
     have h7:=h6.perm perm_five
     obtain ⟨x0,y0⟩:=h7.cel 0 _ rfl
     obtain ⟨x1,y1⟩:=h7.cel 1 _ rfl
     obtain ⟨x2,y2⟩:=h7.cel 2 _ rfl
     obtain ⟨x3,y3⟩:=h7.cel 3 _ rfl
     have h9:=(((h7.setBox 0 (.int .i64 k0)).setBox 1 (.int .i64 M0)).setBox 2 (.int .i64 G0)).setBox 3 (.slice ra N rc)
     have e9:=HSB.out _ _ _ h9 hlm
     refine wpAnyH_one 14 _ #[true,true,true,true,true,true,true,true,true,true,true,true,true,true,true] 0 (by kernel_rfl) (fun K hK=>?_)
     have HKK:=Lib.hid hK
     clear hK
     simp only [List.drop_succ_cons,List.drop_zero]
     refine headH_mk (by rfl) ?_
     go_simp
     refine HKK.out _ _ (e9) ?_
     clear HKK K
     refine wpAnyH_done (by kernel_rfl) (?_) _
     clear HEND HST HLM HD1 HD2 HPK HDR hm hdv hf ho
     have HQ:=Lib.hid h9
     generalize (((w7.setCell ⟨q3,0,none⟩ (.int .i64 k0)).setCell ⟨q3,1,none⟩ (.int .i64 M0)).setCell ⟨q3,2,none⟩ (.int .i64 G0)).setCell ⟨q3,3,none⟩ (.slice ra N rc) = w8 at *
     clear h3 h4 h5 h6 h7 h9 H2
     obtain ⟨c16,f16⟩:=HQ.out.c16
     have hwr2:IntKind.i64.wrap ((Y.st:Int) + 1) = (Y.st:Int) + 1:=by rw [IntKind.wrap_i64];omega
     have ha:=HQ.out.setSt (Y.st + 1)
     rw [show ((Y.st + 1:Nat):Int) = (Y.st:Int) + 1 by omega] at ha
     have HA:=Lib.hid ha
     clear ha HQ HSB
     go_upto_region 5 with fail
     clear c16 f16
     generalize w8.setCell ⟨b,16,none⟩ (.int .i64 ((Y.st:Int) + 1)) = w9 at *
     obtain ⟨u0,-⟩:=HA.out.cel 0 _ rfl
     obtain ⟨u1,-⟩:=HA.out.cel 1 _ rfl
     obtain ⟨u2,-⟩:=HA.out.cel 2 _ rfl
     obtain ⟨u3,-⟩:=HA.out.cel 3 _ rfl
     have hb:=HA.out.perm (List.Perm.swap _ _ _)
     obtain ⟨p0,r0⟩:=hb.cel 0 _ rfl
     obtain ⟨p1,r1⟩:=hb.cel 1 _ rfl
     obtain ⟨p2,r2⟩:=hb.cel 2 _ rfl
     obtain ⟨p3,r3⟩:=hb.cel 3 _ rfl
     have hc:=(((hb.setBox 0 (.int .i64 k0)).setBox 1 (.int .i64 M0)).setBox 2 (.int .i64 G0)).setBox 3 (.slice ra N rc)
     have EG:=ev_get (hc.cel 0 _ rfl).1 (hc.cel 1 _ rfl).1 (hc.cel 2 _ rfl).1 (hc.cel 3 _ rfl).1
     have HC:=Lib.hid hc.less.less
     clear hb hc HA
     go_wp2
     exact bodyPost_ret (results_cell Tryz.results22 _ ⟨q,0,none⟩ rfl EG) rfl (HE2.out _ _ HFF.out.1 HFF.out.2.1 HFF.out.2.2.1 HFF.out.2.2.2 rfl HC.out)
    ·exact ⟨rfl,HD2.out ch m s1 s' kd n _ hm hdv hk hdp ho (SAt.less (SAt.less (h6.perm perm_two.symm)))⟩
  ·exact ⟨rfl,HD1.out ch s' _ hdp ho1 (SAt.less (h4.perm List.perm_middle))⟩
 ·skip
  have h4:=(h3.perm List.perm_middle).box evz 46
  unfold evz at h4
  have e4:=HSB.out _ _ _ h4 HKX.out
  have HKK:=Lib.hid hK
  clear hK
  simp only [List.drop_succ_cons,List.drop_zero]
  refine headH_mk (by rfl) ?_
  go_simp
  refine HKK.out _ _ (e4) ?_
  clear HKK K
  generalize w3.alloc (.cells [.int .i64 0,.int .i64 0,.int .i64 0,.slice none 0 0].toArray 46) = w4 at *
  generalize w3.heap.size = q3 at *
  refine wpAnyH_one 11 _ #[true,true,true,true,true,true,true,true,true,true,true,true,false,true,false] 2 (by kernel_rfl) (fun K hK=>?_)
  have HKK:=Lib.hid hK
  clear hK
  simp only [List.drop_succ_cons,List.drop_zero]
  refine headH_mk (by rfl) ?_
  go_simp
  refine (HDR.out _ _ _ rfl (h4.perm perm_two)).mono ?_
  intro r w5 hp
  rcases hp with ⟨m,s1,rfl,hm,hdv,ho1,h5⟩ | ⟨ch,s',rfl,hdp,ho1,h5⟩
  ·have e5:=HSB.out _ _ _ h5 HKX.out
   refine HKK.out _ _ (e5) ?_
   clear HKK K
   refine wpAnyH_one 12 _ #[true,true,true,true,true,true,true,true,true,true,true,true,true,true,false] 1 (by kernel_rfl) (fun K hK=>?_)
   have HKK:=Lib.hid hK
   clear hK
   simp only [List.drop_succ_cons,List.drop_zero]
   refine headH_mk (by rfl) ?_
   go_simp
   refine (HPK.out _ _ _ _ ho1 hm h5).mono ?_
   intro r w7 hp
   rcases hp with ⟨v,s',ra,rc,hf,ho,rfl,h6⟩ | ⟨ch,s',kd,n,rfl,hk,hdp,ho,h6⟩
   ·skip
    have HFF:=Lib.hid (And.intro hm (And.intro hdv (And.intro hf ho)))
    have HE2:=Lib.hid (fun wx rr=>HEND.out m v s1 s' ra rc wx rr)
    have hst:=HST.out m v
    have hlm:=HLM.out m v hm
    generalize pickedM X m v = pk at *
    obtain ⟨Y,k0,M0,G0,rd⟩:=pk
    unfold evV at HE2 ⊢
    simp only at h6 HE2 hst hlm ⊢
    generalize rd.length = N at *
    have e6:=HSB.out _ _ _ h6 hlm
    refine HKK.out _ _ (e6) ?_
    clear HKK K
    have h7:=h6.perm perm_five
    obtain ⟨x0,y0⟩:=h7.cel 0 _ rfl
    obtain ⟨x1,y1⟩:=h7.cel 1 _ rfl
    obtain ⟨x2,y2⟩:=h7.cel 2 _ rfl
    obtain ⟨x3,y3⟩:=h7.cel 3 _ rfl
    have h9:=(((h7.setBox 0 (.int .i64 k0)).setBox 1 (.int .i64 M0)).setBox 2 (.int .i64 G0)).setBox 3 (.slice ra N rc)
    have e9:=HSB.out _ _ _ h9 hlm
    refine wpAnyH_one 14 _ #[true,true,true,true,true,true,true,true,true,true,true,true,true,true,true] 0 (by kernel_rfl) (fun K hK=>?_)
    have HKK:=Lib.hid hK
    clear hK
    simp only [List.drop_succ_cons,List.drop_zero]
    refine headH_mk (by rfl) ?_
    go_simp
    refine HKK.out _ _ (e9) ?_
    clear HKK K
    refine wpAnyH_done (by kernel_rfl) (?_) _
    clear HEND HST HLM HD1 HD2 HPK HDR hm hdv hf ho
    have HQ:=Lib.hid h9
    generalize (((w7.setCell ⟨q3,0,none⟩ (.int .i64 k0)).setCell ⟨q3,1,none⟩ (.int .i64 M0)).setCell ⟨q3,2,none⟩ (.int .i64 G0)).setCell ⟨q3,3,none⟩ (.slice ra N rc) = w8 at *
    clear h3 h4 h5 h6 h7 h9 H2
    obtain ⟨c16,f16⟩:=HQ.out.c16
    have hwr2:IntKind.i64.wrap ((Y.st:Int) + 1) = (Y.st:Int) + 1:=by rw [IntKind.wrap_i64];omega
    have ha:=HQ.out.setSt (Y.st + 1)
    rw [show ((Y.st + 1:Nat):Int) = (Y.st:Int) + 1 by omega] at ha
    have HA:=Lib.hid ha
    clear ha HQ HSB
    go_upto_region 5 with fail
    clear c16 f16
    generalize w8.setCell ⟨b,16,none⟩ (.int .i64 ((Y.st:Int) + 1)) = w9 at *
    obtain ⟨u0,-⟩:=HA.out.cel 0 _ rfl
    obtain ⟨u1,-⟩:=HA.out.cel 1 _ rfl
    obtain ⟨u2,-⟩:=HA.out.cel 2 _ rfl
    obtain ⟨u3,-⟩:=HA.out.cel 3 _ rfl
    have hb:=HA.out.perm (List.Perm.swap _ _ _)
    obtain ⟨p0,r0⟩:=hb.cel 0 _ rfl
    obtain ⟨p1,r1⟩:=hb.cel 1 _ rfl
    obtain ⟨p2,r2⟩:=hb.cel 2 _ rfl
    obtain ⟨p3,r3⟩:=hb.cel 3 _ rfl
    have hc:=(((hb.setBox 0 (.int .i64 k0)).setBox 1 (.int .i64 M0)).setBox 2 (.int .i64 G0)).setBox 3 (.slice ra N rc)
    have EG:=ev_get (hc.cel 0 _ rfl).1 (hc.cel 1 _ rfl).1 (hc.cel 2 _ rfl).1 (hc.cel 3 _ rfl).1
    have HC:=Lib.hid hc.less.less
    clear hb hc HA
    go_wp2
    exact bodyPost_ret (results_cell Tryz.results22 _ ⟨q,0,none⟩ rfl EG) rfl (HE2.out _ _ HFF.out.1 HFF.out.2.1 HFF.out.2.2.1 HFF.out.2.2.2 rfl HC.out)
   ·exact ⟨rfl,HD2.out ch m s1 s' kd n _ hm hdv hk hdp ho (SAt.less (SAt.less (h6.perm perm_two.symm)))⟩
  ·exact ⟨rfl,HD1.out ch s' _ hdp ho1 (SAt.less (SAt.less (h5.perm perm_two.symm)))⟩
theorem step_over {w0 w:World} {b sp:Nat} {L:Sl} {X:Sd} {R:List Asr} (h:SAt w0 w b sp L X R) (hl:X.W.gs.length ≤ 1000000) (hov:overM X ≠ 0) :
  Calls Tryz.prog 22 #[.pointer (some ⟨b,0,none⟩)] w fun r w'=>r = .returned (evV ⟨0,0,0,[]⟩ none 0) ∧ SAt w0 w' b sp L X R:=by
 have h1:=h.box evz 46
 have HSTAT:=Lib.hid (stat_any h1 hl)
 have hb:(overM X != 0) = true:=by simpa using hov
 have H1:=Lib.hid h1
 generalize overM X = ov at *
 clear h h1 hl hov
 unfold evz at H1 HSTAT
 unfold evV
 go_enter Tryz.func22,Tryz.ntmps22
 go_upto_region 1 with fail
 generalize w.alloc (.cells [.int .i64 0,.int .i64 0,.int .i64 0,.slice none 0 0].toArray 46) = w1 at *
 generalize w.heap.size = q at *
 go_wp2_with fail
 refine HSTAT.out.mono ?_
 rintro r w2 ⟨rfl,hb2⟩
 have h2:=H1.out.step hb2
 obtain ⟨x0,y0⟩:=h2.cel 0 _ rfl
 obtain ⟨x1,y1⟩:=h2.cel 1 _ rfl
 obtain ⟨x2,y2⟩:=h2.cel 2 _ rfl
 obtain ⟨x3,y3⟩:=h2.cel 3 _ rfl
 have h3:=(((h2.setBox 0 (.int .i64 0)).setBox 1 (.int .i64 0)).setBox 2 (.int .i64 0)).setBox 3 (.slice none 0 0)
 have EG:=ev_get (h3.cel 0 _ rfl).1 (h3.cel 1 _ rfl).1 (h3.cel 2 _ rfl).1 (h3.cel 3 _ rfl).1
 have H3:=Lib.hid h3.less
 clear hb2 h2 h3 H1 HSTAT
 go_wp2
 exact bodyPost_ret (results_cell Tryz.results22 _ ⟨q,0,none⟩ rfl EG) rfl ⟨rfl,H3.out⟩
theorem sworld_any {w0 w:World} {b sp:Nat} {L:Sl} {X:Sd} {R:List Asr} (h:SAt w0 w b sp L X R):Calls Tryz.prog 14 #[.pointer (some ⟨b,0,none⟩)] w fun r w'=>r = .returned (.pointer (some ⟨b,0,none⟩)) ∧ w' = w:=by
 have hc:=h.c11
 clear h
 go_enter Tryz.func14,Tryz.ntmps14
 go_wp2
 go_ret
 exact ⟨rfl,rfl⟩
theorem ssteps_any {w0 w:World} {b sp:Nat} {L:Sl} {X:Sd} {R:List Asr} (h:SAt w0 w b sp L X R):Calls Tryz.prog 23 #[.pointer (some ⟨b,0,none⟩)] w fun r w'=>r = .returned (.int .i64 (X.st:Int)) ∧ w' = w:=by
 obtain ⟨hc,-⟩:=h.c16
 clear h
 go_enter Tryz.func23,Tryz.ntmps23
 go_wp2
 go_ret
 exact ⟨rfl,rfl⟩
theorem lit16 (a b V:Value):(#[a,b] ++ (Array.replicate 14 undef).setIfInBounds 4 V) = #[a,b,undef,undef,undef,undef,V,undef,undef,undef,undef,undef,undef,undef,undef,undef]:=rfl
theorem catch_idle (p q:Addr) (w:World) :
  CallsD Tryz.prog 49 #[.pointer (some p),.pointer (some q)] .returning w fun e u' w'=>e = .returned (.tuple #[]) ∧ u' = .returning ∧ w' = w:=by
 refine callsD_of_wpS Tryz.func49 rfl fun c₀ cs hu=>?_
 apply wpS_seq
 apply wpS_region
 simp [wpOpsS,go_sem,recoverD,hu,Tryz.ntmps49,Exit.thenS]
 rw [lit16]
 refine wpS_of_wp ?_
 go_wp2
 cases c₀
 simp_all [bodyPostS,results,Tryz.results49]
theorem as_dry (w:World):(Instr.typeAssert (.iface 130 (.agg #[])) 20 130 true).run Tryz.prog w = .ok (.tuple #[.agg #[],.bool true]) w:=by kernel_rfl
theorem as_no (v:Value) (w:World):(Instr.typeAssert (.iface 101 v) 20 130 true).run Tryz.prog w = .ok (.tuple #[.agg #[],.bool false]) w:=by kernel_rfl
theorem as_unlike (v:Value) (w:World):(Instr.typeAssert (.iface 101 v) 20 101 true).run Tryz.prog w = .ok (.tuple #[v,.bool true]) w:=by kernel_rfl
def uz:List Value:=[.int .i64 0,.int .i64 0,.int .i64 0,.int .i64 0,.int .u64 0]
def uv (a0 a1 a2 a3 a4:Int):List Value:=[.int .i64 a0,.int .i64 a1,.int .i64 a2,.int .i64 a3,.int .u64 a4]
theorem catch_dry {w0 w:World} {R:List Asr} {p q:Nat} {x:Value} (h:Own w0 w (CelA p [x] :: CelA q uz :: R)) (older:List PanicEntry) :
  CallsD Tryz.prog 49 #[.pointer (some ⟨p,0,none⟩),.pointer (some ⟨q,0,none⟩)] (.panicking ({ v:=.iface 130 (.agg #[]),recovered:=false } :: older)) w fun e u' w' =>
   e = .returned (.tuple #[]) ∧ u' = .panicking ({ v:=.iface 130 (.agg #[]),recovered:=true } :: older) ∧ Own w0 w' (CelA p [.int .i64 1] :: CelA q uz :: R):=by
 have h1:=as_dry
 obtain ⟨g0,f0⟩:=h.cel 0 rfl 0 _ rfl
 have hpl:=World.block_lt_of_cell? w _ g0
 have H:=Lib.hid ((h.set 0 (.int .i64 1)).step (below_alloc1 _ (.cells #[] 130)))
 clear h
 refine callsD_of_wpS Tryz.func49 rfl fun c₀ cs hu=>?_
 apply wpS_seq
 apply wpS_region
 simp [wpOpsS,go_sem,recoverD,hu,Tryz.ntmps49,Exit.thenS]
 rw [lit16]
 refine wpS_of_wp ?_
 go_wp2
 refine ⟨rfl,_,rfl,.tuple #[],by simp [results,Tryz.results49],rfl,rfl,H.out⟩
theorem catch_unlike {w0 w:World} {R:List Asr} {p q:Nat} {x:Value} (a0 a1 a2 a3 a4:Int) (h:Own w0 w (CelA p [x] :: CelA q uz :: R)) (older:List PanicEntry) :
  CallsD Tryz.prog 49 #[.pointer (some ⟨p,0,none⟩),.pointer (some ⟨q,0,none⟩)] (.panicking ({ v:=.iface 101 (.agg (uv a0 a1 a2 a3 a4).toArray),recovered:=false } :: older)) w fun e u' w' =>
   e = .returned (.tuple #[]) ∧ u' = .panicking ({ v:=.iface 101 (.agg (uv a0 a1 a2 a3 a4).toArray),recovered:=true } :: older) ∧ Own w0 w' (CelA p [.int .i64 2] :: CelA q (uv a0 a1 a2 a3 a4) :: R):=by
 have h1:=fun w=>as_no (.agg (uv a0 a1 a2 a3 a4).toArray) w
 have h2:=fun w=>as_unlike (.agg (uv a0 a1 a2 a3 a4).toArray) w
 have h3:∀ w:World,(binOp .eql 20 (.iface 101 (.agg (uv a0 a1 a2 a3 a4).toArray)) .nilIface).run Tryz.prog w = .ok (.bool false) w:=fun w=>rfl
 have h4:∀ w:World,(eqGuard .eql 20 (.tmp 6) (.const .nilIface) (.iface 101 (.agg (uv a0 a1 a2 a3 a4).toArray)) .nilIface).run Tryz.prog w = .ok () w:=fun w=>rfl
 generalize Value.iface 101 (.agg (uv a0 a1 a2 a3 a4).toArray) = V at *
 unfold uv at h2
 unfold uz at h
 unfold uv
 obtain ⟨g0,f0⟩:=h.cel 0 rfl 0 _ rfl
 have hpl:=World.block_lt_of_cell? w _ g0
 have H:=Lib.hid h
 clear h
 refine callsD_of_wpS Tryz.func49 rfl fun c₀ cs hu=>?_
 apply wpS_seq
 apply wpS_region
 simp [wpOpsS,go_sem,recoverD,hu,Tryz.ntmps49,Exit.thenS]
 rw [lit16]
 refine wpS_of_wp ?_
 go_upto_region 10 with fail
 obtain ⟨q0,e0⟩:=H.out.cel 1 rfl 0 _ rfl
 obtain ⟨q1,e1⟩:=H.out.cel 1 rfl 1 _ rfl
 obtain ⟨q2,e2⟩:=H.out.cel 1 rfl 2 _ rfl
 obtain ⟨q3,e3⟩:=H.out.cel 1 rfl 3 _ rfl
 obtain ⟨q4,e4⟩:=H.out.cel 1 rfl 4 _ rfl
 have hql:=World.block_lt_of_cell? w _ q0
 have hpq:p ≠ q:=by
  obtain ⟨_,F,⟨F1,F2,rfl,⟨rfl,_,_⟩,hd,⟨F3,F4,rfl,⟨rfl,_,_⟩,_,_⟩⟩,_⟩:=H.out
  intro he;subst he;exact hd p (by simp) (by simp)
 go_region
 have h5:=((H.out.set 0 (.int .i64 2)).pick 1 rfl)
 have h6:=((((((h5.set 0 (.int .i64 a0)).set 1 (.int .i64 a1)).set 2 (.int .i64 a2)).set 3 (.int .i64 a3)).set 4 (.int .u64 a4)).pick 1 rfl).step (below_alloc1 _ (.cells #[.int .i64 a0,.int .i64 a1,.int .i64 a2,.int .i64 a3,.int .u64 a4] 101))
 exact ⟨rfl,_,rfl,.tuple #[],by simp [results,Tryz.results49],rfl,rfl,h6.step (below_drew1 _)⟩
def Ended (r:Ending) (k:Int) (u:List Value):Prop :=
 (r = .returned (.tuple #[]) ∧ k = 0 ∧ u = uz) ∨ (r = dry ∧ k = 1 ∧ u = uz) ∨ ∃ i kd n x,r = strayed i kd n x ∧ k = 2 ∧ u = uv (i:Int) kd (n:Int) x.1 (x.2:Int)
theorem len5 {u:List Value} {r:Ending} {k:Int} (h:Ended r k u):∃ a0 a1 a2 a3 a4,u = uv a0 a1 a2 a3 a4:=by
 rcases h with ⟨_,_,rfl⟩ | ⟨_,_,rfl⟩ | ⟨i,kd,n,x,_,_,rfl⟩
 ·exact ⟨_,_,_,_,_,rfl⟩
 ·exact ⟨_,_,_,_,_,rfl⟩
 ·exact ⟨_,_,_,_,_,rfl⟩
theorem sep_ne {w0 w:World} {R:List Asr} {p q:Nat} {x y:List Value} (h:Own w0 w (CelA p x :: CelA q y :: R)):p ≠ q:=by
 obtain ⟨_,F,⟨F1,F2,rfl,⟨rfl,_,_⟩,hd,⟨F3,F4,rfl,⟨rfl,_,_⟩,_,_⟩⟩,_⟩:=h
 intro he;subst he;exact hd p (by simp) (by simp)
theorem guard_results {w0 w:World} {R:List Asr} {g g':Nat} {k a0 a1 a2 a3 a4:Int} (h:Own w0 w (CelA g [.int .i64 k] :: CelA g' (uv a0 a1 a2 a3 a4) :: R)) (tmps:Array Value) (h2:tmps.getD 2 undef = .pointer (some ⟨g,0,none⟩)) (h3:tmps.getD 3 undef = .pointer (some ⟨g',0,none⟩)) :
  (results Tryz.f31 tmps).run Tryz.prog w = .ok (.tuple #[.int .i64 k,.agg (uv a0 a1 a2 a3 a4).toArray]) w:=by
 unfold uv at *
 obtain ⟨g0,-⟩:=h.cel 0 rfl 0 _ rfl
 obtain ⟨q0,-⟩:=h.cel 1 rfl 0 _ rfl
 obtain ⟨q1,-⟩:=h.cel 1 rfl 1 _ rfl
 obtain ⟨q2,-⟩:=h.cel 1 rfl 2 _ rfl
 obtain ⟨q3,-⟩:=h.cel 1 rfl 3 _ rfl
 obtain ⟨q4,-⟩:=h.cel 1 rfl 4 _ rfl
 have h2':tmps[2]?.getD undef = .pointer (some ⟨g,0,none⟩):=by simpa using h2
 have h3':tmps[3]?.getD undef = .pointer (some ⟨g',0,none⟩):=by simpa using h3
 simp [results,Tryz.results31,go_sem,h2',h3',asAddr,g0,q0,q1,q2,q3,q4]
theorem guard_any {w0 w:World} {R:List Asr} (h:Own w0 w R) (F:Nat) (cap:Array Value) (en:∀ (args:Array Value) (w:World),(callFunc F args).run Tryz.prog w = .ok (.enter F args) w) (Qr:Ending → List Asr → Prop)
  (hrun:∀ w1 g,Own w0 w1 (CelA g [.int .i64 0] :: CelA (g + 1) uz :: R) → Calls Tryz.prog F cap w1 fun r w2=>∃ R' k u,Own w0 w2 (CelA g [.int .i64 0] :: CelA (g + 1) uz :: R') ∧ Qr r R' ∧ Ended r k u) :
  Calls Tryz.prog 31 #[.func (.func F) #[] cap] w fun e w'=>∃ r R' k u,Own w0 w' R' ∧ Qr r R' ∧ Ended r k u ∧ e = .returned (.tuple #[.int .i64 k,.agg u.toArray]):=by
 have hmf:∀ (fn:Fn) (first cap:Array Value) (w:World),(Instr.makeFunc fn first cap).run Tryz.prog w = .ok (.func fn first cap) w:=fun _ _ _ _=>rfl
 have hA:=((h.alloc [.int .i64 0] 3 (b:=w.heap.size) rfl).alloc uz 101 (b:=w.heap.size + 1) (by simp)).pick 1 rfl
 have hC:=hrun _ _ hA
 have HC:=Lib.hid hC
 clear hrun hA hC h
 unfold uz at HC
 go_enter_defers Tryz.func31,Tryz.ntmps31
 go_wp2_with fail
 refine HC.out.mono ?_
 rintro r w2 ⟨R',k,u,ho,hq,he⟩
 clear HC
 generalize w.heap.size = g at *
 rcases he with ⟨rfl,rfl,rfl⟩ | ⟨rfl,rfl,rfl⟩ | ⟨i,kd,n,x,rfl,rfl,rfl⟩
 ·have HO:=Lib.hid ho
  have hpq:=sep_ne ho
  have h5:=((ho.set 0 (.int .i64 0)).pick 1 rfl)
  have h6:=(((((h5.set 0 (.int .i64 0)).set 1 (.int .i64 0)).set 2 (.int .i64 0)).set 3 (.int .i64 0)).set 4 (.int .u64 0)).pick 1 rfl
  have H6:=Lib.hid h6
  have HQ:=Lib.hid hq
  obtain ⟨g0,f0⟩:=ho.cel 0 rfl 0 _ rfl
  obtain ⟨q0,e0⟩:=ho.cel 1 rfl 0 _ rfl
  obtain ⟨q1,e1⟩:=ho.cel 1 rfl 1 _ rfl
  obtain ⟨q2,e2⟩:=ho.cel 1 rfl 2 _ rfl
  obtain ⟨q3,e3⟩:=ho.cel 1 rfl 3 _ rfl
  obtain ⟨q4,e4⟩:=ho.cel 1 rfl 4 _ rfl
  clear ho h5 h6 hq
  go_wp2
  refine leaves_cons (f:=49) (args:=#[.pointer (some ⟨g,0,none⟩),.pointer (some ⟨g + 1,0,none⟩)]) (by simp) (by simp [go_sem]) ?_
  refine (catch_idle _ _ _).mono ?_
  rintro e u' w'' ⟨rfl,rfl,rfl⟩
  exact ⟨_,guard_results (H6.out) _ rfl rfl,.returned (.tuple #[]),R',0,uz,(H6.out).drop.drop,HQ.out,.inl ⟨rfl,rfl,rfl⟩,rfl⟩
 ·refine leaves_cons (f:=49) (args:=#[.pointer (some ⟨g,0,none⟩),.pointer (some ⟨g + 1,0,none⟩)]) (by simp) (by simp [go_sem]) ?_
  refine (catch_dry ho _).mono ?_
  rintro e u' w'' ⟨rfl,rfl,ho2⟩
  refine ⟨_,guard_results (ho2) _ rfl rfl,dry,R',1,uz,ho2.drop.drop,hq,.inr (.inl ⟨rfl,rfl,rfl⟩),rfl⟩
 ·refine leaves_cons (f:=49) (args:=#[.pointer (some ⟨g,0,none⟩),.pointer (some ⟨g + 1,0,none⟩)]) (by simp) (by simp [go_sem]) ?_
  refine (catch_unlike _ _ _ _ _ ho _).mono ?_
  rintro e u' w'' ⟨rfl,rfl,ho2⟩
  refine ⟨_,guard_results (ho2) _ rfl rfl,_,R',2,_,ho2.drop.drop,hq,.inr (.inr ⟨i,kd,n,x,rfl,rfl,rfl⟩),rfl⟩
def evc (e:Ev) (ra:Option Addr) (rc:Nat):List Value:=[.int .i64 e.kind,.int .i64 e.M,.int .i64 e.G,.slice ra e.rd.length rc]
def LStep {sp:Nat} (D:Drw sp) (s:D.T) (X:Sd) (j:Nat) (e:Ev) (k:Int) (X':Sd) (s':D.T):Prop :=
 (overM X ≠ 0 ∧ e = ⟨0,0,0,[]⟩ ∧ k = 0 ∧ X' = X ∧ s' = s ∧ D.ok (j + 2) s) ∨
 (overM X = 0 ∧ D.ok j s' ∧ ((∃ m:Nat,∃ v s1,m ≤ X.ms.length ∧ D.Dv s 1 ((X.ms.length:Int) + 1) (m:Int) s1 ∧ Fit D s1 (asks2 X m) v s' ∧ e = (stepM X m v).2 ∧ k = 0 ∧ X' = (stepM X m v).1) ∨
  (∃ r,(D.Dp s 1 ((X.ms.length:Int) + 1) r s' ∨ ∃ m:Nat,∃ s1 kd n,m ≤ X.ms.length ∧ D.Dv s 1 ((X.ms.length:Int) + 1) (m:Int) s1 ∧ asks2 X m = some (kd,n) ∧ D.Dp s1 kd n r s') ∧ e = ⟨0,0,0,[]⟩ ∧ (∃ u,Ended r k u) ∧ (k = 1 ∨ k = 2) ∧ X' = X)))
theorem perm_e1 {α:Type _} {e r s:α} {A Z:List α}:List.Perm (e :: r :: s :: (A ++ Z)) (A ++ (s :: e :: r :: Z)) :=
 (List.perm_middle (a:=s) (l₁:=[e,r]) (l₂:=A ++ Z)).trans (List.perm_append_comm_assoc [s,e,r] A Z)
theorem perm_e2 {α:Type _} {a c r:α} {A Z:List α}:List.Perm (r :: (A ++ (a :: c :: Z))) (c :: r :: a :: (A ++ Z)) :=
 perm_five.trans (List.perm_middle (a:=a) (l₁:=[c,r]) (l₂:=A ++ Z)).symm
theorem perm_e3 {α:Type _} {a c r:α} {A Z:List α}:List.Perm (r :: (A ++ (a :: c :: Z))) (A ++ (a :: c :: r :: Z)) :=
 perm_five.trans (List.perm_append_comm_assoc [a,c,r] A Z)
theorem lstep1_any {w0 w:World} {b sp bs be:Nat} {X:Sd} {Z:List Asr} {D:Drw sp} {s:D.T} {j B:Nat} (h:Own w0 w (SchA b sp X :: (D.A s ++ (CelA bs [.pointer (some ⟨b,0,none⟩)] :: CelA be evz :: Z)))) (hok:D.ok (j + 2) s) (wf:SdWF B X) (hB:B ≤ 80000) (hen:EnOk X.W.en)
  (hpan:∀ s kd n r s',D.Dp s kd n r s' → ∃ k u,Ended r k u ∧ (k = 1 ∨ k = 2)) :
  Calls Tryz.prog 32 #[.pointer (some ⟨bs,0,none⟩),.pointer (some ⟨be,0,none⟩)] w fun r w'=>∃ e ra rc k u X' s',LStep D s X j e k X' s' ∧ Ended r k u ∧
   Own w0 w' (SchA b sp X' :: (D.A s' ++ (CelA bs [.pointer (some ⟨b,0,none⟩)] :: CelA be (evc e ra rc) :: RowGA 1 ra rc e.rd.length (intc e.rd) :: Z))):=by
 obtain ⟨L,h⟩:=h.sat
 have hg1:=wf.wf.g1
 have HX:Hid (∀ wx Y A,SAt w0 wx b sp L Y (A ++ (CelA bs [.pointer (some ⟨b,0,none⟩)] :: CelA be evz :: Z)) → wx.cell? ⟨bs,0,none⟩ = some (.pointer (some ⟨b,0,none⟩))):=Lib.hid (fun wx Y A hx=>((hx.perm List.perm_middle).cel 0 _ rfl).1)
 have x0:=HX.out _ _ _ h
 by_cases hov:overM X = 0
 ·have hen0:X.W.en = 0:=by
   unfold overM at hov
   rcases hen with e | e | e
   ·exact e
   ·rw [if_pos e] at hov;cases hov
   ·rw [if_neg (by omega),if_pos e] at hov;cases hov
  have HS:=Lib.hid (step_any h hok wf hB hov hen0)
  have HOV:=Lib.hid hov
  clear h hok wf hen hov hg1 hen0
  go_enter Tryz.func32,Tryz.ntmps32
  go_wp2_with fail
  refine HS.out.mono ?_
  rintro r w1 hp
  rcases hp with ⟨m,v,s1,s',ra,rc,hm,hdv,hf,ho,rfl,h1⟩ | ⟨ch,s',rfl,hd,ho,h1⟩
  ·have HL:Hid (LStep D s X j (stepM X m v).2 0 (stepM X m v).1 s'):=Lib.hid (.inr ⟨HOV.out,ho,.inl ⟨m,v,s1,hm,hdv,hf,rfl,rfl,rfl⟩⟩)
   clear hm hdv hf ho HS HX
   generalize stepM X m v = st at *
   obtain ⟨Y,e⟩:=st
   simp only at h1 HL ⊢
   have h2:SAt w0 w1 b sp L Y (CelA be evz :: RowGA 1 ra rc e.rd.length (intc e.rd) :: CelA bs [.pointer (some ⟨b,0,none⟩)] :: (D.A s' ++ Z)):=h1.perm perm_e2
   have HE:Hid (∀ wx,SAt w0 wx b sp L Y (CelA be (evc e ra rc) :: RowGA 1 ra rc e.rd.length (intc e.rd) :: CelA bs [.pointer (some ⟨b,0,none⟩)] :: (D.A s' ++ Z)) → ∃ e ra rc k u X' s',LStep D s X j e k X' s' ∧ Ended (.returned (.tuple #[])) k u ∧ Own w0 wx (SchA b sp X' :: (D.A s' ++ (CelA bs [.pointer (some ⟨b,0,none⟩)] :: CelA be (evc e ra rc) :: RowGA 1 ra rc e.rd.length (intc e.rd) :: Z)))):=Lib.hid (fun wx hx=>⟨e,ra,rc,0,uz,Y,s',HL.out,.inl ⟨rfl,rfl,rfl⟩,(hx.perm perm_e1).to⟩)
   clear HL h1
   obtain ⟨k0,M0,G0,rd⟩:=e
   unfold evV evc at *
   simp only at h2 HE ⊢
   generalize rd.length = N at *
   unfold evz at h2
   obtain ⟨z0,y0⟩:=h2.cel 0 _ rfl
   obtain ⟨z1,y1⟩:=h2.cel 1 _ rfl
   obtain ⟨z2,y2⟩:=h2.cel 2 _ rfl
   obtain ⟨z3,y3⟩:=h2.cel 3 _ rfl
   have h3:=(((h2.setBox 0 (.int .i64 k0)).setBox 1 (.int .i64 M0)).setBox 2 (.int .i64 G0)).setBox 3 (.slice ra N rc)
   have HR:=Lib.hid (HE.out _ h3)
   clear h2 h3 HE
   go_wp2
   go_end0
   exact HR.out
  ·obtain ⟨k,u,he,hk⟩:∃ k u,Ended (.panicked ch) k u ∧ (k = 1 ∨ k = 2):=by
    rcases hd with hd | ⟨m,s1,kd,n,-,-,-,hd⟩
    ·exact hpan _ _ _ _ _ hd
    ·exact hpan _ _ _ _ _ hd
   refine ⟨rfl,⟨0,0,0,[]⟩,none,0,k,u,X,s',.inr ⟨HOV.out,ho,.inr ⟨_,hd,rfl,⟨u,he⟩,hk,rfl⟩⟩,he,?_⟩
   exact (h1.nilRow.perm perm_e3).to
 ·have HS:=Lib.hid (step_over h (by omega) hov)
  have HL:Hid (LStep D s X j ⟨0,0,0,[]⟩ 0 X s):=Lib.hid (.inl ⟨hov,rfl,rfl,rfl,rfl,hok⟩)
  clear h hok wf hen hov hg1
  go_enter Tryz.func32,Tryz.ntmps32
  go_wp2_with fail
  refine HS.out.mono ?_
  rintro r w1 ⟨rfl,h1⟩
  have h2:SAt w0 w1 b sp L X (CelA be evz :: RowGA 1 none 0 0 [] :: CelA bs [.pointer (some ⟨b,0,none⟩)] :: (D.A s ++ Z)):=h1.nilRow.perm perm_e2
  unfold evz at h2
  unfold evV
  obtain ⟨z0,y0⟩:=h2.cel 0 _ rfl
  obtain ⟨z1,y1⟩:=h2.cel 1 _ rfl
  obtain ⟨z2,y2⟩:=h2.cel 2 _ rfl
  obtain ⟨z3,y3⟩:=h2.cel 3 _ rfl
  have h3:=(((h2.setBox 0 (.int .i64 0)).setBox 1 (.int .i64 0)).setBox 2 (.int .i64 0)).setBox 3 (.slice none 0 0)
  have HR:=Lib.hid (h3.perm perm_e1).to
  clear h1 h2 h3 HS HX
  go_wp2
  go_end0
  exact ⟨⟨0,0,0,[]⟩,none,0,0,uz,X,s,HL.out,.inl ⟨rfl,rfl,rfl⟩,HR.out⟩
theorem perm_l1 {α:Type _} {S q e r z:α} {A R:List α}:List.Perm (S :: (A ++ (q :: e :: r :: z :: R))) (e :: z :: q :: r :: S :: (A ++ R)):=by
 refine ((List.perm_append_comm_assoc A [q,e,r,z] R).cons S).trans ?_
 refine (List.perm_append_comm_assoc [S] [q,e,r,z] (A ++ R)).trans ?_
 show List.Perm (q :: e :: r :: z :: (S :: (A ++ R))) _
 exact (List.Perm.swap _ _ _).trans (List.Perm.cons _ ((List.Perm.cons _ (List.Perm.swap _ _ _)).trans (List.Perm.swap _ _ _)))
theorem ended_inj {r:Ending} {k k':Int} {u u':List Value} (h:Ended r k u) (h':Ended r k' u'):k = k':=by
 rcases h with ⟨rfl,rfl,rfl⟩ | ⟨rfl,rfl,rfl⟩ | ⟨i,kd,n,x,rfl,rfl,rfl⟩
 ·rcases h' with ⟨-,rfl,rfl⟩ | ⟨e,-,-⟩ | ⟨i',kd',n',x',e,-,-⟩
  ·rfl
  ·cases e
  ·cases e
 ·rcases h' with ⟨e,-,-⟩ | ⟨-,rfl,rfl⟩ | ⟨i',kd',n',x',e,-,-⟩
  ·cases e
  ·rfl
  ·exact absurd e (by unfold dry strayed;simp)
 ·rcases h' with ⟨e,-,-⟩ | ⟨e,-,-⟩ | ⟨i',kd',n',x',e,rfl,-⟩
  ·cases e
  ·exact absurd e.symm (by unfold dry strayed;simp)
  ·rfl
theorem lstep_results {w:World} {q:Nat} {a b c k:Int} {ra:Option Addr} {n rc:Nat} (e0:w.cell? ⟨q,0,none⟩ = some (.int .i64 a)) (e1:w.cell? ⟨q,1,none⟩ = some (.int .i64 b)) (e2:w.cell? ⟨q,2,none⟩ = some (.int .i64 c)) (e3:w.cell? ⟨q,3,none⟩ = some (.slice ra n rc)) (tmps:Array Value) (h2:tmps.getD 2 undef = .pointer (some ⟨q,0,none⟩)) (h3:tmps.getD 3 undef = .int .i64 k) :
  (results Tryz.f13 tmps).run Tryz.prog w = .ok (.tuple #[.agg #[.int .i64 a,.int .i64 b,.int .i64 c,.slice ra n rc],.int .i64 k]) w:=by
 have h2':tmps[2]?.getD undef = .pointer (some ⟨q,0,none⟩):=by simpa using h2
 have h3':tmps[3]?.getD undef = .int .i64 k:=by simpa using h3
 simp [results,Tryz.results13,go_sem,h2',h3',asAddr,e0,e1,e2,e3]
theorem lstep_any {w0 w:World} {b sp:Nat} {X:Sd} {R:List Asr} {D:Drw sp} {s:D.T} {j B:Nat} (h:Own w0 w (SchA b sp X :: (D.A s ++ R))) (hok:D.ok (j + 2) s) (wf:SdWF B X) (hB:B ≤ 80000) (hen:EnOk X.W.en)
  (hpan:∀ s kd n r s',D.Dp s kd n r s' → ∃ k u,Ended r k u ∧ (k = 1 ∨ k = 2)) :
  Calls Tryz.prog 13 #[.pointer (some ⟨b,0,none⟩)] w fun r w'=>∃ e ra rc k X' s',LStep D s X j e k X' s' ∧ r = .returned (.tuple #[evV e ra rc,.int .i64 k]) ∧
   Own w0 w' (RowGA 1 ra rc e.rd.length (intc e.rd) :: SchA b sp X' :: (D.A s' ++ R)):=by
 have hmf:∀ (fn:Fn) (first cap:Array Value) (w:World),(Instr.makeFunc fn first cap).run Tryz.prog w = .ok (.func fn first cap) w:=fun _ _ _ _=>rfl
 have en:∀ (args:Array Value) (w:World),(callFunc 32 args).run Tryz.prog w = .ok (.enter 32 args) w:=fun _ _=>by kernel_rfl
 have h1:=h.alloc [.pointer (some ⟨b,0,none⟩)] 35 (b:=w.heap.size) rfl
 have h2:=h1.alloc evz 46 (b:=w.heap.size + 1) (by simp)
 have h3:=h2.alloc evz 46 (b:=w.heap.size + 1 + 1) (by simp)
 have H3:=Lib.hid h3
 have HG:=Lib.hid (fun (wx:World) (bs be:Nat) (Z:List Asr) (hx:Own w0 wx (SchA b sp X :: (D.A s ++ (CelA bs [.pointer (some ⟨b,0,none⟩)] :: CelA be evz :: Z))))=>guard_any hx 32 #[.pointer (some ⟨bs,0,none⟩),.pointer (some ⟨be,0,none⟩)] en
  (fun r R'=>∃ e ra rc k u X' s',LStep D s X j e k X' s' ∧ Ended r k u ∧ R' = (SchA b sp X' :: (D.A s' ++ (CelA bs [.pointer (some ⟨b,0,none⟩)] :: CelA be (evc e ra rc) :: RowGA 1 ra rc e.rd.length (intc e.rd) :: Z))))
  (fun w1 g h1=>by
   have h2:Own w0 w1 (SchA b sp X :: (D.A s ++ (CelA bs [.pointer (some ⟨b,0,none⟩)] :: CelA be evz :: CelA g [.int .i64 0] :: CelA (g + 1) uz :: Z))):=h1.perm (by
    refine (List.perm_append_comm_assoc [CelA g [.int .i64 0],CelA (g + 1) uz] [SchA b sp X] _).trans (List.Perm.cons _ ?_)
    refine (List.perm_append_comm_assoc [CelA g [.int .i64 0],CelA (g + 1) uz] (D.A s) _).trans (List.Perm.append_left _ ?_)
    exact List.perm_append_comm_assoc [CelA g [.int .i64 0],CelA (g + 1) uz] [CelA bs _,CelA be evz] Z)
   refine (lstep1_any h2 hok wf hB hen hpan).mono (fun r w2 hh=>?_)
   obtain ⟨e,ra,rc,k,u,X',s',hl,he,ho⟩:=hh
   refine ⟨_,k,u,ho.perm ?_,⟨e,ra,rc,k,u,X',s',hl,he,rfl⟩,he⟩
   refine List.Perm.symm ?_
   refine (List.perm_append_comm_assoc [CelA g [.int .i64 0],CelA (g + 1) uz] [SchA b sp X'] _).trans (List.Perm.cons _ ?_)
   refine (List.perm_append_comm_assoc [CelA g [.int .i64 0],CelA (g + 1) uz] (D.A s') _).trans (List.Perm.append_left _ ?_)
   exact List.perm_append_comm_assoc [CelA g [.int .i64 0],CelA (g + 1) uz] [CelA bs _,CelA be _,RowGA 1 ra rc e.rd.length (intc e.rd)] Z))
 clear h h1 h2 h3 hok wf hen hpan
 unfold evV
 go_enter Tryz.func13,Tryz.ntmps13
 go_wp2_with fail
 have hG:=HG.out _ w.heap.size (w.heap.size + 1 + 1) (CelA (w.heap.size + 1) evz :: R) (H3.out.perm (by
  refine (List.perm_append_comm_assoc [CelA (w.heap.size + 1 + 1) evz,CelA (w.heap.size + 1) evz,CelA w.heap.size _] [SchA b sp X] _).trans (List.Perm.cons _ ?_)
  refine (List.perm_append_comm_assoc [CelA (w.heap.size + 1 + 1) evz,CelA (w.heap.size + 1) evz,CelA w.heap.size _] (D.A s) _).trans (List.Perm.append_left _ ?_)
  exact (pick_perm _ 2 _ rfl).trans (List.Perm.refl _)))
 refine hG.mono ?_
 rintro r w1 ⟨rr,R',k,u,ho,⟨e,ra,rc,k',u',X',s',hl,he',rfl⟩,he,rfl⟩
 obtain rfl:=ended_inj he he'
 obtain ⟨a0,a1,a2,a3,a4,rfl⟩:=len5 he
 clear he he' hG H3 HG
 generalize w.heap.size = q at *
 have h5:=(ho.perm perm_l1).step (below_alloc1 w1 (.cells (uv a0 a1 a2 a3 a4).toArray 101))
 have HL:=Lib.hid hl
 obtain ⟨k0,M0,G0,rd⟩:=e
 unfold evc at h5
 unfold evz at h5
 unfold uv at h5 ⊢
 simp only at h5
 have HE:Hid (∀ wx rr,rr = Ending.returned (.tuple #[.agg #[.int .i64 k0,.int .i64 M0,.int .i64 G0,.slice ra rd.length rc],.int .i64 k]) → Own w0 wx (RowGA 1 ra rc rd.length (intc rd) :: SchA b sp X' :: (D.A s' ++ R)) → ∃ e ra rc k X' s',LStep D s X j e k X' s' ∧ rr = .returned (.tuple #[.agg #[.int .i64 e.kind,.int .i64 e.M,.int .i64 e.G,.slice ra e.rd.length rc],.int .i64 k]) ∧
   Own w0 wx (RowGA 1 ra rc e.rd.length (intc e.rd) :: SchA b sp X' :: (D.A s' ++ R))):=Lib.hid (fun wx rr e hx=>⟨⟨k0,M0,G0,rd⟩,ra,rc,k,X',s',HL.out,e,hx⟩)
 generalize rd.length = N at *
 clear ho hl HL
 go_upto_region 3 with fail
 generalize w1.alloc (.cells [.int .i64 a0,.int .i64 a1,.int .i64 a2,.int .i64 a3,.int .u64 a4].toArray 101) = w2 at *
 have c0:=(h5.cel 0 rfl 0 _ rfl).1
 have c1:=(h5.cel 0 rfl 1 _ rfl).1
 have c2:=(h5.cel 0 rfl 2 _ rfl).1
 have c3:=(h5.cel 0 rfl 3 _ rfl).1
 obtain ⟨z0,y0⟩:=h5.cel 1 rfl 0 _ rfl
 obtain ⟨z1,y1⟩:=h5.cel 1 rfl 1 _ rfl
 obtain ⟨z2,y2⟩:=h5.cel 1 rfl 2 _ rfl
 obtain ⟨z3,y3⟩:=h5.cel 1 rfl 3 _ rfl
 have h6:=(((h5.setAt 1 rfl 0 (.int .i64 k0)).setAt 1 rfl 1 (.int .i64 M0)).setAt 1 rfl 2 (.int .i64 G0)).setAt 1 rfl 3 (.slice ra N rc)
 have RS:=lstep_results (k:=k) (h6.cel 1 rfl 0 _ rfl).1 (h6.cel 1 rfl 1 _ rfl).1 (h6.cel 1 rfl 2 _ rfl).1 (h6.cel 1 rfl 3 _ rfl).1
 have HR:=Lib.hid (HE.out _ _ rfl h6.drop.drop.drop)
 clear h5 h6 HE
 go_wp2
 exact bodyPost_ret (RS _ rfl rfl) rfl HR.out
end Go.Proofs.YtodjgipiomnnfaaGreat
