/-
  Texts put together: WCh3, WCh4, WCh5, WCh6, WCh7, WCh8, PkF, CodeF, HeapF, WHp1, WHp2, WHp3, WHp4, WHp5, WFr1, WFr2, WLk1, WLk2, WWld1, WPk1, WPk3, WdM, SdM, WdA.
-/
import Derived.Test.YtodjgipiomnnfaaGreatMx1
import Init.Data.List.Perm
import Init.Omega
import Derived.Test.YtodjgipiomnnfaaGreatRows
import Derived.Deep.QuietTactic
import Derived.BigQuiet
import Derived.WalkSmall
import Derived.Deep.DeepCutAuto
import Derived.RegionTactic
import Derived.Deep.RegionHeld3
import Derived.Deep.RegionWith
import Derived.Deep.RegionLaw
import Derived.Deep.AppendLies
import Derived.MapKept
import Derived.WideMake
import Derived.Deep.RegionLawGrows
import Derived.StillTailTactics
import Derived.Deep.WholeRow
import Derived.Laws.EntriesVeiled
set_option maxRecDepth 100000
set_option maxHeartbeats 16000000
set_option linter.unusedSimpArgs false
set_option linter.unusedVariables false
open Go Go.RowKit
set_option linter.unusedVariables false
namespace Go.Proofs.YtodjgipiomnnfaaGreat
def gotC (v:Int) (some_:Bool) (x:Wt) (woken:Bool):Value:=.agg #[.int .i64 v,.bool some_,.int .i64 x.1,.int .i64 x.2.1,.int .i64 x.2.2,.bool woken]
theorem Own.rowTurnC {w0 w w':World} {As:List Asr} {s:Nat} {a a':Option Addr} {cap cap' n n':Nat} {cs cs':List Value} (c:Chg (blk a) w w') (hr:RowG s w' a' cap' n' cs') (hf:∀ x ∈ blk a',x ∈ blk a ∨ w.heap.size ≤ x) (h:Own w0 w (RowGA s a cap n cs :: As)) :
  Own w0 w' (RowGA s a' cap' n' cs' :: As):=Own.rowTurn h hr c hf
def mRecv (C:Ch):Ch × (Int × Bool × Wt × Bool) × Int:=match C.S with
 | x :: t=>(match C.buf ++ [x.2.2] with
  | y :: b=>(⟨b,t,C.R,C.cl⟩,(y,true,x,true),0)
  | []=>(⟨[],t,C.R,C.cl⟩,(0,false,x,true),0))
 | []=>match C.buf with
  | y :: b=>(⟨b,[],C.R,C.cl⟩,(y,true,zw,false),0)
  | []=>(C,(0,false,zw,false),if C.cl then 0 else 5)
theorem two_allocs {w0 w:World} {As:List Asr} (h:Own w0 w As) (l m:List Value) (t u:TypeId):Own w0 ((w.alloc (.cells l.toArray t)).alloc (.cells m.toArray u)) (CelA (w.heap.size + 1) m :: CelA w.heap.size l :: As) :=
 (h.alloc l t rfl).alloc m u (by simp)
theorem crecv_none {w0 w:World} {R:List Asr} {p N:Nat} {Rv:List Wt} {cl:Bool} (h:Own w0 w (ChanA p N ⟨[],[],Rv,cl⟩ :: R)) :
  Calls Tryz.prog 179 #[.pointer (some ⟨p,0,none⟩)] w fun r w'=>r = .returned (.tuple #[gotC 0 false zw false,.int .i64 (if cl then 0 else 5)]) ∧ Own w0 w' (ChanA p N ⟨[],[],Rv,cl⟩ :: R):=by
 obtain ⟨ba,bc,sa,sc,ra,rc,h1⟩:=h.chan
 have hpl:=World.block_lt_of_cell? w _ (h1.cel 0 rfl 0 _ rfl).1
 have hA:=two_allocs h1 [.int .i64 0,.bool false,.int .i64 0,.int .i64 0,.int .i64 0,.bool false] [.int .i64 0,.bool false,.int .i64 0,.int .i64 0,.int .i64 0,.bool false] 248 248
 have he:=eldw_none (k:=2) (a:=sa) (c:=sc) (hA.pick 2 rfl) rfl
 have HE:=Lib.hid he
 clear hA he h h1
 unfold wv at HE
 simp only [zw] at HE
 have hw:∀ e:Int,.returned (Value.tuple #[gotC 0 false zw false,.int .i64 e]) = Ending.returned (.tuple #[.agg #[.int .i64 0,.bool false,.int .i64 0,.int .i64 0,.int .i64 0,.bool false],.int .i64 e]):=fun e=>rfl
 rw [hw]
 clear hw
 go_enter Tryz.func179,Tryz.ntmps179
 go_wp2_with fail
 refine HE.out.mono ?_
 rintro r w2 ⟨rfl,h2,b2⟩
 have h3:Own w0 w2 (CelA p (ccells N ⟨[],[],Rv,cl⟩ ba bc sa sc ra rc) :: CelA (w.heap.size + 1) [.int .i64 0,.bool false,.int .i64 0,.int .i64 0,.int .i64 0,.bool false] :: CelA w.heap.size [.int .i64 0,.bool false,.int .i64 0,.int .i64 0,.int .i64 0,.bool false] :: RowGA 1 ba bc 0 (intc []) :: RowGA 3 sa sc 0 (wtc []) :: RowGA 3 ra rc Rv.length (wtc Rv) :: R):=h2
 have h4:=(((h3.setAt 1 rfl 2 (.int .i64 0)).setAt 1 rfl 3 (.int .i64 0)).setAt 1 rfl 4 (.int .i64 0)).setAt 1 rfl 5 (.bool false)
 obtain ⟨a2,b2'⟩:=h3.cel 1 rfl 2 _ rfl
 obtain ⟨a3,b3⟩:=h3.cel 1 rfl 3 _ rfl
 obtain ⟨a4,b4⟩:=h3.cel 1 rfl 4 _ rfl
 obtain ⟨a5,b5⟩:=h3.cel 1 rfl 5 _ rfl
 have H4:=Lib.hid h4
 clear h2 h3 h4 b2 HE
 go_wp2_with fail
 refine (eldi_none (k:=1) H4.out rfl).mono ?_
 rintro r w3 ⟨rfl,rfl⟩
 generalize hW:(((w2.setCell ⟨w.heap.size + 1,2,none⟩ (.int .i64 0)).setCell ⟨w.heap.size + 1,3,none⟩ (.int .i64 0)).setCell ⟨w.heap.size + 1,4,none⟩ (.int .i64 0)).setCell ⟨w.heap.size + 1,5,none⟩ (.bool false) = W3 at *
 have h5:=H4.out
 obtain ⟨c0,d0⟩:=h5.cel 1 rfl 0 _ rfl
 obtain ⟨c1,d1⟩:=h5.cel 1 rfl 1 _ rfl
 obtain ⟨c2,d2⟩:=h5.cel 1 rfl 2 _ rfl
 obtain ⟨c3,d3⟩:=h5.cel 1 rfl 3 _ rfl
 obtain ⟨c4,d4⟩:=h5.cel 1 rfl 4 _ rfl
 obtain ⟨c5,d5⟩:=h5.cel 1 rfl 5 _ rfl
 obtain ⟨e0,f0⟩:=h5.cel 2 rfl 0 _ rfl
 obtain ⟨e1,f1⟩:=h5.cel 2 rfl 1 _ rfl
 obtain ⟨e2,f2⟩:=h5.cel 2 rfl 2 _ rfl
 obtain ⟨e3,f3⟩:=h5.cel 2 rfl 3 _ rfl
 obtain ⟨e4,f4⟩:=h5.cel 2 rfl 4 _ rfl
 obtain ⟨e5,f5⟩:=h5.cel 2 rfl 5 _ rfl
 obtain ⟨g4,k4⟩:=h5.cel 0 rfl 4 _ rfl
 have hps:p ≠ w.heap.size + 1:=by omega
 have hps2:p ≠ w.heap.size:=by omega
 have hfin:∀ v0 v1 u0 u1 u2 u3 u4 u5,Own w0 ((((((((W3.setCell ⟨w.heap.size + 1,0,none⟩ v0).setCell ⟨w.heap.size + 1,1,none⟩ v1).setCell ⟨w.heap.size,0,none⟩ u0).setCell ⟨w.heap.size,1,none⟩ u1).setCell ⟨w.heap.size,2,none⟩ u2).setCell ⟨w.heap.size,3,none⟩ u3).setCell ⟨w.heap.size,4,none⟩ u4).setCell ⟨w.heap.size,5,none⟩ u5) (ChanA p N ⟨[],[],Rv,cl⟩ :: R):=fun v0 v1 u0 u1 u2 u3 u4 u5=>by
  have h6:=(((((((h5.setAt 1 rfl 0 v0).setAt 1 rfl 1 v1).setAt 2 rfl 0 u0).setAt 2 rfl 1 u1).setAt 2 rfl 2 u2).setAt 2 rfl 3 u3).setAt 2 rfl 4 u4).setAt 2 rfl 5 u5
  exact Own.chanBack ((h6.pick 1 rfl).drop.pick 1 rfl).drop
 have HF:=Lib.hid hfin
 clear h5 hfin H4 hW a2 b2' a3 b3 a4 b4 a5 b5
 cases cl
 all_goals
  simp only [ccells] at g4
  go_wp2
 ·exact bodyPost_ret (v:=.tuple #[.agg #[.int .i64 0,.bool false,.int .i64 0,.int .i64 0,.int .i64 0,.bool false],.int .i64 5]) (by simp [results,Tryz.results179,go_sem,e0,e1,e2,e3,e4,e5]) rfl ⟨rfl,HF.out _ _ _ _ _ _ _ _⟩
 ·exact bodyPost_ret (v:=.tuple #[.agg #[.int .i64 0,.bool false,.int .i64 0,.int .i64 0,.int .i64 0,.bool false],.int .i64 0]) (by simp [results,Tryz.results179,go_sem,e0,e1,e2,e3,e4,e5]) rfl ⟨rfl,HF.out _ _ _ _ _ _ _ _⟩
theorem crecv_buf {w0 w:World} {R:List Asr} {p N:Nat} {Rv:List Wt} {cl:Bool} {y:Int} {b:List Int} (h:Own w0 w (ChanA p N ⟨y :: b,[],Rv,cl⟩ :: R)) (hbl:b.length ≤ 100000) :
  Calls Tryz.prog 179 #[.pointer (some ⟨p,0,none⟩)] w fun r w'=>r = .returned (.tuple #[gotC y true zw false,.int .i64 0]) ∧ Own w0 w' (ChanA p N ⟨b,[],Rv,cl⟩ :: R):=by
 obtain ⟨ba,bc,sa,sc,ra,rc,h1⟩:=h.chan
 have hpl:=World.block_lt_of_cell? w _ (h1.cel 0 rfl 0 _ rfl).1
 have hA:=two_allocs h1 [.int .i64 0,.bool false,.int .i64 0,.int .i64 0,.int .i64 0,.bool false] [.int .i64 0,.bool false,.int .i64 0,.int .i64 0,.int .i64 0,.bool false] 248 248
 have he:=eldw_none (k:=2) (a:=sa) (c:=sc) (hA.pick 2 rfl) rfl
 have HE:=Lib.hid he
 clear hA he h h1
 unfold wv at HE
 simp only [zw] at HE
 have hw:.returned (Value.tuple #[gotC y true zw false,.int .i64 0]) = Ending.returned (.tuple #[.agg #[.int .i64 y,.bool true,.int .i64 0,.int .i64 0,.int .i64 0,.bool false],.int .i64 0]):=rfl
 rw [hw]
 clear hw
 go_enter Tryz.func179,Tryz.ntmps179
 go_wp2_with fail
 refine HE.out.mono ?_
 rintro r w2 ⟨rfl,h2,b2⟩
 have h3:Own w0 w2 (CelA p (ccells N ⟨y :: b,[],Rv,cl⟩ ba bc sa sc ra rc) :: CelA (w.heap.size + 1) [.int .i64 0,.bool false,.int .i64 0,.int .i64 0,.int .i64 0,.bool false] :: CelA w.heap.size [.int .i64 0,.bool false,.int .i64 0,.int .i64 0,.int .i64 0,.bool false] :: RowGA 1 ba bc (y :: b).length (intc (y :: b)) :: RowGA 3 sa sc 0 (wtc []) :: RowGA 3 ra rc Rv.length (wtc Rv) :: R):=h2
 have h4:=(((h3.setAt 1 rfl 2 (.int .i64 0)).setAt 1 rfl 3 (.int .i64 0)).setAt 1 rfl 4 (.int .i64 0)).setAt 1 rfl 5 (.bool false)
 obtain ⟨a2,b2'⟩:=h3.cel 1 rfl 2 _ rfl
 obtain ⟨a3,b3⟩:=h3.cel 1 rfl 3 _ rfl
 obtain ⟨a4,b4⟩:=h3.cel 1 rfl 4 _ rfl
 obtain ⟨a5,b5⟩:=h3.cel 1 rfl 5 _ rfl
 have H4:=Lib.hid h4
 have he:=eldi_some (k:=1) (R:=[CelA (w.heap.size + 1) [.int .i64 0,.bool false,.int .i64 0,.int .i64 0,.int .i64 0,.bool false],CelA w.heap.size [.int .i64 0,.bool false,.int .i64 0,.int .i64 0,.int .i64 0,.bool false],RowGA 3 sa sc 0 (wtc []),RowGA 3 ra rc Rv.length (wtc Rv)] ++ R) ((h4.pick 3 rfl).pick 1 rfl) rfl rfl (by simp;omega)
 have HE2:=Lib.hid he
 clear h2 h3 h4 b2 HE he
 go_wp2_with fail
 refine HE2.out.mono ?_
 rintro r W3 ⟨rfl,a',h5⟩
 have h5:Own w0 W3 (CelA p (ccells N ⟨b,[],Rv,cl⟩ a' (bc - 1) sa sc ra rc) :: CelA (w.heap.size + 1) [.int .i64 0,.bool false,.int .i64 0,.int .i64 0,.int .i64 0,.bool false] :: CelA w.heap.size [.int .i64 0,.bool false,.int .i64 0,.int .i64 0,.int .i64 0,.bool false] :: RowGA 1 a' (bc - 1) b.length (intc b) :: RowGA 3 sa sc 0 (wtc []) :: RowGA 3 ra rc Rv.length (wtc Rv) :: R):=(((h5.pick 1 rfl).pick 3 rfl).pick 3 rfl).pick 3 rfl
 obtain ⟨c0,d0⟩:=h5.cel 1 rfl 0 _ rfl
 obtain ⟨c1,d1⟩:=h5.cel 1 rfl 1 _ rfl
 obtain ⟨c2,d2⟩:=h5.cel 1 rfl 2 _ rfl
 obtain ⟨c3,d3⟩:=h5.cel 1 rfl 3 _ rfl
 obtain ⟨c4,d4⟩:=h5.cel 1 rfl 4 _ rfl
 obtain ⟨c5,d5⟩:=h5.cel 1 rfl 5 _ rfl
 obtain ⟨e0,f0⟩:=h5.cel 2 rfl 0 _ rfl
 obtain ⟨e1,f1⟩:=h5.cel 2 rfl 1 _ rfl
 obtain ⟨e2,f2⟩:=h5.cel 2 rfl 2 _ rfl
 obtain ⟨e3,f3⟩:=h5.cel 2 rfl 3 _ rfl
 obtain ⟨e4,f4⟩:=h5.cel 2 rfl 4 _ rfl
 obtain ⟨e5,f5⟩:=h5.cel 2 rfl 5 _ rfl
 have hps:p ≠ w.heap.size + 1:=by omega
 have hps2:p ≠ w.heap.size:=by omega
 have hfin:∀ v0 v1 u0 u1 u2 u3 u4 u5,Own w0 ((((((((W3.setCell ⟨w.heap.size + 1,0,none⟩ v0).setCell ⟨w.heap.size + 1,1,none⟩ v1).setCell ⟨w.heap.size,0,none⟩ u0).setCell ⟨w.heap.size,1,none⟩ u1).setCell ⟨w.heap.size,2,none⟩ u2).setCell ⟨w.heap.size,3,none⟩ u3).setCell ⟨w.heap.size,4,none⟩ u4).setCell ⟨w.heap.size,5,none⟩ u5) (ChanA p N ⟨b,[],Rv,cl⟩ :: R):=fun v0 v1 u0 u1 u2 u3 u4 u5=>by
  have h6:=(((((((h5.setAt 1 rfl 0 v0).setAt 1 rfl 1 v1).setAt 2 rfl 0 u0).setAt 2 rfl 1 u1).setAt 2 rfl 2 u2).setAt 2 rfl 3 u3).setAt 2 rfl 4 u4).setAt 2 rfl 5 u5
  exact Own.chanBack ((h6.pick 1 rfl).drop.pick 1 rfl).drop
 have HF:=Lib.hid hfin
 clear h5 hfin H4 a2 b2' a3 b3 a4 b4 a5 b5
 go_wp2
 exact bodyPost_ret (v:=.tuple #[.agg #[.int .i64 y,.bool true,.int .i64 0,.int .i64 0,.int .i64 0,.bool false],.int .i64 0]) (by simp [results,Tryz.results179,go_sem,e0,e1,e2,e3,e4,e5]) rfl ⟨rfl,HF.out _ _ _ _ _ _ _ _⟩
theorem crecv_send {w0 w:World} {R:List Asr} {p N:Nat} {Rv t:List Wt} {cl:Bool} {x:Wt} {y:Int} {buf b:List Int} (h:Own w0 w (ChanA p N ⟨buf,x :: t,Rv,cl⟩ :: R)) (hyb:buf ++ [x.2.2] = y :: b) (hbl:buf.length ≤ 100000) (htl:t.length ≤ 100000) :
  Calls Tryz.prog 179 #[.pointer (some ⟨p,0,none⟩)] w fun r w'=>r = .returned (.tuple #[gotC y true x true,.int .i64 0]) ∧ Own w0 w' (ChanA p N ⟨b,t,Rv,cl⟩ :: R):=by
 obtain ⟨ba,bc,sa,sc,ra,rc,h1⟩:=h.chan
 have hpl:=World.block_lt_of_cell? w _ (h1.cel 0 rfl 0 _ rfl).1
 have hA:=two_allocs h1 [.int .i64 0,.bool false,.int .i64 0,.int .i64 0,.int .i64 0,.bool false] [.int .i64 0,.bool false,.int .i64 0,.int .i64 0,.int .i64 0,.bool false] 248 248
 have he:=eldw_some (k:=2) (R:=[CelA (w.heap.size + 1) [.int .i64 0,.bool false,.int .i64 0,.int .i64 0,.int .i64 0,.bool false],CelA w.heap.size [.int .i64 0,.bool false,.int .i64 0,.int .i64 0,.int .i64 0,.bool false],RowGA 1 ba bc buf.length (intc buf),RowGA 3 ra rc Rv.length (wtc Rv)] ++ R) ((hA.pick 4 rfl).pick 3 rfl) rfl rfl (by simp;omega)
 have HE:=Lib.hid he
 have HYB:=Lib.hid hyb
 obtain ⟨n,hn⟩:∃ n,n = buf.length:=⟨_,rfl⟩
 rw [← hn] at hbl
 have HN:=Lib.hid hn
 clear hA he h h1 hyb hn
 unfold wv at HE
 have hw:.returned (Value.tuple #[gotC y true x true,.int .i64 0]) = Ending.returned (.tuple #[.agg #[.int .i64 y,.bool true,.int .i64 x.1,.int .i64 x.2.1,.int .i64 x.2.2,.bool true],.int .i64 0]):=rfl
 rw [hw]
 clear hw
 obtain ⟨x1,x2,x3⟩:=x
 simp only at HE HYB ⊢
 go_enter Tryz.func179,Tryz.ntmps179
 go_wp2_with fail
 refine HE.out.mono ?_
 rintro r w2 ⟨rfl,sa',h2⟩
 have h3:Own w0 w2 (CelA p (ccells N ⟨buf,t,Rv,cl⟩ ba bc sa' (sc - 1) ra rc) :: CelA (w.heap.size + 1) [.int .i64 0,.bool false,.int .i64 0,.int .i64 0,.int .i64 0,.bool false] :: CelA w.heap.size [.int .i64 0,.bool false,.int .i64 0,.int .i64 0,.int .i64 0,.bool false] :: RowGA 1 ba bc buf.length (intc buf) :: RowGA 3 sa' (sc - 1) t.length (wtc t) :: RowGA 3 ra rc Rv.length (wtc Rv) :: R):=((((h2.pick 1 rfl).pick 4 rfl).pick 4 rfl).pick 4 rfl).pick 4 rfl
 have h4:=(((h3.setAt 1 rfl 2 (.int .i64 x1)).setAt 1 rfl 3 (.int .i64 x2)).setAt 1 rfl 4 (.int .i64 x3)).setAt 1 rfl 5 (.bool true)
 obtain ⟨a2,b2'⟩:=h3.cel 1 rfl 2 _ rfl
 obtain ⟨a3,b3⟩:=h3.cel 1 rfl 3 _ rfl
 obtain ⟨a4,b4⟩:=h3.cel 1 rfl 4 _ rfl
 obtain ⟨a5,b5⟩:=h3.cel 1 rfl 5 _ rfl
 have H4:=Lib.hid h4
 clear h2 h3 h4 HE
 go_upto_region 4 with fail
 generalize hW:(((w2.setCell ⟨w.heap.size + 1,2,none⟩ (.int .i64 x1)).setCell ⟨w.heap.size + 1,3,none⟩ (.int .i64 x2)).setCell ⟨w.heap.size + 1,4,none⟩ (.int .i64 x3)).setCell ⟨w.heap.size + 1,5,none⟩ (.bool true) = W3 at *
 clear hW a2 b2' a3 b3 a4 b4 a5 b5
 have h5:Own w0 W3 (CelA p (ccells N ⟨buf,t,Rv,cl⟩ ba bc sa' (sc - 1) ra rc) :: CelA (w.heap.size + 1) [.int .i64 0,.bool false,.int .i64 x1,.int .i64 x2,.int .i64 x3,.bool true] :: CelA w.heap.size [.int .i64 0,.bool false,.int .i64 0,.int .i64 0,.int .i64 0,.bool false] :: RowGA 1 ba bc buf.length (intc buf) :: RowGA 3 sa' (sc - 1) t.length (wtc t) :: RowGA 3 ra rc Rv.length (wtc Rv) :: R):=H4.out
 obtain ⟨p1,q1⟩:=h5.cel 0 rfl 1 _ rfl
 have hbn:(Value.slice ba (Ch.buf ⟨buf,t,Rv,cl⟩).length bc) = .slice ba n bc:=by rw [HN.out]
 rw [hbn] at p1
 obtain ⟨s14,r14⟩:=h5.cel 1 rfl 4 _ rfl
 have p1a:=fun o=>cell_below p1 (below_alloc1 W3 o)
 have s14a:=fun o=>cell_below s14 (below_alloc1 W3 o)
 have hpl3:=World.block_lt_of_cell? W3 _ p1
 have hrow:=h5.rowG 3 rfl
 rw [← HN.out] at hrow
 have HR:=Lib.hid hrow
 have hpb:p ∉ blk ba:=fun hx=>by
  obtain ⟨_,F,⟨F1,F2,rfl,⟨rfl,_⟩,q2,F3,F4,rfl,⟨rfl,_⟩,_,F5,F6,rfl,⟨rfl,_⟩,_,F7,F8,rfl,⟨rfl,_⟩,_⟩,_⟩:=h5
  exact q2 p (by simp) (by simp [hx])
 have HPB:=Lib.hid hpb
 have H5:=Lib.hid h5
 obtain ⟨i0,hi0,hz0,hz1,hz2⟩:=info_parts info_i6
 have Hi:=Lib.hid hi0;clear hi0
 have Hz0:=Lib.hid hz0;clear hz0
 have Hz1:=Lib.hid hz1;clear hz1
 have Hz2:=Lib.hid hz2;clear hz2
 clear hrow h5 hbn hpb H4
 go_wp2_with fail
 go_region_law (first
  | (refine step_append_rowG (m:=1) (ds:=intc [x3]) (by rfl) _ _ 49 (by rfl) 2 i0 _ Tryz.underlying49 Hi.out Hz0.out Hz1.out Hz2.out rfl (by omega) (by omega) (by rfl) (by rfl) (HR.out.below (by repeat (first | exact Below.refl _ _ | refine Below.drew ?_ | refine Below.alloc ?_ (by simp) _))) (by first | exact CellsAt.new _ (intc [x3]) _ rfl | exact (CellsAt.new _ (intc [x3]) _ rfl).below (below_drew1 _)) rfl (intc_one _) (by omega) ?_;intro a1 c1 w4 k1 ch1 f1
     have h6:=Own.rowTurnC ch1 k1 (fun x hx=>by have:=f1 x hx;simpa using this) ((H5.out.step (by repeat (first | exact Below.refl _ _ | refine Below.drew ?_ | refine Below.alloc ?_ (by simp) _))).pick 3 rfl)
     obtain ⟨p1',q1'⟩:=h6.cel 1 rfl 1 _ rfl))
 all_goals
  have h7:Own w0 (w4.setCell ⟨p,1,none⟩ (.slice a1 (n + 1) c1)) (CelA p (ccells N ⟨buf ++ [x3],t,Rv,cl⟩ a1 c1 sa' (sc - 1) ra rc) :: RowGA 1 a1 c1 (buf ++ [x3]).length (intc (buf ++ [x3])) :: CelA (w.heap.size + 1) [.int .i64 0,.bool false,.int .i64 x1,.int .i64 x2,.int .i64 x3,.bool true] :: CelA w.heap.size [.int .i64 0,.bool false,.int .i64 0,.int .i64 0,.int .i64 0,.bool false] :: RowGA 3 sa' (sc - 1) t.length (wtc t) :: RowGA 3 ra rc Rv.length (wtc Rv) :: R):=by
   have e:(buf ++ [x3]).length = n + 1:=by rw [HN.out];simp
   have e2:intc (buf ++ [x3]) = intc buf ++ intc [x3]:=intc_app _ _
   simp only [ccells]
   rw [e,e2]
   exact (h6.setAt 1 rfl 1 (.slice a1 (n + 1) c1)).pick 1 rfl
  rw [HYB.out] at h7
  have he:=eldi_some (k:=1) (R:=[CelA (w.heap.size + 1) [.int .i64 0,.bool false,.int .i64 x1,.int .i64 x2,.int .i64 x3,.bool true],CelA w.heap.size [.int .i64 0,.bool false,.int .i64 0,.int .i64 0,.int .i64 0,.bool false],RowGA 3 sa' (sc - 1) t.length (wtc t),RowGA 3 ra rc Rv.length (wtc Rv)] ++ R) h7 rfl rfl (by rw [← HYB.out];simp;have:=HN.out;omega)
  have HE2:=Lib.hid he
  have hsz:=World.block_lt_of_cell? w4 _ p1'
  clear h6 h7 he k1 ch1 f1 p1 q1 s14 r14 p1a s14a hpl3 H5
  go_wp2_with fail
  refine HE2.out.mono ?_
  rintro r W5 ⟨rfl,a',h5⟩
  have h5:Own w0 W5 (CelA p (ccells N ⟨b,t,Rv,cl⟩ a' (c1 - 1) sa' (sc - 1) ra rc) :: CelA (w.heap.size + 1) [.int .i64 0,.bool false,.int .i64 x1,.int .i64 x2,.int .i64 x3,.bool true] :: CelA w.heap.size [.int .i64 0,.bool false,.int .i64 0,.int .i64 0,.int .i64 0,.bool false] :: RowGA 1 a' (c1 - 1) b.length (intc b) :: RowGA 3 sa' (sc - 1) t.length (wtc t) :: RowGA 3 ra rc Rv.length (wtc Rv) :: R):=(((h5.pick 1 rfl).pick 3 rfl).pick 3 rfl).pick 3 rfl
  obtain ⟨c0,d0⟩:=h5.cel 1 rfl 0 _ rfl
  obtain ⟨c1,d1⟩:=h5.cel 1 rfl 1 _ rfl
  obtain ⟨c2,d2⟩:=h5.cel 1 rfl 2 _ rfl
  obtain ⟨c3,d3⟩:=h5.cel 1 rfl 3 _ rfl
  obtain ⟨c4,d4⟩:=h5.cel 1 rfl 4 _ rfl
  obtain ⟨c5,d5⟩:=h5.cel 1 rfl 5 _ rfl
  obtain ⟨e0,f0⟩:=h5.cel 2 rfl 0 _ rfl
  obtain ⟨e1,f1⟩:=h5.cel 2 rfl 1 _ rfl
  obtain ⟨e2,f2⟩:=h5.cel 2 rfl 2 _ rfl
  obtain ⟨e3,f3⟩:=h5.cel 2 rfl 3 _ rfl
  obtain ⟨e4,f4⟩:=h5.cel 2 rfl 4 _ rfl
  obtain ⟨e5,f5⟩:=h5.cel 2 rfl 5 _ rfl
  have hps:p ≠ w.heap.size + 1:=by omega
  have hps2:p ≠ w.heap.size:=by omega
  have hfin:∀ v0 v1 u0 u1 u2 u3 u4 u5,Own w0 ((((((((W5.setCell ⟨w.heap.size + 1,0,none⟩ v0).setCell ⟨w.heap.size + 1,1,none⟩ v1).setCell ⟨w.heap.size,0,none⟩ u0).setCell ⟨w.heap.size,1,none⟩ u1).setCell ⟨w.heap.size,2,none⟩ u2).setCell ⟨w.heap.size,3,none⟩ u3).setCell ⟨w.heap.size,4,none⟩ u4).setCell ⟨w.heap.size,5,none⟩ u5) (ChanA p N ⟨b,t,Rv,cl⟩ :: R):=fun v0 v1 u0 u1 u2 u3 u4 u5=>by
   have h6:=(((((((h5.setAt 1 rfl 0 v0).setAt 1 rfl 1 v1).setAt 2 rfl 0 u0).setAt 2 rfl 1 u1).setAt 2 rfl 2 u2).setAt 2 rfl 3 u3).setAt 2 rfl 4 u4).setAt 2 rfl 5 u5
   exact Own.chanBack ((h6.pick 1 rfl).drop.pick 1 rfl).drop
  have HF:=Lib.hid hfin
  clear h5 hfin HE2
  go_wp2
  exact bodyPost_ret (v:=.tuple #[.agg #[.int .i64 y,.bool true,.int .i64 x1,.int .i64 x2,.int .i64 x3,.bool true],.int .i64 0]) (by simp [results,Tryz.results179,go_sem,e0,e1,e2,e3,e4,e5]) rfl ⟨rfl,HF.out _ _ _ _ _ _ _ _⟩
theorem crecv_any {w0 w:World} {R:List Asr} {p N:Nat} {C:Ch} (h:Own w0 w (ChanA p N C :: R)) (hb:C.buf.length ≤ 100000) (hs:C.S.length ≤ 100000) :
  Calls Tryz.prog 179 #[.pointer (some ⟨p,0,none⟩)] w fun r w'=>r = .returned (.tuple #[gotC (mRecv C).2.1.1 (mRecv C).2.1.2.1 (mRecv C).2.1.2.2.1 (mRecv C).2.1.2.2.2,.int .i64 (mRecv C).2.2]) ∧ Own w0 w' (ChanA p N (mRecv C).1 :: R):=by
 obtain ⟨buf,S,Rv,cl⟩:=C
 simp only at hb hs
 cases S with
 | cons x t =>
  cases hbv:buf ++ [x.2.2] with
  | nil=>simp at hbv
  | cons y b =>
   have e:mRecv ⟨buf,x :: t,Rv,cl⟩ = (⟨b,t,Rv,cl⟩,(y,true,x,true),0):=by simp only [mRecv,hbv]
   rw [e]
   exact crecv_send h hbv hb (by simp at hs;omega)
 | nil =>
  cases buf with
  | nil=>exact crecv_none h
  | cons y b=>exact crecv_buf h (by simp at hb;omega)
theorem cclose_over {w0 w:World} {R:List Asr} {p N:Nat} {buf:List Int} {S Rv:List Wt} (h:Own w0 w (ChanA p N ⟨buf,S,Rv,true⟩ :: R)) :
  Calls Tryz.prog 162 #[.pointer (some ⟨p,0,none⟩)] w fun r w'=>r = .returned (.tuple #[.slice none 0 0,.slice none 0 0,.int .i64 10]) ∧ w = w':=by
 obtain ⟨ba,bc,sa,sc,ra,rc,h1⟩:=h.chan
 obtain ⟨g4,-⟩:=h1.cel 0 rfl 4 _ rfl
 simp only at g4
 clear h h1
 go_enter Tryz.func162,Tryz.ntmps162
 go_wp2
 refine bodyPost_ret (v:=.tuple #[.slice none 0 0,.slice none 0 0,.int .i64 10]) (by simp [results,Tryz.results162,go_sem]) rfl ⟨rfl,rfl⟩
theorem cclose_any {w0 w:World} {R:List Asr} {p N:Nat} {buf:List Int} {S Rv:List Wt} (h:Own w0 w (ChanA p N ⟨buf,S,Rv,false⟩ :: R)) :
  Calls Tryz.prog 162 #[.pointer (some ⟨p,0,none⟩)] w fun r w'=>∃ ra rc sa sc,r = .returned (.tuple #[.slice ra Rv.length rc,.slice sa S.length sc,.int .i64 0]) ∧
   Own w0 w' (ChanA p N ⟨buf,[],[],true⟩ :: RowGA 3 ra rc Rv.length (wtc Rv) :: RowGA 3 sa sc S.length (wtc S) :: R):=by
 obtain ⟨ba,bc,sa,sc,ra,rc,h1⟩:=h.chan
 obtain ⟨g2,f2⟩:=h1.cel 0 rfl 2 _ rfl
 obtain ⟨g3,f3⟩:=h1.cel 0 rfl 3 _ rfl
 obtain ⟨g4,f4⟩:=h1.cel 0 rfl 4 _ rfl
 simp only at g2 g3 g4
 have hf:∀ wf,Chg [] (((w.setCell ⟨p,3,none⟩ (.slice none 0 0)).setCell ⟨p,2,none⟩ (.slice none 0 0)).setCell ⟨p,4,none⟩ (.bool true)) wf → Own w0 wf (ChanA p N ⟨buf,[],[],true⟩ :: RowGA 3 ra rc Rv.length (wtc Rv) :: RowGA 3 sa sc S.length (wtc S) :: R):=fun wf cf=>by
  have h2:=((h1.setAt 0 rfl 3 (.slice none 0 0)).setAt 0 rfl 2 (.slice none 0 0)).setAt 0 rfl 4 (.bool true)
  have h3:=h2.step cf.to_below0
  have h4:=(h3.add (Below.refl _ _) (A:=RowGA 3 none 0 0 (wtc [])) (F:=[]) ⟨rfl,RowG.nil _ _⟩ (fun x hx=>by simp at hx)).add (Below.refl _ _) (A:=RowGA 3 none 0 0 (wtc [])) (F:=[]) ⟨rfl,RowG.nil _ _⟩ (fun x hx=>by simp at hx)
  have h5:Own w0 wf (RowGA 3 none 0 0 (wtc []) :: RowGA 3 none 0 0 (wtc []) :: CelA p (ccells N ⟨buf,[],[],true⟩ ba bc none 0 none 0) :: RowGA 1 ba bc buf.length (intc buf) :: RowGA 3 sa sc S.length (wtc S) :: RowGA 3 ra rc Rv.length (wtc Rv) :: R):=h4
  have h6:=(((((h5.pick 4 rfl).pick 5 rfl).pick 2 rfl).pick 3 rfl).pick 5 rfl).pick 5 rfl
  exact Own.chanBack h6
 have HF:=Lib.hid hf
 clear h h1 hf
 go_enter Tryz.func162,Tryz.ntmps162
 go_wp2_with fail
 go_quiet (fail)
 go_wp2
 refine bodyPost_ret (v:=.tuple #[.slice ra Rv.length rc,.slice sa S.length sc,.int .i64 0]) (by simp [results,Tryz.results162,go_sem]) rfl ⟨ra,rc,sa,sc,rfl,HF.out _ ?_⟩
 exact Chg.drewN (Chg.refl [] _) nq
theorem cwaits_any {w0 w:World} {R:List Asr} {p N:Nat} {buf:List Int} {S Rv:List Wt} {cl:Bool} (h:Own w0 w (ChanA p N ⟨buf,S,Rv,cl⟩ :: R)) (x:Wt) (hl:S.length ≤ 100000) :
  Calls Tryz.prog 181 #[.pointer (some ⟨p,0,none⟩),wv x] w fun r w'=>r = .returned (.tuple #[]) ∧ Own w0 w' (ChanA p N ⟨buf,S ++ [x],Rv,cl⟩ :: R):=by
 obtain ⟨ba,bc,sa,sc,ra,rc,h1⟩:=h.chan
 obtain ⟨n,hn⟩:∃ n,n = S.length:=⟨_,rfl⟩
 obtain ⟨x1,x2,x3⟩:=x
 have hA:=h1.alloc [.int .i64 x1,.int .i64 x2,.int .i64 x3] 231 (b:=w.heap.size) rfl
 have hpl:p < w.heap.size:=World.block_lt_of_cell? w _ (h1.cel 0 rfl 0 _ rfl).1
 obtain ⟨p1,q1⟩:=hA.cel 1 rfl 2 _ rfl
 simp only at p1
 rw [← hn] at p1 hl
 have HN:=Lib.hid hn
 obtain ⟨z0,-⟩:=hA.cel 0 rfl 0 _ rfl
 obtain ⟨z1,-⟩:=hA.cel 0 rfl 1 _ rfl
 obtain ⟨z2,-⟩:=hA.cel 0 rfl 2 _ rfl
 have hrow:=hA.rowG 3 rfl
 simp only at hrow
 rw [← hn] at hrow
 have HR:=Lib.hid hrow
 have H5:=Lib.hid hA
 clear hn h h1 hA hrow
 unfold wv
 simp only
 obtain ⟨i0,hi0,hz0,hz1,hz2⟩:=info_parts info_wt
 have Hi:=Lib.hid hi0;clear hi0
 have Hz0:=Lib.hid hz0;clear hz0
 have Hz1:=Lib.hid hz1;clear hz1
 have Hz2:=Lib.hid hz2;clear hz2
 go_enter Tryz.func181,Tryz.ntmps181
 go_upto_region 1 with fail
 obtain ⟨s0,hs0⟩:∃ s0,s0 = w.heap.size:=⟨_,rfl⟩
 rw [← hs0] at z0 z1 z2 H5 ⊢
 have hps:p ≠ s0:=by omega
 clear hs0 hpl
 generalize w.alloc (.cells #[.int .i64 x1,.int .i64 x2,.int .i64 x3] 231) = W at *
 have hpl3:=World.block_lt_of_cell? W _ p1
 have hsl3:=World.block_lt_of_cell? W _ z0
 go_wp2_with fail
 go_region_law (first
  | (refine step_append_rowG (m:=1) (ds:=wtc [(x1,x2,x3)]) (by rfl) _ _ 144 (by rfl) 231 i0 _ Tryz.underlying144 Hi.out Hz0.out Hz1.out Hz2.out rfl (by omega) (by omega) (by rfl) (by rfl) (HR.out.below (by repeat (first | exact Below.refl _ _ | refine Below.drew ?_ | refine Below.alloc ?_ (by simp) _))) (by first | exact CellsAt.new _ (wtc [(x1,x2,x3)]) _ rfl | exact (CellsAt.new _ (wtc [(x1,x2,x3)]) _ rfl).below (below_drew1 _)) rfl (wtc_one _) (by omega) ?_;intro a1 c1 w4 k1 ch1 f1
     have h6:=Own.rowTurnC ch1 k1 (fun x hx=>by have:=f1 x hx;simpa using this) ((H5.out.step (by repeat (first | exact Below.refl _ _ | refine Below.drew ?_ | refine Below.alloc ?_ (by simp) _))).pick 3 rfl)
     obtain ⟨p1',q1'⟩:=h6.cel 2 rfl 2 _ rfl))
 all_goals
  have hE:Own w0 (w4.setCell ⟨p,2,none⟩ (.slice a1 (n + 1) c1)) (ChanA p N ⟨buf,S ++ [(x1,x2,x3)],Rv,cl⟩ :: R):=by
   have e:(S ++ [(x1,x2,x3)]).length = n + 1:=by rw [HN.out];simp
   have e2:wtc (S ++ [(x1,x2,x3)]) = wtc S ++ wtc [(x1,x2,x3)]:=wtc_app _ _
   have h7:Own w0 (w4.setCell ⟨p,2,none⟩ (.slice a1 (n + 1) c1)) (RowGA 3 a1 c1 (S ++ [(x1,x2,x3)]).length (wtc (S ++ [(x1,x2,x3)])) :: CelA s0 [.int .i64 x1,.int .i64 x2,.int .i64 x3] :: CelA p (ccells N ⟨buf,S ++ [(x1,x2,x3)],Rv,cl⟩ ba bc a1 c1 ra rc) :: RowGA 1 ba bc buf.length (intc buf) :: RowGA 3 ra rc Rv.length (wtc Rv) :: R):=by
    simp only [ccells]
    rw [e,e2]
    exact h6.setAt 2 rfl 2 (.slice a1 (n + 1) c1)
   have h8:=(h7.pick 1 rfl).drop
   exact Own.chanBack ((((h8.pick 3 rfl).pick 1 rfl).pick 3 rfl).pick 3 rfl)
  have HE:=Lib.hid hE
  clear hE h6 k1 ch1 f1 p1 q1 z0 z1 z2 H5
  go_wp2
  go_end0
  exact ⟨rfl,HE.out⟩
theorem cwaitr_any {w0 w:World} {R:List Asr} {p N:Nat} {buf:List Int} {S Rv:List Wt} {cl:Bool} (h:Own w0 w (ChanA p N ⟨buf,S,Rv,cl⟩ :: R)) (x:Wt) (hl:Rv.length ≤ 100000) :
  Calls Tryz.prog 180 #[.pointer (some ⟨p,0,none⟩),wv x] w fun r w'=>r = .returned (.tuple #[]) ∧ Own w0 w' (ChanA p N ⟨buf,S,Rv ++ [x],cl⟩ :: R):=by
 obtain ⟨ba,bc,sa,sc,ra,rc,h1⟩:=h.chan
 obtain ⟨n,hn⟩:∃ n,n = Rv.length:=⟨_,rfl⟩
 obtain ⟨x1,x2,x3⟩:=x
 have hA:=h1.alloc [.int .i64 x1,.int .i64 x2,.int .i64 x3] 231 (b:=w.heap.size) rfl
 have hpl:p < w.heap.size:=World.block_lt_of_cell? w _ (h1.cel 0 rfl 0 _ rfl).1
 obtain ⟨p1,q1⟩:=hA.cel 1 rfl 3 _ rfl
 simp only at p1
 rw [← hn] at p1 hl
 have HN:=Lib.hid hn
 obtain ⟨z0,-⟩:=hA.cel 0 rfl 0 _ rfl
 obtain ⟨z1,-⟩:=hA.cel 0 rfl 1 _ rfl
 obtain ⟨z2,-⟩:=hA.cel 0 rfl 2 _ rfl
 have hrow:=hA.rowG 4 rfl
 simp only at hrow
 rw [← hn] at hrow
 have HR:=Lib.hid hrow
 have H5:=Lib.hid hA
 clear hn h h1 hA hrow
 unfold wv
 simp only
 obtain ⟨i0,hi0,hz0,hz1,hz2⟩:=info_parts info_wt
 have Hi:=Lib.hid hi0;clear hi0
 have Hz0:=Lib.hid hz0;clear hz0
 have Hz1:=Lib.hid hz1;clear hz1
 have Hz2:=Lib.hid hz2;clear hz2
 go_enter Tryz.func180,Tryz.ntmps180
 go_upto_region 1 with fail
 obtain ⟨s0,hs0⟩:∃ s0,s0 = w.heap.size:=⟨_,rfl⟩
 rw [← hs0] at z0 z1 z2 H5 ⊢
 have hps:p ≠ s0:=by omega
 clear hs0 hpl
 generalize w.alloc (.cells #[.int .i64 x1,.int .i64 x2,.int .i64 x3] 231) = W at *
 have hpl3:=World.block_lt_of_cell? W _ p1
 have hsl3:=World.block_lt_of_cell? W _ z0
 go_wp2_with fail
 go_region_law (first
  | (refine step_append_rowG (m:=1) (ds:=wtc [(x1,x2,x3)]) (by rfl) _ _ 144 (by rfl) 231 i0 _ Tryz.underlying144 Hi.out Hz0.out Hz1.out Hz2.out rfl (by omega) (by omega) (by rfl) (by rfl) (HR.out.below (by repeat (first | exact Below.refl _ _ | refine Below.drew ?_ | refine Below.alloc ?_ (by simp) _))) (by first | exact CellsAt.new _ (wtc [(x1,x2,x3)]) _ rfl | exact (CellsAt.new _ (wtc [(x1,x2,x3)]) _ rfl).below (below_drew1 _)) rfl (wtc_one _) (by omega) ?_;intro a1 c1 w4 k1 ch1 f1
     have h6:=Own.rowTurnC ch1 k1 (fun x hx=>by have:=f1 x hx;simpa using this) ((H5.out.step (by repeat (first | exact Below.refl _ _ | refine Below.drew ?_ | refine Below.alloc ?_ (by simp) _))).pick 4 rfl)
     obtain ⟨p1',q1'⟩:=h6.cel 2 rfl 3 _ rfl))
 all_goals
  have hE:Own w0 (w4.setCell ⟨p,3,none⟩ (.slice a1 (n + 1) c1)) (ChanA p N ⟨buf,S,Rv ++ [(x1,x2,x3)],cl⟩ :: R):=by
   have e:(Rv ++ [(x1,x2,x3)]).length = n + 1:=by rw [HN.out];simp
   have e2:wtc (Rv ++ [(x1,x2,x3)]) = wtc Rv ++ wtc [(x1,x2,x3)]:=wtc_app _ _
   have h7:Own w0 (w4.setCell ⟨p,3,none⟩ (.slice a1 (n + 1) c1)) (RowGA 3 a1 c1 (Rv ++ [(x1,x2,x3)]).length (wtc (Rv ++ [(x1,x2,x3)])) :: CelA s0 [.int .i64 x1,.int .i64 x2,.int .i64 x3] :: CelA p (ccells N ⟨buf,S,Rv ++ [(x1,x2,x3)],cl⟩ ba bc sa sc a1 c1) :: RowGA 1 ba bc buf.length (intc buf) :: RowGA 3 sa sc S.length (wtc S) :: R):=by
    simp only [ccells]
    rw [e,e2]
    exact h6.setAt 2 rfl 3 (.slice a1 (n + 1) c1)
   have h8:=(h7.pick 1 rfl).drop
   exact Own.chanBack ((((h8.pick 3 rfl).pick 3 rfl).pick 3 rfl))
  have HE:=Lib.hid hE
  clear hE h6 k1 ch1 f1 p1 q1 z0 z1 z2 H5
  go_wp2
  go_end0
  exact ⟨rfl,HE.out⟩
theorem nil_of_none {w:World} {s cap n:Nat} {cs:List Value} (hs:0 < s) (h:RowG s w none cap n cs):cap = 0 ∧ n = 0 ∧ cs = []:=by
 obtain ⟨h1,h2,h3,h4⟩:=h
 rcases h4 with ⟨_,h0⟩ | ⟨_,_,h,_⟩
 ·have hn:n = 0:=by omega
  subst hn
  exact ⟨h0,rfl,List.length_eq_zero_iff.1 (by simpa using h1)⟩
 ·cases h
theorem clonei_any (w:World) (a:Option Addr) (n c:Nat) (cs:List Value) (h:RowG 1 w a c n cs) (hone:∀ u ∈ cs,u.oneCell' = true) (hl:n ≤ 1000000) :
  Calls Tryz.prog 33 #[.slice a n c] w fun r w'=>∃ a' c',r = .returned (.slice a' n c') ∧ RowG 1 w' a' c' n cs ∧ (∀ x ∈ blk a',w.heap.size ≤ x) ∧ Below w.heap.size w w':=by
 cases a with
 | none =>
  obtain ⟨rfl,rfl,rfl⟩:=nil_of_none (by omega) h
  clear h hone
  have he:∀ w:World,(binOp .eql 49 (.slice none 0 0) (.slice none 0 0)).run Tryz.prog w = .ok (.bool true) w:=fun _=>rfl
  go_enter Tryz.func33,Tryz.ntmps33
  go_wp2
  go_ret
  exact ⟨none,0,rfl,RowG.nil _ _,fun x hx=>by simp [blk] at hx,Below.refl _ _⟩
 | some ad =>
  obtain ⟨i0,hi0,hz0,hz1,hz2⟩:=info_parts info_i6
  have Hi:=Lib.hid hi0;clear hi0
  have Hz0:=Lib.hid hz0;clear hz0
  have Hz1:=Lib.hid hz1;clear hz1
  have Hz2:=Lib.hid hz2;clear hz2
  have H:=Lib.hid h
  have HO:=Lib.hid hone
  clear h hone
  have he:∀ w:World,(binOp .eql 49 (.slice (some ad) n c) (.slice none 0 0)).run Tryz.prog w = .ok (.bool false) w:=fun _=>rfl
  go_enter Tryz.func33,Tryz.ntmps33
  go_wp2_with (at_builtin;refine wpList_append_rowG (m:=n) (n:=0) (cs:=[]) (ds:=cs) rfl _ _ 49 rfl 2 i0 _ Tryz.underlying49 Hi.out Hz0.out Hz1.out Hz2.out rfl (by omega) (by omega) rfl rfl (RowG.zero (by simp)) ((H.out.below (below_alloc1 _ _)).cells) H.out.1 HO.out (by omega) ?_)
  intro a1 c1 w1 k1 ch1 f1
  have hf:RowG 1 w1 a1 c1 n cs ∧ (∀ x ∈ blk a1,w.heap.size ≤ x) ∧ Below w.heap.size w w1:=by
   refine ⟨by simpa using k1,fun x hx=>?_,Chg.below (below_alloc1 _ _) ch1 (fun x hx=>by simp [blk] at hx;omega)⟩
   rcases f1 x hx with h | h
   ·simp [blk] at h;omega
   ·first | omega | (simp at h;omega)
  have HF:=Lib.hid hf
  clear hf k1 ch1 f1
  go_wp2
  go_ret
  exact ⟨a1,c1,by simp,HF.out⟩
def canS (N:Nat) (C:Ch):Bool:=C.cl || (decide (0 < C.R.length) || decide (C.buf.length < N))
def canR (C:Ch):Bool:=C.cl || (decide (0 < C.S.length) || decide (0 < C.buf.length))
theorem ccans_any {w0 w:World} {R:List Asr} {p N:Nat} {C:Ch} (h:Own w0 w (ChanA p N C :: R)) :
  Calls Tryz.prog 147 #[.pointer (some ⟨p,0,none⟩)] w fun r w'=>r = .returned (.bool (canS N C)) ∧ ∃ m,w' = w.drewN m:=by
 have hh:=chas_any h
 have HH:=Lib.hid hh
 obtain ⟨ba,bc,sa,sc,ra,rc,h1⟩:=h.chan
 obtain ⟨g3,-⟩:=h1.cel 0 rfl 3 _ rfl
 obtain ⟨g4,-⟩:=h1.cel 0 rfl 4 _ rfl
 obtain ⟨buf,S,Rv,cl⟩:=C
 simp only [ccells] at g3 g4
 clear h h1 hh
 cases cl with
 | true =>
  unfold canS
  simp only [Bool.true_or]
  go_enter Tryz.func147,Tryz.ntmps147
  go_wp2
  go_ret
  exact ⟨rfl,0,rfl⟩
 | false =>
  cases Rv with
  | cons x t =>
   unfold canS
   simp only [Bool.false_or,List.length_cons,Nat.zero_lt_succ,decide_true,Bool.true_or] at g3 ⊢
   have hp:0 < t.length + 1:=by omega
   go_enter Tryz.func147,Tryz.ntmps147
   go_wp2
   go_ret
   exact ⟨rfl,0,rfl⟩
  | nil =>
   unfold canS
   simp only [Bool.false_or,List.length_nil,Nat.lt_irrefl,decide_false] at g3 HH ⊢
   generalize decide (buf.length < N) = bb at *
   go_enter Tryz.func147,Tryz.ntmps147
   go_wp2_with fail
   refine HH.out.mono ?_
   rintro r w1 ⟨rfl,m,rfl⟩
   go_wp2
   go_ret
   exact ⟨rfl,m,rfl⟩
theorem ccanr_any {w0 w:World} {R:List Asr} {p N:Nat} {C:Ch} (h:Own w0 w (ChanA p N C :: R)) :
  Calls Tryz.prog 146 #[.pointer (some ⟨p,0,none⟩)] w fun r w'=>r = .returned (.bool (canR C)) ∧ w = w':=by
 obtain ⟨ba,bc,sa,sc,ra,rc,h1⟩:=h.chan
 obtain ⟨g1,-⟩:=h1.cel 0 rfl 1 _ rfl
 obtain ⟨g2,-⟩:=h1.cel 0 rfl 2 _ rfl
 obtain ⟨g4,-⟩:=h1.cel 0 rfl 4 _ rfl
 obtain ⟨buf,S,Rv,cl⟩:=C
 simp only [ccells] at g1 g2 g4
 clear h h1
 cases cl with
 | true =>
  unfold canR
  simp only [Bool.true_or]
  go_enter Tryz.func146,Tryz.ntmps146
  go_wp2
  go_ret
  exact ⟨rfl,rfl⟩
 | false =>
  cases S with
  | cons x t =>
   unfold canR
   simp only [Bool.false_or,List.length_cons,Nat.zero_lt_succ,decide_true,Bool.true_or] at g2 ⊢
   have hp:0 < t.length + 1:=by omega
   go_enter Tryz.func146,Tryz.ntmps146
   go_wp2
   go_ret
   exact ⟨rfl,rfl⟩
  | nil =>
   cases buf with
   | cons y b =>
    unfold canR
    simp only [Bool.false_or,List.length_nil,List.length_cons,Nat.zero_lt_succ,decide_true,Nat.lt_irrefl,decide_false] at g1 g2 ⊢
    have hp:0 < b.length + 1:=by omega
    go_enter Tryz.func146,Tryz.ntmps146
    go_wp2
    go_ret
    exact ⟨rfl,rfl⟩
   | nil =>
    unfold canR
    simp only [Bool.false_or,List.length_nil,Nat.lt_irrefl,decide_false] at g1 g2 ⊢
    go_enter Tryz.func146,Tryz.ntmps146
    go_wp2
    go_ret
    exact ⟨rfl,rfl⟩
def dropW (g:Int) (l:List Wt):List Wt:=l.filter fun x=>!(x.1 == g)
theorem dropW_snoc (g:Int) (l:List Wt) (x:Wt):dropW g (l ++ [x]) = if x.1 = g then dropW g l else dropW g l ++ [x]:=by
 unfold dropW
 rw [List.filter_append]
 by_cases h:x.1 = g <;> simp [h]
theorem dropW_len (g:Int) (l:List Wt):(dropW g l).length ≤ l.length:=List.length_filter_le _ _
theorem dropW_none (g:Int) (l:List Wt) (h:∀ j (hj:j < l.length),l[j].1 ≠ g):dropW g l = l:=by
 unfold dropW
 rw [List.filter_eq_self]
 intro x hx
 obtain ⟨j,hj,rfl⟩:=List.getElem_of_mem hx
 simpa using h j hj
theorem take_snoc_w (l:List Wt) (k:Nat) (h:k < l.length):l.take (k + 1) = l.take k ++ [l[k]]:=by rw [List.take_add_one,List.getElem?_eq_getElem h];rfl
theorem wtc_set (l:List Wt):∀ (i:Nat) (x:Wt),i < l.length → (((wtc l).set (i * 3) (.int .i64 x.1)).set (i * 3 + 1) (.int .i64 x.2.1)).set (i * 3 + 2) (.int .i64 x.2.2) = wtc (l.set i x):=by
 induction l with
 | nil=>intro i y h;simp at h
 | cons x l ih =>
  intro i y h
  cases i with
  | zero=>rfl
  | succ i =>
   have:=ih i y (by simpa using h)
   rw [wtc_cons,List.set_cons_succ,wtc_cons,show (i + 1) * 3 = i * 3 + 1 + 1 + 1 by omega]
   simp only [List.set_cons_succ]
   rw [this]
theorem wpList_clearG {P:Program} {w:World} {ops:Array Oper} {rest:List Oper} {o:Oper} {ac:Act} {Q:Exit → Act → World → Prop} (hgd:o.guard = none) (x:Operand) (t:TypeId)
  (ho:o.op = .call { callee:=.builtin .clear,args:=#[x],argTypes:=#[t] }) {v:Value} {w':World} (hx:ac.eval x = v) (hr:(Builtin.clear_ #[t] o.type #[v]).run P w = .ok (.tuple #[]) w')
  (h:wpList P ops Q rest (ac.put o.dst (.tuple #[])) w'):wpList P ops Q (o :: rest) ac w:=by
 refine wpList_plain hgd fun K hK=>?_
 unfold Oper.wp execOp
 simp only [ho,resolve,invoke,builtin,Sem.run_bind,Sem.run_pure,Result.andThen_ok,List.map_toArray,List.map_cons,List.map_nil,hx,hr]
 exact hK _ _ h
theorem pred_any (x:Wt) (q:Nat) (g:Int) (w:World) (hq:w.cell? ⟨q,0,none⟩ = some (.int .i64 g)) :
  Calls Tryz.prog 185 #[wv x,.pointer (some ⟨q,0,none⟩)] w fun r w'=>r = .returned (.bool (x.1 == g)) ∧ Below w.heap.size w w':=by
 obtain ⟨x1,x2,x3⟩:=x
 unfold wv
 simp only
 have hql:=World.block_lt_of_cell? w _ hq
 go_enter Tryz.func185,Tryz.ntmps185
 go_wp2
 go_ret
 exact ⟨rfl,below_alloc1 _ _⟩
def IdxW (l:List Wt) (g:Int) (w:World) (r:Ending) (w':World):Prop:=Below w.heap.size w w' ∧ ((∃ i,∃ h:i < l.length,r = .returned (.int .i64 (i:Int)) ∧ l[i].1 = g ∧ ∀ j (hj:j < i),(l[j]'(by omega)).1 ≠ g) ∨ (r = .returned (.int .i64 (-1)) ∧ ∀ j (hj:j < l.length),l[j].1 ≠ g))
def clo (q:Nat):Value:=.func (.func 185) #[] #[.pointer (some ⟨q,0,none⟩)]
theorem index_any (w:World) (a:Option Addr) (n c:Nat) (l:List Wt) (q:Nat) (g:Int) (h:CellsAt w a (wtc l)) (hn:n = l.length) (hl:n ≤ 100000) (hq:w.cell? ⟨q,0,none⟩ = some (.int .i64 g)) :
  Calls Tryz.prog 187 #[.slice a n c,clo q] w fun r w'=>IdxW l g w r w':=by
 have H:=Lib.hid h
 have HN:=Lib.hid hn
 have HQ:=Lib.hid hq
 clear h hn hq
 unfold clo
 go_enter Tryz.func187,Tryz.ntmps187
 go_wp2_with fail
 go_loopw [8] (fun s wr=>∃ i:Nat,i ≤ n ∧ s = .int .i64 i ∧ Hid (Below w.heap.size w wr ∧ ∀ j (hj:j < i) (hj2:j < l.length),l[j].1 ≠ g)) (fun s _=>n - (intOf s).toNat)
 case atStart=>exact ⟨0,by omega,rfl,Lib.hid ⟨Below.refl _ _,fun j hj=>by omega⟩⟩
 case round =>
  obtain ⟨i,hi,rfl,hr⟩:=hrel
  by_cases hlt:i < n
  ·have hil:i < l.length:=by have:=HN.out;omega
   obtain ⟨b,off,rfl,e1,e2,e3⟩:=(H.out.below hr.out.1).wt i hil
   have hp:=pred_any l[i] q g wr (cell_below HQ.out hr.out.1)
   have HP:=Lib.hid hp
   have hli:(i:Int) < (n:Int):=by omega
   have HI:Hid (l[i]'hil = l[i]'hil):=Lib.hid rfl
   clear hp
   obtain ⟨y,hy⟩:∃ y,y = l[i]'hil:=⟨_,rfl⟩
   rw [← hy] at e1 e2 e3 HP
   have HY:=Lib.hid hy
   clear hy HI
   obtain ⟨y1,y2,y3⟩:=y
   unfold wv at HP
   simp only at e1 e2 e3 HP
   by_cases hyg:y1 = g
   ·have hb:(y1 == g) = true:=by rw [beq_iff_eq];exact hyg
    rw [hb] at HP
    have HF:Hid (∀ w',Below wr.heap.size wr w' → IdxW l g w (.returned (.int .i64 (i:Int))) w'):=Lib.hid fun w' hb=>⟨below_on hr.out.1 hb,.inl ⟨i,hil,rfl,by rw [← HY.out];exact hyg,fun j hj=>hr.out.2 j hj (by omega)⟩⟩
    clear hb hyg hr
    go_wp2_with fail
    refine HP.out.mono ?_
    rintro r w3 ⟨rfl,b3⟩
    have HZ:=Lib.hid (HF.out _ b3)
    clear b3
    go_wp2
    go_ret
    exact HZ.out
   ·have hb:(y1 == g) = false:=by rw [beq_eq_false_iff_ne];exact hyg
    rw [hb] at HP
    have HF:Hid (∀ w',Below wr.heap.size wr w' → Below w.heap.size w w' ∧ ∀ j (hj:j < i + 1) (hj2:j < l.length),l[j].1 ≠ g):=Lib.hid fun w' hb=>⟨below_on hr.out.1 hb,fun j hj hj2=>by
     by_cases e:j = i
     ·subst e;rw [← HY.out];exact hyg
     ·exact hr.out.2 j (by omega) hj2⟩
    clear hb hyg hr
    go_wp2_with fail
    refine HP.out.mono ?_
    rintro r w3 ⟨rfl,b3⟩
    have HZ:=Lib.hid (HF.out _ b3)
    clear b3
    go_wp2
    exact ⟨⟨i + 1,by omega,by go_num,HZ⟩,by simp [intOf];omega⟩
  ·have hge:¬ (i:Int) < (n:Int):=by omega
   have HF:Hid (IdxW l g w (.returned (.int .i64 (-1))) wr):=Lib.hid ⟨hr.out.1,.inr ⟨rfl,fun j hj=>hr.out.2 j (by have:=HN.out;omega) hj⟩⟩
   clear hr
   go_wp2
   go_ret
   exact HF.out
theorem zeroCells_one {z:Value} (h1:∀ u ∈ z.cells.toList,u.oneCell' = true) (n:Nat):∀ u ∈ (Builtin.zeroCells z.cells n).toList,u.oneCell' = true:=fun u hu=>by
 unfold Builtin.zeroCells at hu
 rw [Array.mem_toList_iff,Array.mem_map] at hu
 obtain ⟨i,hi,rfl⟩:=hu
 have hp:0 < z.cells.size:=by
  rw [Array.mem_range] at hi
  rcases Nat.eq_zero_or_pos z.cells.size with e | e
  ·rw [e] at hi;omega
  ·exact e
 have hlt2:=Nat.mod_lt i hp
 rw [getElem!_pos z.cells _ hlt2]
 exact h1 _ (Array.mem_toList_iff.2 (Array.getElem_mem hlt2))
theorem drop_clear {P:Program} {t:TypeId} {s:Nat} (z:Value) (ht:P.underlying t = some (.slice (P.elem t))) (hs:∀ w,(sizeOf (P.elem t)).run P w = .ok s w) (hv:∀ w,(zeroValue (P.elem t)).run P w = .ok z w) (hzs:z.cells.size = s) (h1:∀ u ∈ z.cells.toList,u.oneCell' = true)
  {w:World} {a:Option Addr} {cap n:Nat} {cs:List Value} (h:RowG s w a cap n cs) (m:Nat) (hm:m ≤ n) :
  ∃ a',(∀ w,(Instr.slice t (.slice a n cap) (some (.int .i64 (m:Int))) none none).run P w = .ok (.slice a' (n - m) (cap - m)) w) ∧
   ∃ w',(∀ ty c,(Builtin.clear_ #[t] ty #[.slice a' (n - m) c]).run P w = .ok (.tuple #[]) w') ∧ RowG s w' a cap m (cs.take (m * s)) ∧ Chg (blk a) w w':=by
 obtain ⟨a',hsl,hrow,hbl⟩:=slice_fromG ht hs h m hm
 refine ⟨a',hsl,?_⟩
 have hnm:∀ k,k = 0 → (∀ ty c,(Builtin.clear_ #[t] ty #[.slice a' k c]).run P w = .ok (.tuple #[]) w):=fun k hk ty c=>by
  subst hk;cases a' <;> simp [Builtin.clear_,run_underlying ht]
 rcases Nat.eq_zero_or_pos (n - m) with h0 | hpos
 ·exact ⟨w,hnm _ h0,h.take m hm,Chg.refl _ _⟩
 ·have hh:=h
  obtain ⟨k1,k2,k3,k4⟩:=h
  rcases k4 with ⟨rfl,hc⟩ | ⟨b,off,rfl,hlt,h5,h6⟩
  ·omega
  ·have hne:¬ cap = m:=by omega
   have ha':a' = some ⟨b,off + m * s,none⟩:=by
    have e1:=hsl w
    rw [run_slice_l (P:=P) (t:=t) (ht:=ht) (kl:=.i64) (l:=(m:Int)) (h0:=by omega) (h1:=by omega),hs] at e1
    by_cases hm0:m = 0
    ·subst hm0
     simp [Result.andThen,sliced,hne,Addr.add] at e1
     rw [← e1];simp
    ·simp [Result.andThen,sliced,hne,Addr.add] at e1
     rw [e1.symm]
     by_cases hz:m * s = 0
     ·rw [if_pos hz,hz];rfl
     ·rw [if_neg hz]
   subst ha'
   have hlen:(Builtin.zeroCells z.cells (n - m)).toList.length = (n - m) * s:=by rw [Array.length_toList,size_zeroCells,hzs]
   have hcm:cap * s = m * s + (n - m) * s + (cap - n) * s:=by rw [← Nat.add_mul,← Nat.add_mul];congr 1;omega
   have hms:n * s = m * s + (n - m) * s:=by rw [← Nat.add_mul];congr 1;omega
   have hst:=run_storeCells_cells (P:=P) b (off + m * s) (Builtin.zeroCells z.cells (n - m)).toList 0 w (fun j hj=>by rw [hlen] at hj;have:=(h5 (m * s + j) (by omega)).1;simpa [Nat.add_assoc] using this) (fun j hj=>by rw [hlen] at hj;have:=(h5 (m * s + j) (by omega)).2;simpa [Nat.add_assoc] using this) (zeroCells_one h1 _)
   simp only [Nat.add_zero] at hst
   refine ⟨w.setCells b (off + m * s) (Builtin.zeroCells z.cells (n - m)).toList,fun ty c=>?_,?_,(Chg.refl _ _).setCells _ _ (.inl (by simp [blk]))⟩
   ·obtain ⟨q,hq⟩:∃ q,n - m = q + 1:=⟨n - m - 1,by omega⟩
    rw [hq] at hst ⊢
    generalize hzl:(Builtin.zeroCells z.cells (q + 1)).toList = zl at *
    simp [Builtin.clear_,run_underlying ht,hv,hzl,hst]
   ·have hin:=World.cell?_setCells_in b (Builtin.zeroCells z.cells (n - m)).toList (off + m * s) w (fun j hj=>by rw [hlen] at hj;have:=(h5 (m * s + j) (by omega)).1;simpa [Nat.add_assoc] using this)
    generalize (Builtin.zeroCells z.cells (n - m)).toList = zl at *
    refine ⟨by rw [List.length_take];omega,by omega,k3,.inr ⟨b,off,rfl,Nat.lt_of_lt_of_le hlt ((Chg.refl [b] w).setCells zl (off + m * s) (.inl (by simp))).size,fun j hj=>⟨?_,by rw [World.frozen?_setCells];exact (h5 j hj).2⟩,fun j v hj=>?_⟩⟩
    ·by_cases hj2:m * s ≤ j ∧ j < m * s + (n - m) * s
     ·have:=hin (j - m * s) (by omega)
      rw [show off + m * s + (j - m * s) = off + j by omega] at this
      rw [this];rfl
     ·rw [World.cell?_setCells_out b zl _ w _ (fun _ _=>by simp only;omega)]
      exact (h5 j hj).1
    ·rw [List.getElem?_take] at hj
     split at hj
     ·rw [World.cell?_setCells_out b zl _ w _ (fun _ _=>by simp only;omega)]
      exact h6 j v hj
     ·cases hj
theorem zero_wt (w:World):(zeroValue (Tryz.prog.elem 144)).run Tryz.prog w = .ok (.agg #[.int .i64 0,.int .i64 0,.int .i64 0]) w:=by kernel_rfl
def Mid (g:Int) (l l':List Wt) (i j:Nat):Prop:=l'.length = l.length ∧ i ≤ j ∧ l'.take i = dropW g (l.take j) ∧ l'.drop j = l.drop j
theorem Mid.skip {g:Int} {l l':List Wt} {i j:Nat} (h:Mid g l l' i j) (hj:j < l.length) (hx:l[j].1 = g):Mid g l l' i (j + 1):=by
 obtain ⟨h1,h2,h3,h4⟩:=h
 refine ⟨h1,by omega,?_,?_⟩
 ·rw [take_snoc_w l j hj,dropW_snoc,if_pos hx];exact h3
 ·rw [← List.drop_drop,← List.drop_drop,h4]
theorem Mid.keep {g:Int} {l l':List Wt} {i j:Nat} (h:Mid g l l' i j) (hj:j < l.length) (hx:¬ l[j].1 = g):Mid g l (l'.set i l[j]) (i + 1) (j + 1):=by
 obtain ⟨h1,h2,h3,h4⟩:=h
 refine ⟨by rw [List.length_set];exact h1,by omega,?_,?_⟩
 ·rw [take_snoc_w l j hj,dropW_snoc,if_neg hx,← h3,take_set_succ _ _ _ (by omega)]
 ·rw [List.drop_set_of_lt (by omega),← List.drop_drop,← List.drop_drop,h4]
theorem Mid.at {g:Int} {l l':List Wt} {i j:Nat} (h:Mid g l l' i j) (hj:j < l.length) (hj':j < l'.length):l'[j] = l[j]:=by
 obtain ⟨h1,h2,h3,h4⟩:=h
 have:=congrArg List.head? h4
 rw [List.head?_drop,List.head?_drop,List.getElem?_eq_getElem hj',List.getElem?_eq_getElem hj] at this
 simpa using this
theorem delete_any {w0 w:World} {R:List Asr} {a:Option Addr} {c n q:Nat} {g:Int} {l:List Wt} (h:Own w0 w (RowGA 3 a c n (wtc l) :: CelA q [.int .i64 g] :: R)) (hn:n = l.length) (hl:n ≤ 100000) :
  Calls Tryz.prog 186 #[.slice a n c,clo q] w fun r w'=>r = .returned (.slice a (dropW g l).length c) ∧ Own w0 w' (RowGA 3 a c (dropW g l).length (wtc (dropW g l)) :: CelA q [.int .i64 g] :: R):=by
 have hi:=index_any w a n c l q g (h.rowG 0 rfl).cells hn hl (h.cel 1 rfl 0 _ rfl).1
 have HI:=Lib.hid hi
 have HO:=Lib.hid h
 have HN:=Lib.hid hn
 have hcn:n ≤ c:=(h.rowG 0 rfl).2.1
 clear hi h hn
 have hclo:clo q = .func (.func 185) #[] #[.pointer (some ⟨q,0,none⟩)]:=rfl
 rw [hclo]
 rw [hclo] at HI
 clear hclo
 go_enter Tryz.func186,Tryz.ntmps186
 go_wp2_with fail
 refine HI.out.mono ?_
 rintro r w1 ⟨b1,hr⟩
 rcases hr with ⟨i,hil,rfl,hx,hpre⟩ | ⟨rfl,hno⟩
 ·have hst:∃ l',Mid g l l' i (i + 1) ∧ Own w0 w1 (RowGA 3 a c n (wtc l') :: CelA q [.int .i64 g] :: R):=by
   refine ⟨l,⟨rfl,by omega,?_,rfl⟩,HO.out.step b1⟩
   rw [take_snoc_w l i hil,dropW_snoc,if_pos hx,dropW_none]
   intro j hj
   rw [List.length_take] at hj
   rw [List.getElem_take]
   exact hpre j (by omega)
  have HST:=Lib.hid hst
  have hin:i < n:=by have:=HN.out;omega
  have hne:((i:Int) == -1) = false:=by rw [beq_eq_false_iff_ne];omega
  clear hst hx hpre b1 HI HO hil
  go_wp2_with fail
  go_loopw [5,6] (fun s5 s6 wr=>∃ i j:Nat,i < j ∧ j ≤ n ∧ s5 = .int .i64 i ∧ s6 = .int .i64 j ∧ Hid (∃ l',Mid g l l' i j ∧ Own w0 wr (RowGA 3 a c n (wtc l') :: CelA q [.int .i64 g] :: R))) (fun _ s6 _=>n - (intOf s6).toNat)
  case atStart=>exact ⟨i,i + 1,by omega,by omega,rfl,by go_num,HST⟩
  case round =>
   obtain ⟨i,j,hij,hj,rfl,rfl,hr⟩:=hrel
   obtain ⟨l',hm,ho⟩:=hr.out
   by_cases hlt:j < n
   ·have hjl:j < l.length:=by have:=HN.out;omega
    have hjl':j < l'.length:=by rw [hm.1];exact hjl
    obtain ⟨b,off,rfl,e1,e2,e3⟩:=(ho.rowG 0 rfl).cells.wt j hjl'
    rw [hm.at hjl hjl'] at e1 e2 e3
    have hp:=pred_any l[j] q g (wr.alloc (.cells #[.int .i64 l[j].1,.int .i64 l[j].2.1,.int .i64 l[j].2.2] 231)) (cell_below (ho.cel 1 rfl 0 _ rfl).1 (below_alloc1 _ _))
    have HP:=Lib.hid hp
    have hji:(j:Int) < (n:Int):=by omega
    have hii:(i:Int) < (n:Int):=by omega
    have HM:=Lib.hid hm
    have HO:=Lib.hid ho
    have HJ:Hid (j < l.length):=Lib.hid hjl
    obtain ⟨y,hy⟩:∃ y,y = l[j]'hjl:=⟨_,rfl⟩
    rw [← hy] at e1 e2 e3 HP
    have HY:Hid (∀ h:j < l.length,y = l[j]'h):=Lib.hid fun _=>hy
    clear hp hy hjl hjl' hm ho hr HST
    obtain ⟨y1,y2,y3⟩:=y
    unfold wv at HP
    simp only at e1 e2 e3 HP
    by_cases hyg:y1 = g
    ·have hb:(y1 == g) = true:=by rw [beq_iff_eq];exact hyg
     rw [hb] at HP
     have HG:=Lib.hid hyg
     clear hb hyg
     go_wp2_with fail
     refine HP.out.mono ?_
     rintro r w3 ⟨rfl,b3⟩
     have HZ:Hid (∃ l',Mid g l l' i (j + 1) ∧ Own w0 w3 (RowGA 3 (some ⟨b,off,none⟩) c n (wtc l') :: CelA q [.int .i64 g] :: R)):=Lib.hid ⟨l',HM.out.skip HJ.out (by rw [← HY.out HJ.out];exact HG.out),(HO.out.step (below_alloc1 _ _)).step b3⟩
     clear b3 HP
     go_wp2
     exact ⟨⟨i,j + 1,by omega,by omega,rfl,by go_num,HZ⟩,by simp [intOf];omega⟩
    ·have hb:(y1 == g) = false:=by rw [beq_eq_false_iff_ne];exact hyg
     rw [hb] at HP
     have HG:=Lib.hid hyg
     clear hb hyg
     go_wp2_with fail
     refine HP.out.mono ?_
     rintro r w3 ⟨rfl,b3⟩
     have o3:=(HO.out.step (below_alloc1 _ (.cells #[.int .i64 y1,.int .i64 y2,.int .i64 y3] 231))).step b3
     have hlen:i * 3 + 2 < (wtc l').length:=by rw [wtc_len,HM.out.1];have:=HN.out;omega
     have o4:=((o3.rowSet (i * 3) (.int .i64 y1) (by omega)).rowSet (i * 3 + 1) (.int .i64 y2) (by rw [List.length_set];omega)).rowSet (i * 3 + 2) (.int .i64 y3) (by rw [List.length_set,List.length_set];exact hlen)
     rw [wtc_set l' i (y1,y2,y3) (by rw [HM.out.1];have:=HN.out;omega)] at o4
     have hmk:=HM.out.keep HJ.out (by rw [← HY.out HJ.out];exact HG.out)
     rw [← HY.out HJ.out] at hmk
     rw [← Nat.add_assoc,← Nat.add_assoc] at o4
     have HZ:Hid (∃ l',Mid g l l' (i + 1) (j + 1) ∧ Own w0 (((w3.setCell ⟨b,off + i * 3,none⟩ (.int .i64 y1)).setCell ⟨b,off + i * 3 + 1,none⟩ (.int .i64 y2)).setCell ⟨b,off + i * 3 + 2,none⟩ (.int .i64 y3)) (RowGA 3 (some ⟨b,off,none⟩) c n (wtc l') :: CelA q [.int .i64 g] :: R)):=Lib.hid ⟨_,hmk,o4⟩
     have v9:=cell_below (Blk.mk wr [.int .i64 y1,.int .i64 y2,.int .i64 y3] 231 _ rfl 0 _ rfl).1 b3
     have v10:=cell_below (Blk.mk wr [.int .i64 y1,.int .i64 y2,.int .i64 y3] 231 _ rfl 1 _ rfl).1 b3
     have v11:=cell_below (Blk.mk wr [.int .i64 y1,.int .i64 y2,.int .i64 y3] 231 _ rfl 2 _ rfl).1 b3
     obtain ⟨u0,s1,s2⟩:=(o3.rowG 0 rfl).spot (i * 3) (by omega)
     obtain ⟨u1,s3,s4⟩:=(o3.rowG 0 rfl).spot (i * 3 + 1) (by omega)
     obtain ⟨u2,s5,s6⟩:=(o3.rowG 0 rfl).spot (i * 3 + 2) (by omega)
     rw [← Nat.add_assoc] at s3 s4 s5 s6
     clear b3 HP o4 o3 hmk hlen e1 e2 e3
     go_wp2
     exact ⟨⟨i + 1,j + 1,by omega,by omega,by go_num,by go_num,HZ⟩,by simp [intOf];omega⟩
   ·have hge:¬ (j:Int) < (n:Int):=by omega
    have hjn:j = n:=by omega
    have hi:i ≤ n:=by omega
    obtain ⟨z1,z2,z3,z4⟩:=hm
    have hdl:dropW g l = l'.take i:=by rw [z3,List.take_of_length_le (by have:=HN.out;omega)]
    have hlen:(dropW g l).length = i:=by rw [hdl,List.length_take,z1];have:=HN.out;omega
    obtain ⟨a',hsl,w2,hclr,hrow,hchg⟩:=drop_clear (.agg #[.int .i64 0,.int .i64 0,.int .i64 0]) under_wt size_wt zero_wt rfl (by simp [Value.cells,Value.oneCell']) (ho.rowG 0 rfl) i hi
    have hsh:∀ w',(Instr.slice 144 (.slice a n c) none (some (.int .i64 (i:Int))) none).run Tryz.prog w' = .ok (.slice a i c) w':=fun w'=>slice_head w' under_wt size_wt a n c i (by omega)
    have hfin:Own w0 w2 (RowGA 3 a c (dropW g l).length (wtc (dropW g l)) :: CelA q [.int .i64 g] :: R):=by
     rw [hlen,hdl,wtc_take]
     exact Own.rowTurn ho hrow hchg (fun x hx=>.inl hx)
    have HF:=Lib.hid hfin
    have HCLR:=Lib.hid hclr
    have HLEN:=Lib.hid hlen
    clear hr ho hrow hchg hfin hclr z1 z2 z3 z4 hdl hlen HST hlt hj hij
    go_wp2_with (with_reducible refine wpList_clearG rfl _ _ rfl rfl (HCLR.out _ _) ?_)
    go_ret
    exact ⟨by rw [HLEN.out];rfl,HF.out⟩
 ·have hd:dropW g l = l:=dropW_none g l hno
  have HF:Hid (Own w0 w1 (RowGA 3 a c (dropW g l).length (wtc (dropW g l)) :: CelA q [.int .i64 g] :: R)):=Lib.hid (by rw [hd,← HN.out];exact HO.out.step b1)
  have HL:Hid ((dropW g l).length = n):=Lib.hid (by rw [hd];exact HN.out.symm)
  clear hno hd b1 HI HO
  go_wp2
  go_ret
  exact ⟨by rw [HL.out];rfl,HF.out⟩
theorem cdrop_any {w0 w:World} {R:List Asr} {p N:Nat} {C:Ch} (h:Own w0 w (ChanA p N C :: R)) (g:Int) (hs:C.S.length ≤ 100000) (hr:C.R.length ≤ 100000) :
  Calls Tryz.prog 182 #[.pointer (some ⟨p,0,none⟩),.int .i64 g] w fun r w'=>r = .returned (.tuple #[]) ∧ Own w0 w' (ChanA p N ⟨C.buf,dropW g C.S,dropW g C.R,C.cl⟩ :: R):=by
 obtain ⟨buf,S,Rv,cl⟩:=C
 simp only at hs hr ⊢
 obtain ⟨ba,bc,sa,sc,ra,rc,h1⟩:=h.chan
 have hpl:p < w.heap.size:=World.block_lt_of_cell? w _ (h1.cel 0 rfl 0 _ rfl).1
 have hA:=h1.alloc [.int .i64 g] 3 (b:=w.heap.size) rfl
 have hmk:∀ q,(clo q) = .func (.func 185) #[] #[.pointer (some ⟨q,0,none⟩)]:=fun _=>rfl
 have hB:Own w0 (w.alloc (.cells #[.int .i64 g] 3)) (RowGA 3 sa sc S.length (wtc S) :: CelA w.heap.size [.int .i64 g] :: CelA p (ccells N ⟨buf,S,Rv,cl⟩ ba bc sa sc ra rc) :: RowGA 1 ba bc buf.length (intc buf) :: RowGA 3 ra rc Rv.length (wtc Rv) :: R):=hA.pick 3 rfl
 have hd:=delete_any hB rfl hs
 rw [hmk] at hd
 obtain ⟨g2,-⟩:=hB.cel 2 rfl 2 _ rfl
 have HD:=Lib.hid hd
 simp only [ccells] at g2
 obtain ⟨n,hn⟩:∃ n,n = S.length:=⟨_,rfl⟩
 rw [← hn] at g2 HD
 have HN:=Lib.hid hn
 clear h h1 hA hB hd hn
 go_enter Tryz.func182,Tryz.ntmps182
 go_wp2_with fail
 refine HD.out.mono ?_
 rintro r w2 ⟨rfl,h2⟩
 have h3:Own w0 w2 (RowGA 3 sa sc (dropW g S).length (wtc (dropW g S)) :: CelA w.heap.size [.int .i64 g] :: CelA p (ccells N ⟨buf,S,Rv,cl⟩ ba bc sa sc ra rc) :: RowGA 1 ba bc buf.length (intc buf) :: RowGA 3 ra rc Rv.length (wtc Rv) :: R):=h2
 have h4:=h3.setAt 2 rfl 2 (.slice sa (dropW g S).length sc)
 obtain ⟨p2,q2⟩:=h3.cel 2 rfl 2 _ rfl
 have hC:Own w0 (w2.setCell ⟨p,2,none⟩ (.slice sa (dropW g S).length sc)) (RowGA 3 ra rc Rv.length (wtc Rv) :: CelA w.heap.size [.int .i64 g] :: RowGA 3 sa sc (dropW g S).length (wtc (dropW g S)) :: CelA p (ccells N ⟨buf,dropW g S,Rv,cl⟩ ba bc sa sc ra rc) :: RowGA 1 ba bc buf.length (intc buf) :: R):=(h4.pick 1 rfl).pick 4 rfl
 have hd:=delete_any hC rfl hr
 rw [hmk] at hd
 have HD2:=Lib.hid hd
 obtain ⟨g3,-⟩:=hC.cel 3 rfl 3 _ rfl
 simp only [ccells] at g3
 clear h2 h3 h4 hC hd g2 HD
 obtain ⟨n3,hn3⟩:∃ n,n = Rv.length:=⟨_,rfl⟩
 rw [← hn3] at g3 HD2
 have HN3:=Lib.hid hn3
 clear hn3
 go_wp2_with fail
 refine HD2.out.mono ?_
 rintro r w3 ⟨rfl,h5⟩
 have h6:Own w0 w3 (RowGA 3 ra rc (dropW g Rv).length (wtc (dropW g Rv)) :: CelA w.heap.size [.int .i64 g] :: RowGA 3 sa sc (dropW g S).length (wtc (dropW g S)) :: CelA p (ccells N ⟨buf,dropW g S,Rv,cl⟩ ba bc sa sc ra rc) :: RowGA 1 ba bc buf.length (intc buf) :: R):=h5
 have h7:=h6.setAt 3 rfl 3 (.slice ra (dropW g Rv).length rc)
 obtain ⟨p3,q3⟩:=h6.cel 3 rfl 3 _ rfl
 have hE:Own w0 (w3.setCell ⟨p,3,none⟩ (.slice ra (dropW g Rv).length rc)) (ChanA p N ⟨buf,dropW g S,dropW g Rv,cl⟩ :: R) :=
  Own.chanBack (((((h7.pick 1 rfl).drop.pick 0 rfl).pick 1 rfl).pick 3 rfl).pick 3 rfl)
 have HE:=Lib.hid hE
 clear h5 h6 h7 hE HD2 g3
 go_wp2
 go_end0
 exact ⟨rfl,HE.out⟩
abbrev Cs3:=Int × Int × Int
abbrev Pl:=Nat × Nat
def chs (ps:List Pl) (Cs:List Ch):List Asr:=List.zipWith (fun p C=>ChanA p.1 p.2 C) ps Cs
theorem chs_at {ps:List Pl} {Cs:List Ch} {i:Nat} {p:Pl} {C:Ch} (hp:ps[i]? = some p) (hC:Cs[i]? = some C):(chs ps Cs)[i]? = some (ChanA p.1 p.2 C):=by
 unfold chs;rw [List.getElem?_zipWith,hp,hC]
theorem chs_set {ps:List Pl} {Cs:List Ch} {i:Nat} {p:Pl} (C:Ch) (hp:ps[i]? = some p) (hi:i < Cs.length):(chs ps Cs).set i (ChanA p.1 p.2 C) = chs ps (Cs.set i C):=by
 apply List.ext_getElem?
 intro j
 unfold chs
 rw [List.getElem?_set]
 have hpl:=(List.getElem?_eq_some_iff.1 hp).1
 by_cases e:i = j
 ·subst e
  rw [if_pos rfl,if_pos (by simp;omega),List.getElem?_zipWith,hp,List.getElem?_set_self hi]
 ·rw [if_neg e,List.getElem?_zipWith,List.getElem?_zipWith,List.getElem?_set_ne e]
theorem Own.chPick {w0 w:World} {ps:List Pl} {Cs:List Ch} {R:List Asr} (h:Own w0 w (chs ps Cs ++ R)) {i:Nat} {p:Pl} {C:Ch} (hp:ps[i]? = some p) (hC:Cs[i]? = some C) :
  ∃ R',Own w0 w (ChanA p.1 p.2 C :: R') ∧ ∀ w' C',Own w0 w' (ChanA p.1 p.2 C' :: R') → Own w0 w' (chs ps (Cs.set i C') ++ R):=by
 have hl:i < (chs ps Cs).length:=(List.getElem?_eq_some_iff.1 (chs_at hp hC)).1
 have hCl:=(List.getElem?_eq_some_iff.1 hC).1
 refine ⟨_,h.pick i (by rw [List.getElem?_append_left hl];exact chs_at hp hC),fun w' C' h'=>?_⟩
 have:=h'.back (by rw [List.length_append];omega)
 rw [List.set_append_left _ _ hl,chs_set C' hp hCl] at this
 exact this
def ptrs (ps:List Pl):List Value:=ps.map fun p=>.pointer (some ⟨p.1,0,none⟩)
theorem ptrs_at (ps:List Pl) (i:Nat) (p:Pl) (h:ps[i]? = some p):(ptrs ps)[i]? = some (.pointer (some ⟨p.1,0,none⟩)):=by unfold ptrs;rw [List.getElem?_map,h];rfl
def c3c (k:Cs3):List Value:=[.int .i64 k.1,.int .i64 k.2.1,.int .i64 k.2.2]
def c3s (l:List Cs3):List Value:=l.flatMap c3c
def CasOK (n:Nat) (ks:List Cs3):Prop:=∀ k ∈ ks,(k.1 = 0 ∨ k.1 = 1 ∨ k.1 = 2) ∧ 0 ≤ k.2.1 ∧ (k.1 ≠ 2 → k.2.1 < n) ∧ 0 ≤ k.2.2 ∧ k.2.2 < 8
def goesB (ps:List Pl) (Cs:List Ch) (k:Cs3):Bool :=
 match Cs[k.2.1.toNat]?,ps[k.2.1.toNat]? with
 | some C,some p=>if k.1 = 0 then canR C else if k.1 = 1 then canS p.2 C else false
 | _,_=>false
def enF (g:Cs3 → Bool):Nat → List Cs3 → List Int
 | _,[]=>[]
 | i,k :: t=>if g k then (i:Int) :: enF g (i + 1) t else enF g (i + 1) t
theorem enF_len (g:Cs3 → Bool):∀ (l:List Cs3) (i:Nat),(enF g i l).length ≤ l.length
 | [],i=>by simp [enF]
 | k :: t,i=>by
  have:=enF_len g t (i + 1)
  unfold enF;split <;> simp <;> omega
theorem enF_drop (g:Cs3 → Bool) (l:List Cs3) (i:Nat) (h:i < l.length):enF g i (l.drop i) = if g l[i] then (i:Int) :: enF g (i + 1) (l.drop (i + 1)) else enF g (i + 1) (l.drop (i + 1)):=by
 rw [List.drop_eq_getElem_cons h];rfl
def elF:Nat → List Cs3 → Int
 | _,[]=>-1
 | i,k :: t=>if k.1 = 2 then (i:Int) else elF (i + 1) t
theorem elF_drop (l:List Cs3) (i:Nat) (h:i < l.length):elF i (l.drop i) = if l[i].1 = 2 then (i:Int) else elF (i + 1) (l.drop (i + 1)):=by
 rw [List.drop_eq_getElem_cons h];rfl
def waF (g:Int) (regs:List Int) (i:Nat) (k:Cs3) (Cs:List Ch):List Ch :=
 match Cs[k.2.1.toNat]? with
 | some C=>if k.1 = 0 then Cs.set k.2.1.toNat ⟨C.buf,C.S,C.R ++ [(g,(i:Int),0)],C.cl⟩ else if k.1 = 1 then Cs.set k.2.1.toNat ⟨C.buf,C.S ++ [(g,(i:Int),regs.getD k.2.2.toNat 0)],C.R,C.cl⟩ else Cs
 | none=>Cs
def wasF (g:Int) (regs:List Int):Nat → List Cs3 → List Ch → List Ch
 | _,[],Cs=>Cs
 | i,k :: t,Cs=>wasF g regs (i + 1) t (waF g regs i k Cs)
theorem wasF_drop (g:Int) (regs:List Int) (l:List Cs3) (i:Nat) (h:i < l.length) (Cs:List Ch):wasF g regs i (l.drop i) Cs = wasF g regs (i + 1) (l.drop (i + 1)) (waF g regs i l[i] Cs):=by
 rw [List.drop_eq_getElem_cons h];rfl
theorem waF_len (g:Int) (regs:List Int) (i:Nat) (k:Cs3) (Cs:List Ch):(waF g regs i k Cs).length = Cs.length:=by
 unfold waF;split
 ·split
  ·simp
  ·split <;> simp
 ·rfl
def Lim (n:Nat) (Cs:List Ch):Prop:=∀ C ∈ Cs,C.buf.length ≤ n ∧ C.S.length ≤ n ∧ C.R.length ≤ n
theorem Lim.mono {n m:Nat} {Cs:List Ch} (h:Lim n Cs) (hm:n ≤ m):Lim m Cs:=fun C hC=>by obtain ⟨h1,h2,h3⟩:=h C hC;omega
theorem Lim.set {n:Nat} {Cs:List Ch} (h:Lim n Cs) (i:Nat) (C:Ch) (hC:C.buf.length ≤ n ∧ C.S.length ≤ n ∧ C.R.length ≤ n):Lim n (Cs.set i C):=fun D hD=>by
 rcases List.mem_or_eq_of_mem_set hD with h1 | h1
 ·exact h D h1
 ·rw [h1];exact hC
def leF (g:Int) (C:Ch):Ch:=⟨C.buf,dropW g C.S,dropW g C.R,C.cl⟩
abbrev In4:=Int × Int × Int × Int
def inn (v lo hi:Int):Bool:=decide (lo ≤ v) && decide (v < hi)
def goodB (nf nc nk:Nat) (lk:Int) (n:Nat) (x:In4):Option Bool :=
 let a:=x.2.1;let b:=x.2.2.1;let c:=x.2.2.2
 match x.1.toNat with
 | 0 | 12=>some (a == 0 && b == 0 && c == 0)
 | 1=>some (inn a 0 8 && c == 0)
 | 2=>some (inn a 0 8 && inn b 0 8 && c == 0)
 | 3 | 4 | 5 | 6=>some (inn a 0 8 && inn b 0 8 && inn c 0 8)
 | 7=>some (inn a 0 n && b == 0 && c == 0)
 | 8=>some (inn a 0 8 && inn b 0 n && c == 0)
 | 9 | 11=>some (inn a 0 nf && inn b 0 8 && inn c 0 8)
 | 10 | 17 | 20=>some (inn a 0 8 && b == 0 && c == 0)
 | 13=>some (inn a 0 nc && inn b 0 8 && c == 0)
 | 14=>some (inn a 0 nc && inn b 0 8 && inn c 0 8)
 | 15=>some (inn a 0 nc && b == 0 && c == 0)
 | 16=>some (inn a 0 nk && inn b 1 ((nk:Int) - a + 1) && inn c 0 8)
 | 18 | 19=>some (inn a 0 lk && b == 0 && c == 0)
 | 21=>some (inn a 0 8 && inn b 1 1099511627776 && c == 0)
 | 22=>some (inn a 0 1048576 && b == 0 && c == 0)
 | _=>none
structure It where
 at_:Int
 seq:Int
 id:Int
deriving DecidableEq,Inhabited
def ltI (x y:It):Bool:=decide (x.at_ < y.at_ ∨ x.at_ = y.at_ ∧ x.seq < y.seq)
def leI (x y:It):Prop:=ltI y x = false
theorem leI_iff {x y:It}:leI x y ↔ x.at_ < y.at_ ∨ x.at_ = y.at_ ∧ x.seq ≤ y.seq:=by unfold leI ltI;simp only [decide_eq_false_iff_not];omega
theorem ltI_iff {x y:It}:ltI x y = true ↔ x.at_ < y.at_ ∨ x.at_ = y.at_ ∧ x.seq < y.seq:=by unfold ltI;simp
theorem leI.trans {x y z:It} (h:leI x y) (k:leI y z):leI x z:=by rw [leI_iff] at *;omega
theorem leI.refl (x:It):leI x x:=by rw [leI_iff];omega
theorem leI.of_lt {x y:It} (h:ltI x y = true):leI x y:=by rw [leI_iff];rw [ltI_iff] at h;omega
def gI (l:List It) (i:Nat):It:=l.getD i default
theorem gI_of {l:List It} {i:Nat} (h:i < l.length):gI l i = l[i]:=by unfold gI;rw [List.getD_eq_getElem?_getD,List.getElem?_eq_getElem h];rfl
theorem gI_set {l:List It} {i:Nat} (x:It) (k:Nat) (h:i < l.length):gI (l.set i x) k = if k = i then x else gI l k:=by
 unfold gI
 rw [List.getD_eq_getElem?_getD,List.getElem?_set]
 by_cases e:i = k
 ·subst e;simp [h]
 ·rw [if_neg e,if_neg (by omega)];rw [List.getD_eq_getElem?_getD]
def swI (l:List It) (i j:Nat):List It:=(l.set i (gI l j)).set j (gI l i)
theorem swI_len (l:List It) (i j:Nat):(swI l i j).length = l.length:=by simp [swI]
theorem gI_sw {l:List It} {i j:Nat} (hi:i < l.length) (hj:j < l.length) (k:Nat):gI (swI l i j) k = if k = j then gI l i else if k = i then gI l j else gI l k:=by
 unfold swI;rw [gI_set _ _ (by simpa using hj)];split
 ·rfl
 ·rw [gI_set _ _ hi]
theorem swI_perm {l:List It} {i j:Nat} (hi:i < l.length) (hj:j < l.length):(swI l i j).Perm l:=by
 by_cases e:i = j
 ·subst e
  have:swI l i i = l:=by
   apply List.ext_getElem (by simp [swI])
   intro k h1 h2
   have:=gI_sw hi hi k
   rw [gI_of h1,gI_of h2] at this
   rw [this];split
   ·subst_vars;rw [gI_of h2]
   ·rfl
  rw [this]
 ·have key:∀ (l:List It) (i j:Nat),i < j → j < l.length → ((l.set i (gI l j)).set j (gI l i)).Perm l:=by
   intro l
   induction l with
   | nil=>intro i j _ h;simp at h
   | cons x l ih =>
    intro i j hij hj
    obtain ⟨j,rfl⟩:∃ k,j = k + 1:=⟨j - 1,by omega⟩
    simp at hj
    cases i with
    | zero =>
     have e1:gI (x :: l) (j + 1) = l[j]:=by rw [gI_of (by simp;omega)];rfl
     have e2:gI (x :: l) 0 = x:=rfl
     rw [e1,e2]
     simp only [List.set_cons_zero,List.set_cons_succ]
     have h1:(l[j] :: l.set j x).Perm (x :: l):=by
      have a1:(x :: l.eraseIdx j).Perm (l.set j x):=by
       clear ih e1 e2 hij
       induction l generalizing j with
       | nil=>simp at hj
       | cons y l ih =>
        cases j with
        | zero=>simp
        | succ j =>
         simp only [List.eraseIdx_cons_succ,List.set_cons_succ]
         exact (List.Perm.swap y x _).trans ((ih j (by simpa using hj)).cons y)
      have a2:l.Perm (l[j] :: l.eraseIdx j):=by
       clear ih e1 e2 hij a1
       induction l generalizing j with
       | nil=>simp at hj
       | cons y l ih =>
        cases j with
        | zero=>simp
        | succ j =>
         simp only [List.eraseIdx_cons_succ,List.getElem_cons_succ]
         exact ((ih j (by simpa using hj)).cons y).trans (.swap _ _ _)
      exact ((a1.symm.cons _).trans (.swap _ _ _)).trans (a2.symm.cons x)
     exact h1
    | succ i =>
     have e1:gI (x :: l) (j + 1) = gI l j:=rfl
     have e2:gI (x :: l) (i + 1) = gI l i:=rfl
     rw [e1,e2]
     simp only [List.set_cons_succ]
     exact (ih i j (by omega) hj).cons x
  by_cases h:i < j
  ·exact key l i j h hj
  ·have:=key l j i (by omega) hi
   unfold swI
   rw [List.set_comm _ _ e];exact this
def HeapI (l:List It):Prop:=∀ i,0 < i → i < l.length → leI (gI l ((i - 1) / 4)) (gI l i)
def riseF (l:List It) (k:Nat):List It:=if h:0 < k ∧ ltI (gI l k) (gI l ((k - 1) / 4)) = true then riseF (swI l k ((k - 1) / 4)) ((k - 1) / 4) else l
termination_by k
decreasing_by omega
theorem riseF_stop {l:List It} {k:Nat} (h:¬ (0 < k ∧ ltI (gI l k) (gI l ((k - 1) / 4)) = true)):riseF l k = l:=by rw [riseF,dif_neg h]
theorem riseF_go {l:List It} {k:Nat} (h0:0 < k) (h1:ltI (gI l k) (gI l ((k - 1) / 4)) = true):riseF l k = riseF (swI l k ((k - 1) / 4)) ((k - 1) / 4):=by rw [riseF,dif_pos ⟨h0,h1⟩]
theorem riseF_perm:∀ (k:Nat) (l:List It),k < l.length → (riseF l k).Perm l:=by
 intro k
 induction k using Nat.strongRecOn with
 | _ k ih =>
  intro l hk
  by_cases h:0 < k ∧ ltI (gI l k) (gI l ((k - 1) / 4)) = true
  ·rw [riseF_go h.1 h.2]
   exact (ih ((k - 1) / 4) (by omega) _ (by rw [swI_len];omega)).trans (swI_perm hk (by omega))
  ·rw [riseF_stop h]
theorem riseF_len {k:Nat} {l:List It} (hk:k < l.length):(riseF l k).length = l.length:=(riseF_perm k l hk).length_eq
def UpOK (l:List It) (k:Nat):Prop:=(∀ i,0 < i → i < l.length → i ≠ k → leI (gI l ((i - 1) / 4)) (gI l i)) ∧ ∀ i,0 < i → i < l.length → ((i - 1) / 4) = k → 0 < k → leI (gI l ((k - 1) / 4)) (gI l i)
theorem rise_heap:∀ (k:Nat) (l:List It),k < l.length → UpOK l k → HeapI (riseF l k):=by
 intro k
 induction k using Nat.strongRecOn with
 | _ k ih =>
  intro l hk ⟨h1,h2⟩
  by_cases h:0 < k ∧ ltI (gI l k) (gI l ((k - 1) / 4)) = true
  ·rw [riseF_go h.1 h.2]
   have hp:((k - 1) / 4) < k:=by omega
   refine ih ((k - 1) / 4) hp _ (by rw [swI_len];omega) ⟨fun i hi0 hi hne=>?_,fun i hi0 hi hpi h0=>?_⟩
   ·rw [swI_len] at hi
    rw [gI_sw hk (by omega),gI_sw hk (by omega)]
    by_cases e:i = k
    ·subst e
     rw [if_pos rfl,if_neg (by omega),if_pos rfl]
     exact .of_lt h.2
    ·rw [if_neg (show ¬ i = ((k - 1) / 4) from hne),if_neg e]
     by_cases e1:((i - 1) / 4) = ((k - 1) / 4)
     ·rw [if_pos e1]
      have:=h1 i hi0 hi e
      rw [e1] at this
      exact (leI.of_lt h.2).trans this
     ·rw [if_neg e1]
      by_cases e2:((i - 1) / 4) = k
      ·rw [if_pos e2];exact h2 i hi0 hi e2 h.1
      ·rw [if_neg e2];exact h1 i hi0 hi e
   ·rw [swI_len] at hi
    rw [gI_sw hk (by omega),gI_sw hk (by omega)]
    rw [if_neg (show ¬ (((k - 1) / 4 - 1) / 4) = ((k - 1) / 4) by omega),if_neg (show ¬ (((k - 1) / 4 - 1) / 4) = k by omega)]
    have hpp:=h1 ((k - 1) / 4) h0 (by omega) (by omega)
    by_cases e:i = k
    ·subst e;rw [if_neg (by omega),if_pos rfl];exact hpp
    ·rw [if_neg (show ¬ i = ((k - 1) / 4) by omega),if_neg e]
     have:=h1 i hi0 hi e
     rw [hpi] at this
     exact hpp.trans this
  ·rw [riseF_stop h]
   intro i hi0 hi
   by_cases e:i = k
   ·subst e
    have:¬ ltI (gI l i) (gI l ((i - 1) / 4)) = true:=fun hc=>h ⟨hi0,hc⟩
    unfold leI;simpa using this
   ·exact h1 i hi0 hi e
def firstF (l:List It) (k:Nat):Nat → Nat
 | 0=>k
 | j + 1=>if k * 4 + 1 + j < l.length ∧ ltI (gI l (k * 4 + 1 + j)) (gI l (firstF l k j)) = true then k * 4 + 1 + j else firstF l k j
theorem firstF_in (l:List It) (k:Nat):∀ j,firstF l k j = k ∨ (k * 4 + 1 ≤ firstF l k j ∧ firstF l k j < k * 4 + 1 + j ∧ firstF l k j < l.length)
 | 0=>.inl rfl
 | j + 1=>by
  rw [firstF];split
  ·right;omega
  ·rcases firstF_in l k j with h | h
   ·exact .inl h
   ·right;omega
theorem firstF_le (l:List It) (k:Nat):∀ j,leI (gI l (firstF l k j)) (gI l k) ∧ ∀ i,k * 4 + 1 ≤ i → i < k * 4 + 1 + j → i < l.length → leI (gI l (firstF l k j)) (gI l i)
 | 0=>⟨.refl _,fun i h1 h2=>by omega⟩
 | j + 1=>by
  obtain ⟨h1,h2⟩:=firstF_le l k j
  rw [firstF];split
  ·rename_i h
   have hlt:=leI.of_lt h.2
   refine ⟨hlt.trans h1,fun i hi1 hi2 hi3=>?_⟩
   by_cases e:i = k * 4 + 1 + j
   ·subst e;exact .refl _
   ·exact hlt.trans (h2 i hi1 (by omega) hi3)
  ·rename_i h
   refine ⟨h1,fun i hi1 hi2 hi3=>?_⟩
   by_cases e:i = k * 4 + 1 + j
   ·subst e
    unfold leI
    cases hc:ltI (gI l (k * 4 + 1 + j)) (gI l (firstF l k j)) with
    | false=>rfl
    | true=>exact absurd ⟨hi3,hc⟩ h
   ·exact h2 i hi1 (by omega) hi3
def sinkF (l:List It) (k:Nat):List It:=if h:k < firstF l k 4 ∧ firstF l k 4 < l.length then sinkF (swI l k (firstF l k 4)) (firstF l k 4) else l
termination_by l.length - k
decreasing_by rw [swI_len];omega
theorem sinkF_stop {l:List It} {k:Nat} (h:firstF l k 4 = k):sinkF l k = l:=by rw [sinkF,dif_neg (by omega)]
theorem sinkF_go {l:List It} {k:Nat} (h:firstF l k 4 ≠ k):sinkF l k = sinkF (swI l k (firstF l k 4)) (firstF l k 4):=by
 rw [sinkF,dif_pos (by rcases firstF_in l k 4 with e | e;exact absurd e h;omega)]
theorem sinkF_perm:∀ (m:Nat) (l:List It) (k:Nat),l.length - k = m → k < l.length → (sinkF l k).Perm l:=by
 intro m
 induction m using Nat.strongRecOn with
 | _ m ih =>
  intro l k hm hk
  by_cases h:firstF l k 4 = k
  ·rw [sinkF_stop h]
  ·rw [sinkF_go h]
   have hf:k < firstF l k 4 ∧ firstF l k 4 < l.length:=by rcases firstF_in l k 4 with e | e;exact absurd e h;omega
   exact (ih (l.length - firstF l k 4) (by omega) _ _ (by rw [swI_len]) (by rw [swI_len];omega)).trans (swI_perm hk hf.2)
def DnOK (l:List It) (k:Nat):Prop:=(∀ i,0 < i → i < l.length → ((i - 1) / 4) ≠ k → leI (gI l ((i - 1) / 4)) (gI l i)) ∧ ∀ i,0 < i → i < l.length → ((i - 1) / 4) = k → 0 < k → leI (gI l ((k - 1) / 4)) (gI l i)
theorem sink_heap:∀ (m:Nat) (l:List It) (k:Nat),l.length - k = m → k < l.length → DnOK l k → HeapI (sinkF l k):=by
 intro m
 induction m using Nat.strongRecOn with
 | _ m ih =>
  intro l k hm hk ⟨h1,h2⟩
  obtain ⟨g1,g2⟩:=firstF_le l k 4
  have hin:=firstF_in l k 4
  by_cases h:firstF l k 4 = k
  ·rw [sinkF_stop h]
   rw [h] at g2
   intro i hi0 hi
   by_cases e:((i - 1) / 4) = k
   ·rw [e];exact g2 i (by omega) (by omega) hi
   ·exact h1 i hi0 hi e
  ·rw [sinkF_go h]
   have hf:k * 4 + 1 ≤ firstF l k 4 ∧ firstF l k 4 < k * 4 + 5 ∧ firstF l k 4 < l.length:=by rcases hin with e | e;exact absurd e h;omega
   clear hin
   generalize firstF l k 4 = f at *
   obtain ⟨f1,f2,f3⟩:=hf
   have hpf:((f - 1) / 4) = k:=by omega
   refine ih (l.length - f) (by omega) _ f (by rw [swI_len]) (by rw [swI_len];omega) ⟨fun i hi0 hi hne=>?_,fun i hi0 hi hpi h0=>?_⟩
   ·rw [swI_len] at hi
    rw [gI_sw hk f3,gI_sw hk f3]
    rw [if_neg hne]
    by_cases e:i = f
    ·subst e;rw [if_pos rfl,if_pos hpf];exact g1
    ·rw [if_neg e]
     by_cases e1:((i - 1) / 4) = k
     ·rw [if_pos e1,if_neg (by omega)];exact g2 i (by omega) (by omega) hi
     ·rw [if_neg e1]
      by_cases e2:i = k
      ·subst e2;rw [if_pos rfl];exact h2 f (by omega) f3 hpf hi0
      ·rw [if_neg e2];exact h1 i hi0 hi e1
   ·rw [swI_len] at hi
    rw [gI_sw hk f3,gI_sw hk f3,hpf,if_neg (by omega),if_pos rfl,if_neg (by omega),if_neg (by omega)]
    have:=h1 i hi0 hi (by omega)
    rw [hpi] at this;exact this
def BothOK (l:List It) (p:Nat):Prop:=(∀ i,0 < i → i < l.length → i ≠ p → ((i - 1) / 4) ≠ p → leI (gI l ((i - 1) / 4)) (gI l i)) ∧ ∀ i,0 < i → i < l.length → ((i - 1) / 4) = p → 0 < p → leI (gI l ((p - 1) / 4)) (gI l i)
theorem both_heap {l:List It} {p:Nat} (hp:p < l.length) (h:BothOK l p):HeapI (sinkF (riseF l p) p):=by
 obtain ⟨h1,h2⟩:=h
 by_cases hc:0 < p ∧ ltI (gI l p) (gI l ((p - 1) / 4)) = true
 ·have hu:UpOK l p:=⟨fun i hi0 hi hne=>by
   by_cases e:((i - 1) / 4) = p
   ·rw [e];exact (leI.of_lt hc.2).trans (h2 i hi0 hi e hc.1)
   ·exact h1 i hi0 hi hne e,h2⟩
  have hh:=rise_heap p l hp hu
  have hl:=riseF_len hp
  exact sink_heap _ _ p rfl (by omega) ⟨fun i hi0 hi _=>hh i hi0 hi,fun i hi0 hi hpi h0=>(hh p h0 (by omega)).trans (by have:=hh i hi0 hi;rw [hpi] at this;exact this)⟩
 ·rw [riseF_stop hc]
  refine sink_heap _ _ p rfl hp ⟨fun i hi0 hi hne=>?_,h2⟩
  by_cases e:i = p
  ·subst e
   have:¬ ltI (gI l i) (gI l ((i - 1) / 4)) = true:=fun hk=>hc ⟨hi0,hk⟩
   unfold leI;simpa using this
  ·exact h1 i hi0 hi e hne
def pushF (l:List It) (x:It):List It:=riseF (l ++ [x]) l.length
theorem gI_app {l:List It} {x:It} {i:Nat} (h:i < l.length):gI (l ++ [x]) i = gI l i:=by unfold gI;rw [List.getD_eq_getElem?_getD,List.getElem?_append_left h,List.getD_eq_getElem?_getD]
theorem push_heap {l:List It} {x:It} (h:HeapI l):HeapI (pushF l x):=by
 refine rise_heap _ _ (by simp) ⟨fun i hi0 hi hne=>?_,fun i hi0 hi hpi h0=>?_⟩
 ·simp at hi
  rw [gI_app (by omega),gI_app (by omega)];exact h i hi0 (by omega)
 ·simp at hi;omega
theorem push_perm (l:List It) (x:It):(pushF l x).Perm (x :: l):=(riseF_perm _ _ (by simp)).trans (by simp)
def remF (l:List It) (p:Nat):List It:=if p = l.length - 1 then l.take (l.length - 1) else sinkF (riseF ((swI l p (l.length - 1)).take (l.length - 1)) p) p
theorem gI_take {l:List It} {n i:Nat} (h:i < n):gI (l.take n) i = gI l i:=by
 unfold gI;rw [List.getD_eq_getElem?_getD,List.getElem?_take,if_pos h,List.getD_eq_getElem?_getD]
theorem rem_heap {l:List It} {p:Nat} (hp:p < l.length) (h:HeapI l):HeapI (remF l p):=by
 unfold remF
 split
 ·intro i hi0 hi
  simp at hi
  rw [gI_take (by omega),gI_take (by omega)];exact h i hi0 (by omega)
 ·rename_i hne
  refine both_heap (by simp [swI_len];omega) ⟨fun i hi0 hi h1 h2=>?_,fun i hi0 hi h1 h2=>?_⟩
  ·simp [swI_len] at hi
   rw [gI_take (by omega),gI_take (by omega),gI_sw hp (by omega),gI_sw hp (by omega),if_neg (by omega),if_neg h2,if_neg (by omega),if_neg h1]
   exact h i hi0 (by omega)
  ·simp [swI_len] at hi
   rw [gI_take (by omega),gI_take (by omega),gI_sw hp (by omega),gI_sw hp (by omega),if_neg (by omega),if_neg (by omega),if_neg (by omega),if_neg (by omega)]
   have k1:=h p h2 (by omega)
   have k2:=h i hi0 (by omega)
   rw [h1] at k2
   exact k1.trans k2
theorem take_last (l:List It) (h:0 < l.length):l = l.take (l.length - 1) ++ [gI l (l.length - 1)]:=by
 conv=>lhs;rw [← List.take_append_drop (l.length - 1) l]
 congr 1
 rw [gI_of (by omega),List.drop_eq_getElem_cons (by omega),List.drop_of_length_le (by omega)]
theorem rem_perm {l:List It} {p:Nat} (hp:p < l.length):l.Perm (gI l p :: remF l p):=by
 unfold remF
 split
 ·rename_i e
  have:=take_last l (by omega)
  conv=>lhs;rw [this]
  rw [← e]
  simp
 ·rename_i hne
  have hl:((swI l p (l.length - 1)).take (l.length - 1)).length = l.length - 1:=by simp [swI_len]
  have h0:=riseF_len (l:=(swI l p (l.length - 1)).take (l.length - 1)) (k:=p) (by omega)
  have h1:=(sinkF_perm _ (riseF ((swI l p (l.length - 1)).take (l.length - 1)) p) p rfl (by omega)).trans (riseF_perm p _ (by omega))
  have h2:=take_last (swI l p (l.length - 1)) (by rw [swI_len];omega)
  rw [swI_len,gI_sw hp (by omega),if_pos rfl] at h2
  have h3:=swI_perm hp (show l.length - 1 < l.length by omega)
  rw [h2] at h3
  exact (h3.symm.trans (by simp)).trans (h1.symm.cons _)
theorem remF_len {l:List It} {p:Nat} (hp:p < l.length):(remF l p).length = l.length - 1:=by
 have:=(rem_perm hp).length_eq;simp at this;omega
theorem pushF_len (l:List It) (x:It):(pushF l x).length = l.length + 1:=by have:=(push_perm l x).length_eq;simpa using this
def icells (l:List It):List Value:=l.flatMap fun x=>[.int .u64 x.at_,.int .u64 x.seq,.int .i64 x.id]
theorem icells_app (l m:List It):icells (l ++ m) = icells l ++ icells m:=by unfold icells;rw [List.flatMap_append]
theorem icells_cons (x:It) (l:List It):icells (x :: l) = .int .u64 x.at_ :: .int .u64 x.seq :: .int .i64 x.id :: icells l:=rfl
theorem icells_at (l:List It):∀ (i:Nat),i < l.length → (icells l)[i * 3]? = some (.int .u64 (gI l i).at_) ∧ (icells l)[i * 3 + 1]? = some (.int .u64 (gI l i).seq) ∧ (icells l)[i * 3 + 2]? = some (.int .i64 (gI l i).id):=by
 induction l with
 | nil=>intro i h;simp at h
 | cons x l ih =>
  intro i h
  cases i with
  | zero=>exact ⟨rfl,rfl,rfl⟩
  | succ i =>
   have:=ih i (by simpa using h)
   have e:gI (x :: l) (i + 1) = gI l i:=rfl
   rw [icells_cons,e,show (i + 1) * 3 = i * 3 + 1 + 1 + 1 by omega]
   exact this
theorem icells_set (l:List It):∀ (i:Nat) (y:It),i < l.length → (((icells l).set (i * 3) (.int .u64 y.at_)).set (i * 3 + 1) (.int .u64 y.seq)).set (i * 3 + 2) (.int .i64 y.id) = icells (l.set i y):=by
 induction l with
 | nil=>intro i y h;simp at h
 | cons x l ih =>
  intro i y h
  cases i with
  | zero=>rfl
  | succ i =>
   have:=ih i y (by simpa using h)
   rw [icells_cons,List.set_cons_succ,icells_cons,show (i + 1) * 3 = i * 3 + 1 + 1 + 1 by omega]
   simp only [List.set_cons_succ]
   rw [this]
theorem icells_take (l:List It) (n:Nat):icells (l.take n) = (icells l).take (n * 3):=by
 induction l generalizing n with
 | nil=>simp [icells]
 | cons x l ih =>
  cases n with
  | zero=>simp [icells]
  | succ n =>
   rw [List.take_succ_cons,icells_cons,icells_cons,show (n + 1) * 3 = n * 3 + 1 + 1 + 1 by omega]
   simp only [List.take_succ_cons]
   rw [ih]
def ItemsAt (w:World) (v:Value) (l:List It):Prop:=w.ownsRow 0 136 3 v l.length (icells l)
theorem ItemsAt.chg {F:List Nat} {w w':World} {v:Value} {l:List It} (h:ItemsAt w v l) (c:Chg F w w') (hd:∀ x ∈ v.ownBlock.toList,x ∉ F):ItemsAt w' v l:=owns_chg h c (fun g hg=>hd g (by rw [hg];simp))
theorem ItemsAt.below {w w':World} {v:Value} {l:List It} (h:ItemsAt w v l) (hb:Below w.heap.size w w'):ItemsAt w' v l:=h.chg (Chg.of_below (F:=[]) hb) (fun _ _=>by simp)
theorem ItemsAt.lt {w:World} {v:Value} {l:List It} (h:ItemsAt w v l):∀ x ∈ v.ownBlock.toList,x < w.heap.size:=fun x hx=>owns_lt h x (by simpa using hx)
theorem ItemsAt.form {w:World} {v:Value} {l:List It} (h:ItemsAt w v l) (hl:0 < l.length):∃ g cap,v = .slice (some ⟨g,0,none⟩) l.length cap ∧ l.length ≤ cap:=by
 rcases h.2 with ⟨rfl,h0⟩ | ⟨g,cap,cur,rfl,_,_,h1,_⟩
 ·omega
 ·exact ⟨g,cap,rfl,h1⟩
theorem ItemsAt.slice {w:World} {v:Value} {l:List It} (h:ItemsAt w v l):∃ a cap,v = .slice a l.length cap ∧ l.length ≤ cap:=by
 rcases h.2 with ⟨rfl,h0⟩ | ⟨g,cap,cur,rfl,_,_,h1,_⟩
 ·exact ⟨none,0,by rw [h0],by omega⟩
 ·exact ⟨_,cap,rfl,h1⟩
theorem ItemsAt.nil (w:World):ItemsAt w (.slice none 0 0) []:=World.ownsRow_nil _ _ _ _
theorem ItemsAt.cell {w:World} {g n cap:Nat} {l:List It} (h:ItemsAt w (.slice (some ⟨g,0,none⟩) n cap) l) (i:Nat) (hi:i < l.length) :
  w.cell? ⟨g,i * 3,none⟩ = some (.int .u64 (gI l i).at_) ∧ w.cell? ⟨g,i * 3 + 1,none⟩ = some (.int .u64 (gI l i).seq) ∧ w.cell? ⟨g,i * 3 + 2,none⟩ = some (.int .i64 (gI l i).id):=by
 obtain ⟨h1,h2,h3⟩:=icells_at l i hi
 have hc:∀ j u,(icells l)[j]? = some u → w.cell? ⟨g,j,none⟩ = some u:=fun j u hj=>by
  have:=World.ownsRow.cells h (g:=g) rfl j u hj
  rwa [Addr.add_lit,Nat.zero_add] at this
 exact ⟨hc _ _ h1,hc _ _ h2,hc _ _ h3⟩
theorem ItemsAt.free {w:World} {g n cap:Nat} {l:List It} (h:ItemsAt w (.slice (some ⟨g,0,none⟩) n cap) l) (j:Nat):w.frozen? ⟨g,j,none⟩ = false:=by
 rcases h.2 with ⟨hv,_⟩ | ⟨g',cap',cur,hv,hb,hg,h2,h3,h4,h5⟩
 ·cases hv
 ·simp only [Value.slice.injEq,Option.some.injEq,Addr.mk.injEq,and_true] at hv
  obtain ⟨rfl,_⟩:=hv
  exact frozen_of_row w g j cur _ hg
theorem owns_set {e:TypeId} {g n cap size:Nat} {w:World} {xs:List Value} (h:w.ownsRow 0 e size (.slice (some ⟨g,0,none⟩) n cap) n xs) (j:Nat) (v:Value) :
  (w.setCell ⟨g,j,none⟩ v).ownsRow 0 e size (.slice (some ⟨g,0,none⟩) n cap) n (xs.set j v):=by
 refine ⟨by simpa using h.1,?_⟩
 rcases h.2 with ⟨hv,_⟩ | ⟨g',cap',cur,hv,hb,hg,h2,h3,h4,h5⟩
 ·cases hv
 ·simp only [Value.slice.injEq,Option.some.injEq,Addr.mk.injEq,and_true,true_and] at hv
  obtain ⟨rfl,rfl⟩:=hv
  refine .inr ⟨g,cap,cur.set! j v,rfl,hb,heap_setCell_same _ _ _ _ _ _ hg,h2,h3,by simpa using h4,?_⟩
  rw [← h5,Array.set!_eq_setIfInBounds,Array.toList_setIfInBounds,List.take_set]
theorem owns_takeK {w:World} {e:TypeId} {size:Nat} {a:Option Addr} {n cap:Nat} {xs:List Value} (h:w.ownsRow 0 e size (.slice a n cap) n xs) (m:Nat) (hm:m ≤ n):w.ownsRow 0 e size (.slice a m cap) m (xs.take (m * size)):=by
 have hx:xs.length = n * size:=h.1
 have hms:m * size ≤ n * size:=Nat.mul_le_mul_right _ hm
 refine ⟨by rw [List.length_take];omega,?_⟩
 rcases h.2 with ⟨hv,hn⟩ | ⟨g,cap',cur,hv,hb,hg,h2,h3,h4,h5⟩
 ·simp only [Value.slice.injEq] at hv
  obtain ⟨rfl,_,rfl⟩:=hv
  exact .inl ⟨by rw [show m = 0 by omega],by omega⟩
 ·simp only [Value.slice.injEq,true_and] at hv
  obtain ⟨rfl,rfl⟩:=hv
  refine .inr ⟨g,cap,cur,rfl,hb,hg,by omega,h3,h4,?_⟩
  rw [← h5,List.take_take];congr 1;omega
theorem ItemsAt.set {w:World} {g n cap:Nat} {l:List It} (h:ItemsAt w (.slice (some ⟨g,0,none⟩) n cap) l) (i:Nat) (hi:i < l.length) (hn:n = l.length) (y:It) :
  ItemsAt (((w.setCell ⟨g,i * 3,none⟩ (.int .u64 y.at_)).setCell ⟨g,i * 3 + 1,none⟩ (.int .u64 y.seq)).setCell ⟨g,i * 3 + 2,none⟩ (.int .i64 y.id)) (.slice (some ⟨g,0,none⟩) n cap) (l.set i y):=by
 subst hn
 unfold ItemsAt at h ⊢
 rw [List.length_set,← icells_set l i y hi]
 exact owns_set (owns_set (owns_set h _ _) _ _) _ _
structure Hp where
 b:Nat
 c0:Value
 c1:Value
 c2:Value
 c3:Value
 c4:Value
 T:List Value
def Hp.cs (p:Hp) (v x:Value):List Value:=p.c0 :: p.c1 :: p.c2 :: p.c3 :: p.c4 :: v :: x :: p.T
def HeapAt (w:World) (p:Hp) (v:Value) (l:List It) (nx:Nat):Prop:=Blk w p.b (p.cs v (.int .u64 (nx:Int))) ∧ ItemsAt w v l ∧ ∀ x ∈ v.ownBlock.toList,x ≠ p.b
theorem HeapAt.chg {F:List Nat} {w w':World} {p:Hp} {v:Value} {l:List It} {nx:Nat} (h:HeapAt w p v l nx) (c:Chg F w w') (hp:p.b ∉ F) (hd:∀ x ∈ v.ownBlock.toList,x ∉ F):HeapAt w' p v l nx:=⟨h.1.chg c hp,h.2.1.chg c hd,h.2.2⟩
theorem HeapAt.below {w w':World} {p:Hp} {v:Value} {l:List It} {nx:Nat} (h:HeapAt w p v l nx) (hb:Below w.heap.size w w'):HeapAt w' p v l nx:=h.chg (Chg.of_below (F:=[]) hb) (by simp) (fun _ _=>by simp)
theorem HeapAt.lt {w:World} {p:Hp} {v:Value} {l:List It} {nx:Nat} (h:HeapAt w p v l nx):p.b < w.heap.size ∧ ∀ x ∈ v.ownBlock.toList,x < w.heap.size:=⟨h.1.lt (by simp [Hp.cs]),h.2.1.lt⟩
def cmpU (x y:Int):Int:=if x < y then -1 else if y < x then 1 else 0
theorem cmpU_any (x y:Int) (w:World):Calls Tryz.prog 67 #[.int .u64 x,.int .u64 y] w fun r w'=>r = .returned (.int .i64 (cmpU x y)) ∧ w' = w:=by
 rcases Int.lt_trichotomy x y with h | rfl | h
 ·rw [show cmpU x y = -1 by unfold cmpU;rw [if_pos h]]
  go_enter Tryz.func67,Tryz.ntmps67
  go_wp2
  go_ret
  exact ⟨rfl,rfl⟩
 ·rw [show cmpU x x = 0 by unfold cmpU;simp]
  go_enter Tryz.func67,Tryz.ntmps67
  go_wp2
  go_ret
  exact ⟨rfl,rfl⟩
 ·rw [show cmpU x y = 1 by unfold cmpU;rw [if_neg (by omega),if_pos h]]
  go_enter Tryz.func67,Tryz.ntmps67
  go_wp2
  go_ret
  exact ⟨rfl,rfl⟩
theorem or_any (x y:Int) (b:Nat) (w:World) (h0:w.cell? ⟨b,0,none⟩ = some (.int .i64 x)) (h1:w.cell? ⟨b,1,none⟩ = some (.int .i64 y)) :
  Calls Tryz.prog 66 #[.slice (some ⟨b,0,none⟩) 2 2] w fun r w'=>r = .returned (.int .i64 (if x = 0 then y else x)) ∧ w' = w:=by
 obtain ⟨z,hz⟩:∃ z,z = if x = 0 then y else x:=⟨_,rfl⟩
 rw [← hz]
 have hc:((x != 0) = true ∧ z = x) ∨ ((x != 0) = false ∧ (y != 0) = true ∧ z = y) ∨ ((x != 0) = false ∧ (y != 0) = false ∧ z = 0):=by
  by_cases hx:x = 0
  ·rw [if_pos hx] at hz
   by_cases hy:y = 0
   ·exact .inr (.inr ⟨by simp [hx],by simp [hy],by rw [hz,hy]⟩)
   ·exact .inr (.inl ⟨by simp [hx],by simp [hy],hz⟩)
  ·rw [if_neg hx] at hz;exact .inl ⟨by simp [hx],hz⟩
 clear hz
 have HC:=Lib.hid hc
 clear hc
 go_enter Tryz.func66,Tryz.ntmps66
 go_wp2
 go_loop [8] (fun i=>∃ k:Nat,k ≤ 2 ∧ i = .int .i64 k ∧ Hid ((1 ≤ k → (x != 0) = false) ∧ (2 ≤ k → (y != 0) = false))) (fun i=>2 - (intOf i).toNat)
 case atStart=>exact ⟨0,by omega,rfl,⟨fun h=>by omega,fun h=>by omega⟩⟩
 case round =>
  obtain ⟨k,hk,rfl,hr⟩:=hrel
  obtain rfl | rfl | rfl:k = 0 ∨ k = 1 ∨ k = 2:=by omega
  ·rcases HC.out with ⟨e1,rfl⟩ | ⟨e1,-⟩ | ⟨e1,-⟩
   ·go_wp2
    go_ret
    exact ⟨rfl,rfl⟩
   all_goals
    have HR:Hid ((1 ≤ 1 → (x != 0) = false) ∧ (2 ≤ 1 → (y != 0) = false)):=⟨fun _=>e1,fun h=>by omega⟩
    go_wp2
    go_round
    case rel=>exact ⟨1,by omega,rfl,HR⟩
    case measure=>simp [intOf]
  ·have e0:=hr.out.1 (by omega)
   rcases HC.out with ⟨e1,rfl⟩ | ⟨-,e1,rfl⟩ | ⟨-,e1,rfl⟩
   ·rw [e0] at e1;cases e1
   ·clear e0
    go_wp2
    go_ret
    exact ⟨rfl,rfl⟩
   ·have HR:Hid ((1 ≤ 2 → (x != 0) = false) ∧ (2 ≤ 2 → (y != 0) = false)):=⟨fun _=>e0,fun h=>e1⟩
    clear e0
    go_wp2
    go_round
    case rel=>exact ⟨2,by omega,rfl,HR⟩
    case measure=>simp [intOf]
  ·have e0:=hr.out.1 (by omega)
   have e2:=hr.out.2 (by omega)
   rcases HC.out with ⟨e1,rfl⟩ | ⟨-,e1,rfl⟩ | ⟨-,e1,rfl⟩
   ·rw [e0] at e1;cases e1
   ·rw [e2] at e1;cases e1
   ·clear e0 e1 e2
    go_wp2
    go_ret
    exact ⟨rfl,rfl⟩
def itv (x:It):Value:=.agg #[.int .u64 x.at_,.int .u64 x.seq,.int .i64 x.id]
def cmpI (x y:It):Int:=if cmpU x.at_ y.at_ = 0 then cmpU x.seq y.seq else cmpU x.at_ y.at_
theorem cmpI_lt (x y:It):(cmpI x y < 0) = (ltI x y = true):=by
 rw [ltI_iff];unfold cmpI cmpU;apply propext
 split <;> split <;> (try split) <;> (try split) <;> omega
theorem compare_any (x y:It) (w:World):Calls Tryz.prog 54 #[itv x,itv y] w fun r w'=>r = .returned (.int .i64 (cmpI x y)) ∧ Below w.heap.size w w':=by
 have hI:cmpI x y = if cmpU x.at_ y.at_ = 0 then cmpU x.seq y.seq else cmpU x.at_ y.at_:=rfl
 generalize cmpI x y = c at hI ⊢
 obtain ⟨xa,xs,xi⟩:=x
 obtain ⟨ya,ys,yi⟩:=y
 simp only at hI
 unfold itv
 obtain ⟨s0,hs0⟩:∃ s0,s0 = w.heap.size:=⟨_,rfl⟩
 have hO:Own w ((w.alloc (.cells #[.int .u64 xa,.int .u64 xs,.int .i64 xi] 136)).alloc (.cells #[.int .u64 ya,.int .u64 ys,.int .i64 yi] 136)) [CelA (s0 + 1) [.int .u64 ya,.int .u64 ys,.int .i64 yi],CelA s0 [.int .u64 xa,.int .u64 xs,.int .i64 xi]] :=
  ((Own.nil (Below.refl _ _)).alloc _ _ hs0).alloc _ _ (by simp [hs0])
 have HO:=Lib.hid hO
 have HI:=Lib.hid hI
 clear hO hI
 go_enter Tryz.func54,Tryz.ntmps54
 go_upto_region 1 with fail
 rw [← hs0]
 clear hs0
 generalize (w.alloc (.cells #[.int .u64 xa,.int .u64 xs,.int .i64 xi] 136)).alloc (.cells #[.int .u64 ya,.int .u64 ys,.int .i64 yi] 136) = W at *
 obtain ⟨g0,-⟩:=HO.out.cel 1 rfl 0 _ rfl
 obtain ⟨g1,-⟩:=HO.out.cel 1 rfl 1 _ rfl
 obtain ⟨g2,-⟩:=HO.out.cel 0 rfl 0 _ rfl
 obtain ⟨g3,-⟩:=HO.out.cel 0 rfl 1 _ rfl
 have hk:∀ w',Below W.heap.size W w' → w'.cell? ⟨s0,0,none⟩ = some (.int .u64 xa) ∧ w'.cell? ⟨s0,1,none⟩ = some (.int .u64 xs) ∧ w'.cell? ⟨s0 + 1,0,none⟩ = some (.int .u64 ya) ∧ w'.cell? ⟨s0 + 1,1,none⟩ = some (.int .u64 ys) ∧ Below W.heap.size W w' :=
  fun w' hb=>⟨cell_below g0 hb,cell_below g1 hb,cell_below g2 hb,cell_below g3 hb,hb⟩
 have HK:=Lib.hid hk
 have hb1:=HO.out.bel
 have HB1:=Lib.hid hb1
 clear hk g0 g1 g2 g3 hb1 HO
 go_region_held3 (fun w'=>w'.cell? ⟨s0,0,none⟩ = some (.int .u64 xa) ∧ w'.cell? ⟨s0,1,none⟩ = some (.int .u64 xs) ∧ w'.cell? ⟨s0 + 1,0,none⟩ = some (.int .u64 ya) ∧ w'.cell? ⟨s0 + 1,1,none⟩ = some (.int .u64 ys) ∧ Below W.heap.size W w')
  ((refine HK.out _ ?_;repeat (first | exact Below.refl _ _ | exact lim4 (by assumption) | refine Below.drew ?_ | refine below_drewN ?_ _ | refine Below.alloc ?_ (by first | exact (lim4 (by assumption):Below W.heap.size W _).size | simp) _)))
  (first
   | (go_at_call 67;refine (cmpU_any _ _ _).mono ?_;rintro r w5 ⟨rfl,rfl⟩)
   | (go_at_call 66;refine (or_any (cmpU xa ya) (cmpU xs ys) _ _ (by simp) (by simp)).mono ?_;rintro r w6 ⟨rfl,rfl⟩;rw [← HI.out]))
 rename_i hHeld
 have HF:=Lib.hid (below_on HB1.out (lim4 hHeld))
 clear hHeld
 go_wp2
 go_ret
 exact ⟨rfl,HF.out⟩
theorem lim7 {p q r s t u v x:Prop} (h:p ∧ q ∧ r ∧ s ∧ t ∧ u ∧ v ∧ x):x:=h.2.2.2.2.2.2.2
theorem earlier_any (w:World) (p:Hp) (v:Value) (l:List It) (nx i j:Nat) (h:HeapAt w p v l nx) (hi:i < l.length) (hj:j < l.length) (hl:l.length ≤ 1000000) :
  Calls Tryz.prog 145 #[.pointer (some ⟨p.b,5,none⟩),.int .i64 (i:Int),.int .i64 (j:Int)] w fun r w'=>r = .returned (.bool (ltI (gI l i) (gI l j))) ∧ Below w.heap.size w w':=by
 obtain ⟨h1,h2,h3⟩:=h
 obtain ⟨g,cap,rfl,hcap⟩:=h2.form (by omega)
 obtain ⟨c0,-⟩:=h1 5 _ rfl
 obtain ⟨c1,c2,c3⟩:=h2.cell i hi
 obtain ⟨c4,c5,c6⟩:=h2.cell j hj
 obtain ⟨n,hn⟩:∃ n,n = l.length:=⟨_,rfl⟩
 rw [← hn] at c0 hi hj hl
 have hin:(i:Int) < (n:Int):=by omega
 have hjn:(j:Int) < (n:Int):=by omega
 have hcmp:=fun W=>compare_any (gI l i) (gI l j) W
 have hlt:=cmpI_lt (gI l i) (gI l j)
 generalize gI l i = x at *
 generalize gI l j = y at *
 obtain ⟨xa,xs,xi⟩:=x
 obtain ⟨ya,ys,yi⟩:=y
 simp only at c1 c2 c3 c4 c5 c6
 unfold itv at hcmp
 simp only at hcmp
 obtain ⟨c,hc⟩:∃ c,c = cmpI ⟨xa,xs,xi⟩ ⟨ya,ys,yi⟩:=⟨_,rfl⟩
 obtain ⟨d,hd⟩:∃ d,d = ltI ⟨xa,xs,xi⟩ ⟨ya,ys,yi⟩:=⟨_,rfl⟩
 rw [← hc] at hcmp
 rw [← hc,← hd] at hlt
 rw [← hd]
 have hk:∀ w',Below w.heap.size w w' → w'.cell? ⟨p.b,5,none⟩ = some (.slice (some ⟨g,0,none⟩) n cap) ∧ w'.cell? ⟨g,i * 3,none⟩ = some (.int .u64 xa) ∧ w'.cell? ⟨g,i * 3 + 1,none⟩ = some (.int .u64 xs) ∧ w'.cell? ⟨g,i * 3 + 2,none⟩ = some (.int .i64 xi) ∧ w'.cell? ⟨g,j * 3,none⟩ = some (.int .u64 ya) ∧ w'.cell? ⟨g,j * 3 + 1,none⟩ = some (.int .u64 ys) ∧ w'.cell? ⟨g,j * 3 + 2,none⟩ = some (.int .i64 yi) ∧ Below w.heap.size w w' :=
  fun w' hb=>⟨cell_below c0 hb,cell_below c1 hb,cell_below c2 hb,cell_below c3 hb,cell_below c4 hb,cell_below c5 hb,cell_below c6 hb,hb⟩
 have HK:=Lib.hid hk
 have HC:=Lib.hid hcmp
 have hlt':decide (c < 0) = d:=by cases d <;> simp_all
 have HLT:=Lib.hid hlt'
 clear hk hcmp hlt hlt' c0 c1 c2 c3 c4 c5 c6 h1 h2 h3 hc hd hn
 go_enter Tryz.func145,Tryz.ntmps145
 go_wp2_with fail
 go_region_held3 (fun w'=>w'.cell? ⟨p.b,5,none⟩ = some (.slice (some ⟨g,0,none⟩) n cap) ∧ w'.cell? ⟨g,i * 3,none⟩ = some (.int .u64 xa) ∧ w'.cell? ⟨g,i * 3 + 1,none⟩ = some (.int .u64 xs) ∧ w'.cell? ⟨g,i * 3 + 2,none⟩ = some (.int .i64 xi) ∧ w'.cell? ⟨g,j * 3,none⟩ = some (.int .u64 ya) ∧ w'.cell? ⟨g,j * 3 + 1,none⟩ = some (.int .u64 ys) ∧ w'.cell? ⟨g,j * 3 + 2,none⟩ = some (.int .i64 yi) ∧ Below w.heap.size w w')
  ((refine HK.out _ ?_;repeat (first | exact Below.refl _ _ | exact lim7 (by assumption) | refine below_on ?_ hb5 | refine Below.drew ?_ | refine below_drewN ?_ _)))
  (first
   | (go_at_call 54;refine (HC.out _).mono ?_;rintro r w5 ⟨rfl,hb5⟩))
 rename_i hHeld
 have HF:=Lib.hid (lim7 hHeld)
 clear hHeld hb5
 go_wp2
 go_ret
 exact ⟨ret_bool HLT.out,HF.out⟩
theorem HeapAt.swap {w:World} {p:Hp} {g n cap:Nat} {l:List It} {nx:Nat} (h:HeapAt w p (.slice (some ⟨g,0,none⟩) n cap) l nx) (hn:n = l.length) (i j:Nat) (hi:i < l.length) (hj:j < l.length) {xa xs xi ya ys yi:Int}
  (hx:gI l i = ⟨xa,xs,xi⟩) (hy:gI l j = ⟨ya,ys,yi⟩) :
  HeapAt ((((((w.setCell ⟨g,i * 3,none⟩ (.int .u64 ya)).setCell ⟨g,i * 3 + 1,none⟩ (.int .u64 ys)).setCell ⟨g,i * 3 + 2,none⟩ (.int .i64 yi)).setCell ⟨g,j * 3,none⟩ (.int .u64 xa)).setCell ⟨g,j * 3 + 1,none⟩ (.int .u64 xs)).setCell ⟨g,j * 3 + 2,none⟩ (.int .i64 xi)).drew p (.slice (some ⟨g,0,none⟩) n cap) (swI l i j) nx ∧
  Chg (p.b :: (Value.slice (some ⟨g,0,none⟩) n cap).ownBlock.toList) w ((((((w.setCell ⟨g,i * 3,none⟩ (.int .u64 ya)).setCell ⟨g,i * 3 + 1,none⟩ (.int .u64 ys)).setCell ⟨g,i * 3 + 2,none⟩ (.int .i64 yi)).setCell ⟨g,j * 3,none⟩ (.int .u64 xa)).setCell ⟨g,j * 3 + 1,none⟩ (.int .u64 xs)).setCell ⟨g,j * 3 + 2,none⟩ (.int .i64 xi)).drew:=by
 obtain ⟨h1,h2,h3⟩:=h
 have hgp:p.b ≠ g:=(h3 g (by simp [Value.ownBlock])).symm
 have k1:=h2.set i hi hn (gI l j)
 have k2:=k1.set j (by simpa using hj) (by simpa using hn) (gI l i)
 have k3:=k2.below (below_drew1 _)
 rw [hx,hy] at k3
 refine ⟨⟨((((((h1.setFar hgp).setFar hgp).setFar hgp).setFar hgp).setFar hgp).setFar hgp).below (below_drew1 _),?_,h3⟩,?_⟩
 ·unfold swI;rw [hx,hy];exact k3
 ·exact (((((((Chg.refl _ _).setCell _ (.inl (by simp [Value.ownBlock]))).setCell _ (.inl (by simp [Value.ownBlock]))).setCell _ (.inl (by simp [Value.ownBlock]))).setCell _ (.inl (by simp [Value.ownBlock]))).setCell _ (.inl (by simp [Value.ownBlock]))).setCell _ (.inl (by simp [Value.ownBlock]))).drew
theorem swap_any (w:World) (p:Hp) (v:Value) (l:List It) (nx i j:Nat) (h:HeapAt w p v l nx) (hi:i < l.length) (hj:j < l.length) (hl:l.length ≤ 1000000) :
  Calls Tryz.prog 124 #[.pointer (some ⟨p.b,5,none⟩),.int .i64 (i:Int),.int .i64 (j:Int)] w fun r w'=>r = .returned (.tuple #[]) ∧ HeapAt w' p v (swI l i j) nx ∧ Chg (p.b :: v.ownBlock.toList) w w':=by
 obtain ⟨h1,h2,h3⟩:=h
 obtain ⟨g,cap,rfl,hcap⟩:=h2.form (by omega)
 have hgp:g ≠ p.b:=h3 g (by simp [Value.ownBlock])
 obtain ⟨c0,-⟩:=h1 5 _ rfl
 obtain ⟨c1,c2,c3⟩:=h2.cell i hi
 obtain ⟨c4,c5,c6⟩:=h2.cell j hj
 have f1:=h2.free (i * 3)
 have f2:=h2.free (i * 3 + 1)
 have f3:=h2.free (i * 3 + 2)
 have f4:=h2.free (j * 3)
 have f5:=h2.free (j * 3 + 1)
 have f6:=h2.free (j * 3 + 2)
 obtain ⟨n,hn⟩:∃ n,n = l.length:=⟨_,rfl⟩
 have hsw:=fun xa xs xi ya ys yi hx hy=>HeapAt.swap (w:=w) (nx:=nx) ⟨h1,h2,h3⟩ rfl i j hi hj (xa:=xa) (xs:=xs) (xi:=xi) (ya:=ya) (ys:=ys) (yi:=yi) hx hy
 have HSW:=Lib.hid hsw
 rw [← hn] at c0
 have hin:(i:Int) < (n:Int):=by omega
 have hjn:(j:Int) < (n:Int):=by omega
 have hn6:n ≤ 1000000:=by omega
 have HL:Hid (i < l.length ∧ j < l.length ∧ n = l.length):=Lib.hid ⟨hi,hj,hn⟩
 have HX:=Lib.hid (show gI l i = ⟨(gI l i).at_,(gI l i).seq,(gI l i).id⟩ from rfl)
 have HY:=Lib.hid (show gI l j = ⟨(gI l j).at_,(gI l j).seq,(gI l j).id⟩ from rfl)
 have hi':i < n:=by omega
 have hj':j < n:=by omega
 rcases Nat.lt_trichotomy i j with hij | rfl | hij
 ·clear h1 h2 h3 hi hj hl hn hcap hsw
  generalize (gI l i).at_ = xa at *
  generalize (gI l i).seq = xs at *
  generalize (gI l i).id = xi at *
  generalize (gI l j).at_ = ya at *
  generalize (gI l j).seq = ys at *
  generalize (gI l j).id = yi at *
  have HE:=Lib.hid (HSW.out _ _ _ _ _ _ HX.out HY.out)
  clear HSW
  go_enter Tryz.func124,Tryz.ntmps124
  go_wp2_with fail
  go_region
  go_wp2
  go_end0
  exact ⟨rfl,HE.out⟩
 ·clear h1 h2 h3 hi hj hl hn hcap hsw
  generalize (gI l i).at_ = xa at *
  generalize (gI l i).seq = xs at *
  generalize (gI l i).id = xi at *
  have HE:=Lib.hid (HSW.out _ _ _ _ _ _ HX.out HY.out)
  clear HSW
  go_enter Tryz.func124,Tryz.ntmps124
  go_wp2_with fail
  go_region
  go_wp2
  go_end0
  exact ⟨rfl,HE.out⟩
 ·clear h1 h2 h3 hi hj hl hn hcap hsw
  generalize (gI l i).at_ = xa at *
  generalize (gI l i).seq = xs at *
  generalize (gI l i).id = xi at *
  generalize (gI l j).at_ = ya at *
  generalize (gI l j).seq = ys at *
  generalize (gI l j).id = yi at *
  have HE:=Lib.hid (HSW.out _ _ _ _ _ _ HX.out HY.out)
  clear HSW
  go_enter Tryz.func124,Tryz.ntmps124
  go_wp2_with fail
  go_region
  go_wp2
  go_end0
  exact ⟨rfl,HE.out⟩
abbrev foot (p:Hp) (v:Value):List Nat:=p.b :: v.ownBlock.toList
theorem Chg.trans0 {F:List Nat} {a b c:World} (h:Chg F a b) (k:Chg F b c):Chg F a c:=h.trans k (fun _ hx=>.inl hx)
theorem rise_any (w:World) (p:Hp) (v:Value) (l:List It) (nx k0:Nat) (h:HeapAt w p v l nx) (hk:k0 < l.length) (hl:l.length ≤ 1000000) :
  Calls Tryz.prog 125 #[.pointer (some ⟨p.b,5,none⟩),.int .i64 (k0:Int)] w fun r w'=>r = .returned (.tuple #[]) ∧ HeapAt w' p v (riseF l k0) nx ∧ Chg (foot p v) w w':=by
 have H:=Lib.hid h;clear h
 have HK:=Lib.hid hk;clear hk
 have HL:=Lib.hid hl;clear hl
 generalize hR:riseF l k0 = R
 have HR:=Lib.hid hR;clear hR
 go_enter Tryz.func125,Tryz.ntmps125
 go_wp2_with fail
 go_loopw [1] (fun t wr=>∃ k:Nat,∃ l':List It,t = .int .i64 k ∧ k ≤ 1000000 ∧ Hid (HeapAt wr p v l' nx ∧ Chg (foot p v) w wr ∧ riseF l' k = R ∧ l'.length = l.length ∧ k < l.length)) (fun t _=>(intOf t).toNat)
 case atStart=>exact ⟨k0,l,rfl,by have:=HL.out;have:=HK.out;omega,H.out,Chg.refl _ _,HR.out,rfl,HK.out⟩
 case round =>
  obtain ⟨k,l',rfl,hkb,hr⟩:=hrel
  by_cases h0:0 < k
  ·obtain ⟨m,hm⟩:∃ m,m = (k - 1) / 4:=⟨_,rfl⟩
   have hq:((k:Int) - 1).tdiv 4 = (m:Int):=by rw [hm,Int.tdiv_eq_ediv_of_nonneg (by omega)];omega
   have hwm:IntKind.i64.wrap (m:Int) = (m:Int):=by rw [IntKind.wrap_i64];omega
   have hmk:m < k:=by omega
   have HM:=Lib.hid hm;clear hm
   have hc:=earlier_any wr p v l' nx k m hr.out.1 (by have:=hr.out;omega) (by have:=hr.out;omega) (by have:=hr.out.2.2.2.1;have:=HL.out;omega)
   cases hlt:ltI (gI l' k) (gI l' m) with
   | false =>
    rw [hlt] at hc
    have HC:=Lib.hid hc;clear hc
    have hst:riseF l' k = l':=riseF_stop (fun h=>by rw [← HM.out,hlt] at h;exact absurd h.2 (by simp))
    have hend:∀ w2,Below wr.heap.size wr w2 → HeapAt w2 p v R nx ∧ Chg (foot p v) w w2:=fun w2 hb=>by
     have:=hr.out.2.2.1
     rw [← this,hst]
     exact ⟨hr.out.1.below hb,hr.out.2.1.trans0 (Chg.of_below hb)⟩
    have HE:=Lib.hid hend
    clear hst hend hlt
    go_wp2_with fail
    refine HC.out.mono ?_
    rintro r w2 ⟨rfl,hb⟩
    have HF:=Lib.hid (HE.out _ hb);clear hb
    go_wp2
    refine bodyPost_ret (results_none rfl _ _ _) rfl ?_
    exact ⟨rfl,HF.out⟩
   | true =>
    rw [hlt] at hc
    have HC:=Lib.hid hc;clear hc
    have hgo:riseF l' k = riseF (swI l' k m) m:=by have:=riseF_go h0 (by rw [← HM.out];exact hlt);rw [← HM.out] at this;exact this
    have hsw:∀ w2,Below wr.heap.size wr w2 → Calls Tryz.prog 124 #[.pointer (some ⟨p.b,5,none⟩),.int .i64 (k:Int),.int .i64 (m:Int)] w2 fun r w'=>r = .returned (.tuple #[]) ∧ (HeapAt w' p v (swI l' k m) nx ∧ Chg (foot p v) w w' ∧ riseF (swI l' k m) m = R ∧ (swI l' k m).length = l.length ∧ m < l.length):=fun w2 hb =>
     (swap_any w2 p v l' nx k m (hr.out.1.below hb) (by have:=hr.out;omega) (by have:=hr.out;omega) (by have:=hr.out.2.2.2.1;have:=HL.out;omega)).mono fun r w' ⟨e,h1,h2⟩ =>
      ⟨e,h1,(hr.out.2.1.trans0 (Chg.of_below hb)).trans0 h2,by rw [← hgo];exact hr.out.2.2.1,by rw [swI_len];exact hr.out.2.2.2.1,by have:=hr.out;omega⟩
    have HSW:=Lib.hid hsw
    clear hgo hsw hlt
    go_wp2_with fail
    refine HC.out.mono ?_
    rintro r w2 ⟨rfl,hb⟩
    have HSW2:=Lib.hid (HSW.out _ hb);clear hb
    go_wp2_with fail
    refine HSW2.out.mono ?_
    rintro r w3 ⟨rfl,h3⟩
    have H3:=Lib.hid h3;clear h3
    go_wp2
    exact ⟨⟨m,swI l' k m,rfl,by omega,H3⟩,by simp [intOf];omega⟩
  ·obtain rfl:k = 0:=by omega
   have hst:riseF l' 0 = l':=riseF_stop (fun h=>by omega)
   have hend:HeapAt wr p v R nx ∧ Chg (foot p v) w wr:=by
    have:=hr.out.2.2.1
    rw [← this,hst];exact ⟨hr.out.1,hr.out.2.1⟩
   have HE:=Lib.hid hend
   clear hst hend
   go_wp2
   go_end0
   exact ⟨rfl,HE.out⟩
theorem firstF_stable (l:List It) (k:Nat):∀ (j d:Nat),l.length ≤ k * 4 + 1 + j → firstF l k (j + d) = firstF l k j
 | j,0,_=>rfl
 | j,d + 1,h=>by rw [← Nat.add_assoc,firstF,if_neg (by omega)];exact firstF_stable l k j d h
theorem sink_any (w:World) (p:Hp) (v:Value) (l:List It) (nx k0:Nat) (h:HeapAt w p v l nx) (hk:k0 < l.length) (hl:l.length ≤ 1000000) :
  Calls Tryz.prog 126 #[.pointer (some ⟨p.b,5,none⟩),.int .i64 (k0:Int)] w fun r w'=>r = .returned (.tuple #[]) ∧ HeapAt w' p v (sinkF l k0) nx ∧ Chg (foot p v) w w':=by
 have H:=Lib.hid h;clear h
 have HK:=Lib.hid hk;clear hk
 obtain ⟨n,hn⟩:∃ n,n = l.length:=⟨_,rfl⟩
 rw [← hn] at hl
 have HN:=Lib.hid hn;clear hn
 generalize hR:sinkF l k0 = R
 have HR:=Lib.hid hR;clear hR
 go_enter Tryz.func126,Tryz.ntmps126
 go_wp2_with fail
 go_loopw [1] (fun t wr=>∃ k:Nat,∃ l':List It,t = .int .i64 k ∧ k < n ∧ Hid (HeapAt wr p v l' nx ∧ Chg (foot p v) w wr ∧ sinkF l' k = R ∧ l'.length = n)) (fun t _=>n - (intOf t).toNat)
 case atStart=>exact ⟨k0,l,rfl,by have:=HN.out;have:=HK.out;omega,H.out,Chg.refl _ _,HR.out,HN.out.symm⟩
 case round =>
  obtain ⟨k,l',rfl,hkn,hr⟩:=hrel
  obtain ⟨h1,h2,h3⟩:=hr.out.1
  obtain ⟨g,cap,hv,hcap⟩:=h2.form (by have:=hr.out.2.2.2;omega)
  rw [hr.out.2.2.2] at hv
  have hb0:∀ w2,Below wr.heap.size wr w2 → w2.cell? ⟨p.b,5,none⟩ = some (.slice (some ⟨g,0,none⟩) n cap):=fun w2 hb=>by rw [← hv];exact cell_below (h1 5 _ rfl).1 hb
  have HB0:=Lib.hid hb0
  have hE:∀ w2,Below wr.heap.size wr w2 → ∀ I f,I < n → f < n → Calls Tryz.prog 145 #[.pointer (some ⟨p.b,5,none⟩),.int .i64 (I:Int),.int .i64 (f:Int)] w2 fun r w'=>r = .returned (.bool (ltI (gI l' I) (gI l' f))) ∧ Below wr.heap.size wr w':=fun w2 hb I f h1 h2 =>
   (earlier_any w2 p v l' nx I f (hr.out.1.below hb) (by have:=hr.out.2.2.2;omega) (by have:=hr.out.2.2.2;omega) (by have:=hr.out.2.2.2;omega)).mono fun r w' ⟨e1,e2⟩=>⟨e1,below_on hb e2⟩
  have hstop:∀ w2,Below wr.heap.size wr w2 → firstF l' k 4 = k → HeapAt w2 p v R nx ∧ Chg (foot p v) w w2:=fun w2 hb hf=>by
   have:=hr.out.2.2.1
   rw [← this,sinkF_stop hf];exact ⟨hr.out.1.below hb,hr.out.2.1.trans0 (Chg.of_below hb)⟩
  have hgo:∀ w2 f,Below wr.heap.size wr w2 → f = firstF l' k 4 → f ≠ k → f < n → k < f ∧ Calls Tryz.prog 124 #[.pointer (some ⟨p.b,5,none⟩),.int .i64 (k:Int),.int .i64 (f:Int)] w2 fun r w'=>r = .returned (.tuple #[]) ∧ (HeapAt w' p v (swI l' k f) nx ∧ Chg (foot p v) w w' ∧ sinkF (swI l' k f) f = R ∧ (swI l' k f).length = n):=fun w2 f hb hf hne hfn=>by
   have hkl:=hr.out.2.2.2
   refine ⟨by have:=firstF_in l' k 4;omega,(swap_any w2 p v l' nx k f (hr.out.1.below hb) (by omega) (by omega) (by omega)).mono fun r w' ⟨e,h1,h2⟩ =>
    ⟨e,h1,(hr.out.2.1.trans0 (Chg.of_below hb)).trans0 h2,?_,by rw [swI_len];exact hkl⟩⟩
   have:=sinkF_go (l:=l') (k:=k) (by rw [← hf];exact hne)
   rw [← hf] at this
   rw [← this];exact hr.out.2.2.1
  have HE:=Lib.hid hE
  have HSTOP:=Lib.hid hstop
  have HGO:=Lib.hid hgo
  have HLEN:=Lib.hid hr.out.2.2.2
  clear h1 h2 h3 hb0 hv hcap hE hstop hgo hr
  go_wp2_with fail
  go_loopw [4,5] (fun tf ti w2=>∃ j f:Nat,j ≤ 4 ∧ f < n ∧ tf = .int .i64 f ∧ ti = .int .i64 (((k * 4 + 1 + j:Nat)):Int) ∧ Hid (f = firstF l' k j ∧ Below wr.heap.size wr w2)) (fun _ ti _=>k * 4 + 5 - (intOf ti).toNat)
  case atStart=>exact ⟨0,k,by omega,hkn,rfl,by first | rfl | (congr 1;omega),rfl,Below.refl _ _⟩
  case round =>
   obtain ⟨j,f,hj,hfn,rfl,rfl,hi⟩:=hrel
   have hcell:=HB0.out _ hi.out.2
   obtain ⟨I,hI⟩:∃ I,I = k * 4 + 1 + j:=⟨_,rfl⟩
   rw [← hI]
   have HI:=Lib.hid hI
   by_cases hgo:j < 4 ∧ I < n
   ·obtain ⟨z1,z2⟩:=hgo
    have hle:(I:Int) ≤ (k:Int) * 4 + 4:=by omega
    have hlt:(I:Int) < (n:Int):=by omega
    have hc:=HE.out _ hi.out.2 I f z2 hfn
    have hst:∀ b,ltI (gI l' I) (gI l' f) = b → (if b then I else f) = firstF l' k (j + 1):=fun b hb=>by
     rw [firstF,← hi.out.1,← hI]
     cases b with
     | true=>rw [if_pos rfl,if_pos ⟨by have:=HLEN.out;omega,hb⟩]
     | false=>rw [if_neg (by simp),if_neg (fun h=>by rw [hb] at h;exact absurd h.2 (by simp))]
    have HST:=Lib.hid hst
    clear hst
    cases hlt2:ltI (gI l' I) (gI l' f) with
    | true =>
     rw [hlt2] at hc
     have hs:=HST.out _ hlt2
     have HC:=Lib.hid hc
     have HS:=Lib.hid hs
     clear hc hlt2 hs hI
     go_wp2_with fail
     refine HC.out.mono ?_
     rintro r w2 ⟨rfl,hb⟩
     have hx:Hid (I = firstF l' k (j + 1) ∧ Below _ _ w2):=⟨by simpa using HS.out,hb⟩
     clear hb
     go_wp2
     exact ⟨⟨j + 1,I,by omega,z2,rfl,by congr 1;have:=HI.out;omega,hx⟩,by have:=HI.out;simp [intOf];omega⟩
    | false =>
     rw [hlt2] at hc
     have hs:=HST.out _ hlt2
     have HC:=Lib.hid hc
     have HS:=Lib.hid hs
     clear hc hlt2 hs hI
     go_wp2_with fail
     refine HC.out.mono ?_
     rintro r w2 ⟨rfl,hb⟩
     have hx:Hid (f = firstF l' k (j + 1) ∧ Below _ _ w2):=⟨by simpa using HS.out,hb⟩
     clear hb
     go_wp2
     exact ⟨⟨j + 1,f,by omega,hfn,rfl,by congr 1;have:=HI.out;omega,hx⟩,by have:=HI.out;simp [intOf];omega⟩
   ·have hf4:f = firstF l' k 4:=by
     rw [hi.out.1]
     by_cases e:j = 4
     ·rw [e]
     ·have:=firstF_stable l' k j (4 - j) (by have:=HLEN.out;omega)
      rw [show j + (4 - j) = 4 by omega] at this;exact this.symm
    have HF4:=Lib.hid hf4
    have hb:=hi.out.2
    have HB:=Lib.hid hb
    have hcase:(¬ (I:Int) ≤ (k:Int) * 4 + 4) ∨ ((I:Int) ≤ (k:Int) * 4 + 4 ∧ ¬ (I:Int) < (n:Int)):=by omega
    clear hgo hI hf4 hb
    by_cases hfk:f = k
    ·subst hfk
     have HEND:=Lib.hid (HSTOP.out _ HB.out HF4.out.symm)
     rcases hcase with z1 | ⟨z1,z2⟩
     all_goals
      go_wp2
      refine bodyPost_ret (results_none rfl _ _ _) rfl ?_
      exact ⟨rfl,HEND.out⟩
    ·have hne:((f:Int) == (k:Int)) = false:=by rw [beq_eq_false_iff_ne];omega
     obtain ⟨hkf,hsw⟩:=HGO.out _ f HB.out HF4.out hfk hfn
     have HSW:=Lib.hid hsw
     clear hsw
     rcases hcase with z1 | ⟨z1,z2⟩
     all_goals
      go_wp2_with fail
      refine HSW.out.mono ?_
      rintro r w3 ⟨rfl,h3⟩
      have H3:=Lib.hid h3;clear h3
      go_wp2
      exact ⟨⟨f,swI l' k f,rfl,hfn,H3⟩,by simp [intOf];omega⟩
theorem info_item:(Tryz.prog.info? 136).map (fun i=>(i.zero,i.size,i.bytes)) = some (some (.agg #[.int .u64 0,.int .u64 0,.int .i64 0]),3,24):=by kernel_rfl
theorem size_item:∀ w,(sizeOf (Tryz.prog.elem 56)).run Tryz.prog w = .ok 3 w:=by
 obtain ⟨i0,hi,hz0,hz1,hz2⟩:=info_parts info_item
 intro w
 have e:Tryz.prog.elem 56 = 136:=by kernel_rfl
 rw [e];simp [sizeOf,typeInfo,hi,hz1]
theorem under_items:Tryz.prog.underlying 56 = some (.slice (Tryz.prog.elem 56)):=by
 have e:Tryz.prog.elem 56 = 136:=by kernel_rfl
 rw [e];exact Tryz.underlying56
theorem ItemsAt.cut {w:World} {a:Option Addr} {n cap:Nat} {l:List It} (h:ItemsAt w (.slice a n cap) l) (hn:n = l.length) (m:Nat) (hm:m ≤ n):ItemsAt w (.slice a m cap) (l.take m):=by
 subst hn
 unfold ItemsAt at h ⊢
 rw [List.length_take,Nat.min_eq_left hm,icells_take]
 exact owns_takeK h m hm
theorem remove_any (w:World) (p:Hp) (v:Value) (l:List It) (nx k:Nat) (h:HeapAt w p v l nx) (hk:k < l.length) (hl:l.length ≤ 1000000) :
  Calls Tryz.prog 105 #[.pointer (some ⟨p.b,5,none⟩),.int .i64 (k:Int)] w fun r w'=>∃ v',r = .returned (.tuple #[]) ∧ HeapAt w' p v' (remF l k) nx ∧ v'.ownBlock = v.ownBlock ∧ Chg (foot p v) w w':=by
 obtain ⟨h1,h2,h3⟩:=h
 obtain ⟨g,cap,hv,hcap⟩:=h2.form (by omega)
 obtain ⟨n,hn⟩:∃ n,n = l.length:=⟨_,rfl⟩
 rw [← hn] at hv hk hl hcap
 subst hv
 have hgp:g ≠ p.b:=h3 g (by simp [Value.ownBlock])
 obtain ⟨c0,-⟩:=h1 5 _ rfl
 obtain ⟨m,rfl⟩:∃ m,n = m + 1:=⟨n - 1,by omega⟩
 have hsw:Calls Tryz.prog 124 #[.pointer (some ⟨p.b,5,none⟩),.int .i64 (k:Int),.int .i64 (m:Int)] w fun r w'=>r = .returned (.tuple #[]) ∧ HeapAt w' p (.slice (some ⟨g,0,none⟩) (m + 1) cap) (swI l k m) nx ∧ Chg [p.b,g] w w':=swap_any w p _ l nx k m ⟨h1,h2,h3⟩ (by omega) (by omega) (by omega)
 have HN:=Lib.hid hn;clear hn
 have hs0:∀ w',(Instr.slice 56 (.slice (some ⟨g,0,none⟩) (m + 1) cap) none (some (.int .i64 (m:Int))) none).run Tryz.prog w' = .ok (.slice (some ⟨g,0,none⟩) m cap) w':=fun w'=>slice_head w' under_items size_item (some ⟨g,0,none⟩) (m + 1) cap m (by omega)
 change Calls Tryz.prog 105 #[.pointer (some ⟨p.b,5,none⟩),.int .i64 (k:Int)] w fun r w'=>∃ v',r = .returned (.tuple #[]) ∧ HeapAt w' p v' (remF l k) nx ∧ v'.ownBlock = some g ∧ Chg [p.b,g] w w'
 have hstep:∀ w1,HeapAt w1 p (.slice (some ⟨g,0,none⟩) (m + 1) cap) (swI l k m) nx ∧ Chg [p.b,g] w w1 → (HeapAt (w1.setCell ⟨p.b,5,none⟩ (.slice (some ⟨g,0,none⟩) m cap)) p (.slice (some ⟨g,0,none⟩) m cap) ((swI l k m).take m) nx ∧ Chg [p.b,g] w (w1.setCell ⟨p.b,5,none⟩ (.slice (some ⟨g,0,none⟩) m cap))):=fun w1 ⟨k1,k2⟩=>by
  have cs:Chg [p.b] w1 (w1.setCell ⟨p.b,5,none⟩ (.slice (some ⟨g,0,none⟩) m cap)):=(Chg.refl _ _).setCell _ (.inl (by simp))
  refine ⟨⟨k1.1.set 5 _,(k1.2.1.cut (by rw [swI_len];exact HN.out) m (by omega)).chg cs (fun x hx=>by simp [Value.ownBlock] at hx;subst hx;simp;omega),fun x hx=>by simp [Value.ownBlock] at hx;subst hx;exact hgp⟩,k2.trans cs (fun x hx=>.inl (by simp at hx;simp [hx]))⟩
 have hlen:((swI l k m).take m).length = m:=by rw [List.length_take,swI_len,← HN.out];omega
 have hlast:k = m → (swI l k m).take m = remF l k:=fun e=>by
  subst e
  unfold remF
  rw [← HN.out,Nat.add_sub_cancel,if_pos rfl]
  apply List.ext_getElem (by simp [swI_len])
  intro i i1 i2
  have e1:gI ((swI l k k).take k) i = gI (l.take k) i:=by
   rw [gI_take (by simp at i2;omega),gI_take (by simp at i2;omega),gI_sw (by have:=HN.out;omega) (by have:=HN.out;omega)]
   split
   ·subst_vars;rfl
   ·rfl
  rwa [gI_of i1,gI_of i2] at e1
 have hrem:k ≠ m → sinkF (riseF ((swI l k m).take m) k) k = remF l k:=fun e=>by
  unfold remF
  rw [← HN.out,Nat.add_sub_cancel,if_neg e]
 generalize (swI l k m).take m = L at *
 generalize remF l k = R at *
 have HSW:=Lib.hid hsw
 have HSTEP:=Lib.hid hstep
 have HLEN:=Lib.hid hlen
 have HLAST:=Lib.hid hlast
 have HREM:=Lib.hid hrem
 clear h1 h2 h3 hsw hstep hlen hlast hrem hcap
 go_enter Tryz.func105,Tryz.ntmps105
 go_wp2_with fail
 refine HSW.out.mono ?_
 rintro r w1 ⟨rfl,h1⟩
 have H1:=Lib.hid h1
 obtain ⟨c1,f1⟩:=h1.1.1 5 _ rfl
 clear h1 c0
 by_cases hkm:k = m
 ·have hb:((k:Int) == (m:Int)) = true:=by rw [beq_iff_eq];omega
  have h2:=HSTEP.out _ H1.out
  rw [HLAST.out hkm] at h2
  have HE:=Lib.hid h2;clear h2 hkm
  go_wp2
  refine bodyPost_ret (results_none rfl _ _ _) rfl ?_
  exact ⟨_,rfl,HE.out.1,rfl,HE.out.2⟩
 ·have hb:((k:Int) == (m:Int)) = false:=by rw [beq_eq_false_iff_ne];omega
  have hkl:k < m:=by omega
  have H2:=Lib.hid (HSTEP.out _ H1.out)
  go_wp2_with fail
  refine (rise_any _ p _ L nx k H2.out.1 (by rw [HLEN.out];exact hkl) (by rw [HLEN.out];omega)).mono ?_
  rintro r w2 ⟨rfl,k1,k2⟩
  have H3:=Lib.hid k1
  have C3:=Lib.hid (H2.out.2.trans0 k2)
  clear k1 k2
  go_wp2_with fail
  refine (sink_any _ p _ _ nx k H3.out (by rw [riseF_len (by rw [HLEN.out];exact hkl),HLEN.out];exact hkl) (by rw [riseF_len (by rw [HLEN.out];exact hkl),HLEN.out];omega)).mono ?_
  rintro r w3 ⟨rfl,k1,k2⟩
  rw [HREM.out hkm] at k1
  have H4:=Lib.hid k1
  have C4:=Lib.hid (C3.out.trans0 k2)
  clear k1 k2
  go_wp2
  go_end0
  exact ⟨_,rfl,H4.out,rfl,C4.out⟩
theorem three_new (w:World) (x y z:Value) (t:TypeId) {b:Nat} (hb:b = w.heap.size):∀ j u,[x,y,z][j]? = some u → (w.alloc (.cells #[x,y,z] t)).cell? ((⟨b,0,none⟩:Addr).add j) = some u:=fun j u hj=>by
 rw [Addr.add_lit,Nat.zero_add];exact (Blk.mk w [x,y,z] t b hb j u hj).1
theorem hpush_any (w:World) (p:Hp) (v:Value) (l:List It) (nx:Nat) (at_ id:Int) (h:HeapAt w p v l nx) (hl:l.length ≤ 100000) (hnx:nx ≤ 100000) :
  Calls Tryz.prog 165 #[.pointer (some ⟨p.b,5,none⟩),.int .u64 at_,.int .i64 id] w fun r w'=>∃ v',r = .returned (.int .u64 (nx:Int)) ∧ HeapAt w' p v' (pushF l ⟨at_,nx,id⟩) (nx + 1) ∧ Chg (foot p v) w w' ∧ ∀ x ∈ foot p v',x ∈ foot p v ∨ w.heap.size ≤ x:=by
 have hlt:=h.lt
 obtain ⟨h1,h2,h3⟩:=h
 obtain ⟨a0,cap,rfl,hcap⟩:=h2.slice
 obtain ⟨n,hn⟩:∃ n,n = l.length:=⟨_,rfl⟩
 rw [← hn] at h1 h2 h3 hcap hl hlt ⊢
 obtain ⟨c0,f0⟩:=h1 5 _ rfl
 obtain ⟨c1,f1⟩:=h1 6 _ rfl
 have hp:=hlt.1
 have H1:=Lib.hid h1
 have H2:=Lib.hid h2
 have H3:=Lib.hid h3
 have HLT:=Lib.hid hlt
 have HN:=Lib.hid hn
 have hwn:IntKind.u64.wrap ((nx:Int) + 1) = (nx:Int) + 1:=by rw [IntKind.wrap_u64];omega
 obtain ⟨i0,hi0,hz0,hz1,hz2⟩:=info_parts info_item
 have Hi:=Lib.hid hi0;clear hi0
 have Hz0:=Lib.hid hz0;clear hz0
 have Hz1:=Lib.hid hz1;clear hz1
 have Hz2:=Lib.hid hz2;clear hz2
 clear h1 h2 h3 hlt hn
 go_enter Tryz.func165,Tryz.ntmps165
 have hst0:∀ u,ItemsAt (w.setCell ⟨p.b,6,none⟩ u) (.slice a0 n cap) l ∧ Blk (w.setCell ⟨p.b,6,none⟩ u) p.b (p.cs (.slice a0 n cap) u) ∧ Chg [p.b] w (w.setCell ⟨p.b,6,none⟩ u) ∧ (w.setCell ⟨p.b,6,none⟩ u).heap.size = w.heap.size:=fun u=>by
  have cs:Chg [p.b] w (w.setCell ⟨p.b,6,none⟩ u):=(Chg.refl _ _).setCell _ (.inl (by simp))
  exact ⟨H2.out.chg cs (fun x hx=>by have:=H3.out x hx;simp [this]),H1.out.set 6 u,cs,World.size_setCell _ _ _⟩
 have HST0:=Lib.hid (hst0 (.int .u64 ((nx:Int) + 1)))
 clear hst0
 go_upto_region 3 with fail
 generalize w.setCell ⟨p.b,6,none⟩ (.int .u64 ((nx:Int) + 1)) = W at *
 clear c0 f0 c1 f1
 obtain ⟨c0,f0⟩:=HST0.out.2.1 5 _ rfl
 have hW:W.heap.size = w.heap.size:=HST0.out.2.2.2
 have HW:=Lib.hid hW;clear hW
 have hown0:∀ o,(W.alloc o).ownsRow 0 136 3 (.slice a0 n cap) n (icells l):=fun o=>by have h:=HST0.out.1.below (below_alloc1 W o);unfold ItemsAt at h;rw [← HN.out] at h;exact h
 have HOWN:=Lib.hid hown0;clear hown0
 go_wp2_with (at_builtin;go_loud (refine wpList_append_lies _ rfl _ _ 56 rfl 0 136 i0 _ 3 24 Tryz.underlying56 Hi.out Hz0.out Hz1.out Hz2.out rfl (by decide) _ n (icells l) rfl (HOWN.out _) ⟨W.heap.size,0,none⟩ 1 1 [.int .u64 at_,.int .u64 (nx:Int),.int .i64 id] rfl rfl (three_new _ _ _ _ _ rfl) (by simp [Value.oneCell']) (by omega) (by unfold maxLen;omega) (by omega) (Nat.zero_le _) (W.heap.size + 1) (by simp) ?_))
 intro g c2 w1 hown hgr hat hlt
 have hgp:g ≠ p.b:=by
  rcases hat with h | h
  ·exact H3.out g (by rw [h];simp)
  ·have:=HW.out;omega
 have hpb:p.b ∉ (Value.slice a0 n cap).ownBlock.toList:=fun hx=>H3.out p.b hx rfl
 have hc1:Chg ((Value.slice a0 n cap).ownBlock.toList) W w1:=(Chg.of_below (below_alloc1 _ _)).trans (grownBy_chg hgr) (fun x hx=>.inl hx)
 have hB1:=HST0.out.2.1.chg hc1 hpb
 obtain ⟨c1,f1⟩:=hB1 5 _ rfl
 have hfin:HeapAt (w1.setCell ⟨p.b,5,none⟩ (.slice (some ⟨g,0,none⟩) (n + 1) c2)) p (.slice (some ⟨g,0,none⟩) (n + 1) c2) (l ++ [⟨at_,nx,id⟩]) (nx + 1) ∧ Chg (foot p (.slice a0 n cap)) w (w1.setCell ⟨p.b,5,none⟩ (.slice (some ⟨g,0,none⟩) (n + 1) c2)) ∧ (g ∈ foot p (.slice a0 n cap) ∨ w.heap.size ≤ g):=by
  have cs:Chg [p.b] w1 (w1.setCell ⟨p.b,5,none⟩ (.slice (some ⟨g,0,none⟩) (n + 1) c2)):=(Chg.refl _ _).setCell _ (.inl (by simp))
  have hI:ItemsAt w1 (.slice (some ⟨g,0,none⟩) (n + 1) c2) (l ++ [⟨at_,nx,id⟩]):=by
   unfold ItemsAt
   rw [List.length_append,← HN.out,icells_app];exact hown
  refine ⟨⟨hB1.set 5 _,hI.chg cs (fun x hx=>by simp [Value.ownBlock] at hx;subst hx;simp [hgp]),fun x hx=>by simp [Value.ownBlock] at hx;subst hx;exact hgp⟩,
   ((HST0.out.2.2.1.mono (fun x hx=>by simp at hx;simp [hx])).trans (hc1.mono (fun x hx=>by simp [foot];right;simpa using hx)) (fun x hx=>.inl hx)).trans (cs.mono (fun x hx=>by simp at hx;simp [foot,hx])) (fun x hx=>.inl hx),?_⟩
  rcases hat with h | h
  ·left;simp [foot,h]
  ·right;have:=HW.out;omega
 have HFIN:=Lib.hid hfin
 clear hfin hB1 hc1 hown hgr hat hlt hgp hpb
 have hlen:(l ++ [(⟨at_,nx,id⟩:It)]).length = n + 1:=by rw [List.length_append,← HN.out];rfl
 have HLEN:=Lib.hid hlen;clear hlen
 go_wp2_with fail
 have hc:=rise_any _ p _ _ (nx + 1) n HFIN.out.1 (by rw [HLEN.out];omega) (by rw [HLEN.out];omega)
 rw [show riseF (l ++ [⟨at_,(nx:Int),id⟩]) n = pushF l ⟨at_,nx,id⟩ by unfold pushF;rw [HN.out]] at hc
 refine hc.mono ?_
 rintro r w2 ⟨rfl,k1,k2⟩
 have hend:HeapAt w2 p (.slice (some ⟨g,0,none⟩) (n + 1) c2) (pushF l ⟨at_,nx,id⟩) (nx + 1) ∧ Chg (foot p (.slice a0 n cap)) w w2 ∧ ∀ x ∈ foot p (.slice (some ⟨g,0,none⟩) (n + 1) c2),x ∈ foot p (.slice a0 n cap) ∨ w.heap.size ≤ x:=by
  refine ⟨k1,HFIN.out.2.1.trans k2 (fun x hx=>?_),fun x hx=>?_⟩
  all_goals
   simp only [foot,Value.ownBlock,Option.toList,List.mem_cons,List.not_mem_nil,or_false] at hx
   rcases hx with rfl | rfl
   ·left;simp [foot]
   ·exact HFIN.out.2.2
 have HEND:=Lib.hid hend
 clear hend k1 k2 hc
 go_wp2
 go_ret
 exact ⟨_,rfl,HEND.out⟩
theorem hmin_none (w:World) (p:Hp) (v:Value) (nx:Nat) (h:HeapAt w p v [] nx) :
  Calls Tryz.prog 104 #[.pointer (some ⟨p.b,5,none⟩)] w fun r w'=>r = .returned (.tuple #[itv ⟨0,0,0⟩,.bool false]) ∧ Below w.heap.size w w':=by
 obtain ⟨h1,h2,h3⟩:=h
 obtain ⟨a0,cap,rfl,hcap⟩:=h2.slice
 obtain ⟨c0,-⟩:=h1 5 _ rfl
 have c0':w.cell? ⟨p.b,5,none⟩ = some (.slice a0 0 cap):=c0
 have hp:=h1.lt (by simp [Hp.cs])
 clear h1 h2 h3 c0
 unfold itv
 have hend:∀ v0 v1 v2 o,Below w.heap.size w ((((w.alloc o).setCell ⟨w.heap.size,0,none⟩ v0).setCell ⟨w.heap.size,1,none⟩ v1).setCell ⟨w.heap.size,2,none⟩ v2):=fun v0 v1 v2 o =>
  (((below_alloc1 w o).setCell (p:=⟨w.heap.size,0,none⟩) (Nat.le_refl _) v0).setCell (p:=⟨w.heap.size,1,none⟩) (Nat.le_refl _) v1).setCell (p:=⟨w.heap.size,2,none⟩) (Nat.le_refl _) v2
 have HE:=Lib.hid hend;clear hend
 go_enter Tryz.func104,Tryz.ntmps104
 go_wp2
 exact bodyPost_ret (v:=.tuple #[.agg #[.int .u64 0,.int .u64 0,.int .i64 0],.bool false]) (by simp [results,Tryz.results104,go_sem]) rfl ⟨rfl,by first | exact HE.out _ _ _ _ | exact below_alloc1 _ _⟩
theorem hmin_any (w:World) (p:Hp) (v:Value) (l:List It) (nx:Nat) (h:HeapAt w p v l nx) (hl:0 < l.length) :
  Calls Tryz.prog 104 #[.pointer (some ⟨p.b,5,none⟩)] w fun r w'=>r = .returned (.tuple #[itv (gI l 0),.bool true]) ∧ Below w.heap.size w w':=by
 obtain ⟨h1,h2,h3⟩:=h
 have hlt:=h2.lt
 obtain ⟨g,cap,rfl,hcap⟩:=h2.form hl
 have hg:g < w.heap.size:=hlt g (by simp [Value.ownBlock])
 obtain ⟨c0,-⟩:=h1 5 _ rfl
 obtain ⟨c1,c2,c3⟩:=h2.cell 0 hl
 have hp:=h1.lt (by simp [Hp.cs])
 obtain ⟨n,hn⟩:∃ n,n = l.length:=⟨_,rfl⟩
 rw [← hn] at c0 hl
 have hb0:((n:Int) == 0) = false:=by rw [beq_eq_false_iff_ne];omega
 have hn0:(0:Int) < (n:Int):=by omega
 clear h1 h2 h3 hlt hn hcap
 generalize gI l 0 = x at *
 obtain ⟨xa,xs,xi⟩:=x
 unfold itv
 simp only [Nat.zero_mul,Nat.zero_add] at c1 c2 c3 ⊢
 go_enter Tryz.func104,Tryz.ntmps104
 go_wp2
 exact bodyPost_ret (v:=.tuple #[.agg #[.int .u64 xa,.int .u64 xs,.int .i64 xi],.bool true]) (by simp [results,Tryz.results104,go_sem]) rfl ⟨rfl,below_alloc1 _ _⟩
def wakeF:Nat → List It → Int → List It × List It
 | 0,l,_=>([],l)
 | f + 1,l,now=>if 0 < l.length ∧ (gI l 0).at_ ≤ now then (gI l 0 :: (wakeF f (remF l 0) now).1,(wakeF f (remF l 0) now).2) else ([],l)
def wakes (l:List It) (now:Int):List It × List It:=wakeF l.length l now
theorem wakes_go {l:List It} {now:Int} (h:0 < l.length) (h2:(gI l 0).at_ ≤ now):wakes l now = (gI l 0 :: (wakes (remF l 0) now).1,(wakes (remF l 0) now).2):=by
 unfold wakes
 rw [remF_len h]
 obtain ⟨n,hn⟩:∃ n,l.length = n + 1:=⟨l.length - 1,by omega⟩
 rw [hn,wakeF,if_pos ⟨h,h2⟩,Nat.add_sub_cancel]
theorem wakes_stop {l:List It} {now:Int} (h:¬ (0 < l.length ∧ (gI l 0).at_ ≤ now)):wakes l now = ([],l):=by
 unfold wakes
 cases hn:l.length with
 | zero=>rw [wakeF]
 | succ n=>rw [wakeF,if_neg h]
def lenV:Value → Nat
 | .slice _ n _=>n
 | _=>0
def itc (x:It):List Value:=[.int .u64 x.at_,.int .u64 x.seq,.int .i64 x.id]
def WakeSt (w:World) (p:Hp) (v:Value) (nx:Nat) (T:List It × List It) (now:Int) (N:Nat) (W:World) (v5:Value) (b:Nat) (pre l':List It) (v':Value) (x:It):Prop :=
 (pre ++ (wakes l' now).1,(wakes l' now).2) = T ∧ pre.length + l'.length = N ∧ HeapAt W p v' l' nx ∧ v'.ownBlock = v.ownBlock ∧ Chg (foot p v) w W ∧ ItemsAt W v5 pre ∧ (∀ y ∈ v5.ownBlock.toList,w.heap.size ≤ y ∧ y ≠ b) ∧ Blk W b (itc x) ∧ w.heap.size ≤ b ∧ (0 < l'.length → x = gI l' 0)
theorem foot_lt {w:World} {p:Hp} {v:Value} {l:List It} {nx:Nat} (h:HeapAt w p v l nx):∀ x ∈ foot p v,x < w.heap.size:=fun x hx=>by
 simp only [foot,List.mem_cons] at hx
 rcases hx with rfl | hx
 ·exact h.lt.1
 ·exact h.lt.2 x hx
theorem foot_eq {p:Hp} {v v':Value} (h:v'.ownBlock = v.ownBlock):foot p v' = foot p v:=by simp only [foot,h]
def Woke (w:World) (p:Hp) (v:Value) (nx:Nat) (T:List It × List It) (r:Ending) (w':World):Prop :=
 ∃ v5 v',r = .returned v5 ∧ ItemsAt w' v5 T.1 ∧ (∀ y ∈ v5.ownBlock.toList,w.heap.size ≤ y) ∧ HeapAt w' p v' T.2 nx ∧ v'.ownBlock = v.ownBlock ∧ Chg (foot p v) w w'
theorem wake_any (w:World) (p:Hp) (v:Value) (l:List It) (nx:Nat) (now:Int) (h:HeapAt w p v l nx) (hl:l.length ≤ 100000) :
  Calls Tryz.prog 87 #[.pointer (some ⟨p.b,5,none⟩),.int .u64 now] w (Woke w p v nx (wakes l now)):=by
 have hft:=foot_lt h
 have HFT:=Lib.hid hft;clear hft
 obtain ⟨T,hT⟩:∃ T,T = wakes l now:=⟨_,rfl⟩
 rw [← hT]
 have HT:=Lib.hid hT;clear hT
 have hmin:∀ W v' l',HeapAt W p v' l' nx → Calls Tryz.prog 104 #[.pointer (some ⟨p.b,5,none⟩)] W fun r w'=>∃ x ok,r = .returned (.tuple #[itv x,.bool ok]) ∧ (ok = true ↔ 0 < l'.length) ∧ (0 < l'.length → x = gI l' 0) ∧ Below W.heap.size W w':=fun W v' l' h'=>by
  by_cases h0:0 < l'.length
  ·exact (hmin_any W p v' l' nx h' h0).mono fun r w' ⟨e1,e2⟩=>⟨_,_,e1,by simp [h0],fun _=>rfl,e2⟩
  ·have:l' = []:=List.length_eq_zero_iff.1 (by omega)
   subst this
   exact (hmin_none W p v' nx h').mono fun r w' ⟨e1,e2⟩=>⟨_,_,e1,by simp,fun h=>by simp at h,e2⟩
 have HMIN:=Lib.hid hmin;clear hmin
 have H:=Lib.hid h;clear h
 have HL:=Lib.hid hl;clear hl
 obtain ⟨i0,hi0,hz0,hz1,hz2⟩:=info_parts info_item
 have Hi:=Lib.hid hi0;clear hi0
 have Hz0:=Lib.hid hz0;clear hz0
 have Hz1:=Lib.hid hz1;clear hz1
 have Hz2:=Lib.hid hz2;clear hz2
 go_enter Tryz.func87,Tryz.ntmps87
 go_wp2_with fail
 refine (HMIN.out w v l H.out).mono ?_
 rintro r w1 ⟨x,ok,rfl,e1,e2,b1⟩
 have hst:WakeSt w p v nx T now l.length (w1.alloc (.cells (itc x).toArray 136)) (.slice none 0 0) w1.heap.size [] l v x :=
  have b2:=below_on b1 (below_alloc1 w1 (.cells (itc x).toArray 136))
  ⟨by rw [HT.out];rfl,by simp,H.out.below b2,rfl,Chg.of_below b2,ItemsAt.nil _,fun y hy=>by simp [Value.ownBlock] at hy,Blk.mk _ _ _ _ rfl,b1.size,e2⟩
 have HST:=Lib.hid hst
 have E1:=Lib.hid e1
 clear hst e1 e2 b1
 obtain ⟨xa,xs,xi⟩:=x
 unfold itv
 unfold itc at HST
 go_wp2_with fail
 go_loopw [5,6,7] (fun t5 t6 t7 wr=>∃ b a5 n5 c5 pre l' v' xa xs xi ok,t5 = .slice a5 n5 c5 ∧ t6 = .pointer (some ⟨b,0,none⟩) ∧ t7 = .bool ok ∧ n5 ≤ l.length ∧ Hid ((ok = true ↔ 0 < l'.length) ∧ n5 = pre.length ∧ WakeSt w p v nx T now l.length wr (.slice a5 n5 c5) b pre l' v' ⟨xa,xs,xi⟩)) (fun t5 _ _ _=>l.length - lenV t5)
 case atStart=>exact ⟨_,_,_,_,[],l,v,xa,xs,xi,ok,rfl,rfl,rfl,by omega,E1.out,rfl,HST.out⟩
 case round =>
  obtain ⟨b,a5,n5,c5,pre,l',v',xa,xs,xi,ok,rfl,rfl,rfl,hn5,hr⟩:=hrel
  obtain ⟨hok,hn5',S⟩:=hr.out
  obtain ⟨s1,s2,s3,s4,s5,s6,s7,s8,s9,s10⟩:=S
  have hexit:¬ (0 < l'.length ∧ (gI l' 0).at_ ≤ now) → Woke w p v nx T (.returned (.slice a5 n5 c5)) wr:=fun h=>by
   rw [wakes_stop h] at s1
   rw [← s1]
   exact ⟨_,v',rfl,by simpa using s6,fun y hy=>(s7 y hy).1,s3,s4,s5⟩
  have HEXIT:=Lib.hid hexit;clear hexit
  cases ok with
  | false =>
   have hE:=HEXIT.out (fun h=>by have:=hok.2 h.1;cases this)
   have HE:=Lib.hid hE
   clear hE hok s1 s2 s3 s4 s5 s6 s7 s8 s9 s10 hn5' hr
   go_wp2
   go_ret
   exact HE.out
  | true =>
   have h0:0 < l'.length:=hok.1 rfl
   have hx:=s10 h0
   obtain ⟨g0,-⟩:=s8 0 _ rfl
   obtain ⟨g1,-⟩:=s8 1 _ rfl
   obtain ⟨g2,-⟩:=s8 2 _ rfl
   simp only at g0 g1 g2
   by_cases hat:xa ≤ now
   ·have hgo:=wakes_go h0 (by rw [← hx];exact hat)
    have hown0:∀ o,(wr.alloc o).ownsRow 0 136 3 (.slice a5 n5 c5) n5 (icells pre):=fun o=>by have h:=s6.below (below_alloc1 wr o);unfold ItemsAt at h;rw [← hn5'] at h;exact h
    have HOWN:=Lib.hid hown0
    have HS:Hid (WakeSt w p v nx T now l.length wr (.slice a5 n5 c5) b pre l' v' ⟨xa,xs,xi⟩):=hr.out.2.2
    have HN5:=Lib.hid hn5'
    have HGO:=Lib.hid hgo
    have HX:=Lib.hid hx
    have H0:=Lib.hid h0
    have hn5b:n5 ≤ 100000:=by have:=HL.out;omega
    clear s1 s2 s3 s4 s5 s6 s7 s8 s9 s10 hok hn5' hgo hx hr hown0 h0 HEXIT
    go_wp2_with (at_builtin;go_loud (refine wpList_append_lies _ rfl _ _ 56 rfl 0 136 i0 _ 3 24 Tryz.underlying56 Hi.out Hz0.out Hz1.out Hz2.out rfl (by decide) _ n5 (icells pre) rfl (HOWN.out _) ⟨wr.heap.size,0,none⟩ 1 1 [.int .u64 xa,.int .u64 xs,.int .i64 xi] rfl rfl (three_new _ _ _ _ _ rfl) (by simp [Value.oneCell']) (by omega) (by unfold maxLen;omega) (by omega) (Nat.zero_le _) (wr.heap.size + 1) (by simp) ?_))
    intro g c2 w2 hown hgr hlies hglt
    obtain ⟨s1,s2,s3,s4,s5,s6,s7,s8,s9,s10⟩:=HS.out
    have hc1:Chg ((Value.slice a5 n5 c5).ownBlock.toList) wr w2:=(Chg.of_below (below_alloc1 _ _)).trans (grownBy_chg hgr) (fun x hx=>.inl hx)
    have hfl:∀ y ∈ foot p v',y < w.heap.size:=by rw [foot_eq s4];exact HFT.out
    have hH2:HeapAt w2 p v' l' nx:=s3.chg hc1 (fun hp=>by have:=(s7 p.b hp).1;have:=hfl p.b (by simp [foot]);omega) (fun y hy hy2=>by have:=(s7 y hy2).1;have:=hfl y (by simp only [foot,List.mem_cons];exact .inr hy);omega)
    have hB2:Blk w2 b (itc ⟨xa,xs,xi⟩):=s8.chg hc1 (fun hb=>(s7 b hb).2 rfl)
    have hI2:ItemsAt w2 (.slice (some ⟨g,0,none⟩) (n5 + 1) c2) (pre ++ [⟨xa,xs,xi⟩]):=by
     unfold ItemsAt
     rw [List.length_append,← HN5.out,icells_app];exact hown
    have hgw:w.heap.size ≤ g:=by
     rcases hlies with h | h
     ·exact (s7 g (by rw [h];simp)).1
     ·have:=s5.size;omega
    have hsz2:w.heap.size ≤ w2.heap.size:=Nat.le_trans s5.size hc1.size
    have hC2:Chg (foot p v) w w2:=s5.trans hc1 (fun y hy=>.inr (s7 y hy).1)
    have hbw:b < w2.heap.size:=hB2.lt (by simp [itc])
    have hrem:=remove_any w2 p v' l' nx 0 hH2 H0.out (by have:=HL.out;omega)
    rw [foot_eq s4] at hrem
    have HREM:=Lib.hid hrem
    have HI2:=Lib.hid hI2
    have HB2:=Lib.hid hB2
    have HC2:=Lib.hid hC2
    have HG:Hid (w.heap.size ≤ g ∧ w.heap.size ≤ b ∧ b < w2.heap.size ∧ g < w2.heap.size ∧ w.heap.size ≤ w2.heap.size):=⟨hgw,s9,hbw,hglt,hsz2⟩
    have HT2:Hid (v'.ownBlock = v.ownBlock ∧ pre.length + l'.length = l.length ∧ (pre ++ (wakes l' now).1,(wakes l' now).2) = T):=⟨s4,s2,s1⟩
    clear s1 s2 s3 s4 s5 s6 s7 s8 s9 s10 hc1 hfl hH2 hB2 hI2 hgw hC2 hrem hown hgr hlies hglt hbw hsz2 HOWN g0 g1 g2
    go_wp2_with fail
    refine HREM.out.mono ?_
    rintro r w3 ⟨v3,rfl,k1,k2,k3⟩
    have hB3:Blk w3 b (itc ⟨xa,xs,xi⟩):=HB2.out.chg k3 (fun hb=>by have:=HFT.out b hb;have:=HG.out.2.1;omega)
    have hI3:=HI2.out.chg k3 (fun y hy hy2=>by simp [Value.ownBlock] at hy;subst hy;have:=HFT.out y hy2;have:=HG.out.1;omega)
    obtain ⟨g0,-⟩:=hB3 0 _ rfl
    obtain ⟨g1,-⟩:=hB3 1 _ rfl
    obtain ⟨g2,-⟩:=hB3 2 _ rfl
    simp only at g0 g1 g2
    have hsz3:=k3.size
    have HB3:=Lib.hid hB3
    have HI3:=Lib.hid hI3
    have H3:=Lib.hid k1
    have HV3:=Lib.hid (k2.trans HT2.out.1)
    have HC3:=Lib.hid (HC2.out.trans0 k3)
    clear hB3 hI3 k1 k2 k3
    go_wp2_with fail
    obtain ⟨b',hb'⟩:∃ b',b' = w3.heap.size:=⟨_,rfl⟩
    have hNB:=Blk.mk w3 [.int .u64 xa,.int .u64 xs,.int .i64 xi] 136 b' hb'
    have hbel4:=below_alloc1 w3 (.cells #[.int .u64 xa,.int .u64 xs,.int .i64 xi] 136)
    refine (HMIN.out _ v3 _ (H3.out.below hbel4)).mono ?_
    rintro r w4 ⟨y,ok',rfl,e1,e2,b4⟩
    obtain ⟨ya,ys,yi⟩:=y
    unfold itv
    have hbx:w.heap.size ≤ b' ∧ g ≠ b':=⟨by have:=HG.out;omega,by have:=HG.out;omega⟩
    have hfoot:∀ y ∈ foot p v3,y ∉ [b']:=fun y hy hc=>by rw [foot_eq HV3.out] at hy;have:=HFT.out y hy;simp at hc;omega
    have hb34:=below_on hbel4 b4
    have hst:WakeSt w p v nx T now l.length (((w4.setCell ⟨b',0,none⟩ (.int .u64 ya)).setCell ⟨b',1,none⟩ (.int .u64 ys)).setCell ⟨b',2,none⟩ (.int .i64 yi)) (.slice (some ⟨g,0,none⟩) (n5 + 1) c2) b' (pre ++ [⟨xa,xs,xi⟩]) (remF l' 0) v3 ⟨ya,ys,yi⟩:=by
     have cs:Chg [b'] w4 (((w4.setCell ⟨b',0,none⟩ (.int .u64 ya)).setCell ⟨b',1,none⟩ (.int .u64 ys)).setCell ⟨b',2,none⟩ (.int .i64 yi)):=(((Chg.refl _ _).setCell _ (.inl (by simp))).setCell _ (.inl (by simp))).setCell _ (.inl (by simp))
     refine ⟨?_,?_,((H3.out.below hb34).chg cs (fun hp=>hfoot p.b (by simp [foot]) hp) (fun y hy=>hfoot y (by simp only [foot,List.mem_cons];exact .inr hy))),HV3.out,(HC3.out.trans0 (Chg.of_below hb34)).trans cs (fun y hy=>.inr (by simp at hy;omega)),(HI3.out.below hb34).chg cs (fun y hy=>by simp [Value.ownBlock] at hy;subst hy;simp;exact hbx.2),fun y hy=>?_,(((hNB.below b4).set 0 _).set 1 _).set 2 _,hbx.1,e2⟩
     ·rw [← HT2.out.2.2,HGO.out,← HX.out];simp
     ·have:=remF_len H0.out;have:=HT2.out.2.1;have:=H0.out;rw [List.length_append,List.length_singleton];omega
     ·simp [Value.ownBlock] at hy;subst hy;exact ⟨HG.out.1,hbx.2⟩
    obtain ⟨j0,m0⟩:=(hNB.below b4) 0 _ rfl
    obtain ⟨j1,m1⟩:=(hNB.below b4) 1 _ rfl
    obtain ⟨j2,m2⟩:=(hNB.below b4) 2 _ rfl
    have HST':=Lib.hid hst
    have hn6:n5 + 1 = (pre ++ [(⟨xa,xs,xi⟩:It)]).length:=by rw [List.length_append,← HN5.out];rfl
    have hn7:n5 + 1 ≤ l.length:=by have:=HT2.out.2.1;have:=H0.out;have:=HN5.out;omega
    have HF:Hid ((ok' = true ↔ 0 < (remF l' 0).length) ∧ n5 + 1 = (pre ++ [(⟨xa,xs,xi⟩:It)]).length ∧ WakeSt w p v nx T now l.length (((w4.setCell ⟨b',0,none⟩ (.int .u64 ya)).setCell ⟨b',1,none⟩ (.int .u64 ys)).setCell ⟨b',2,none⟩ (.int .i64 yi)) (.slice (some ⟨g,0,none⟩) (n5 + 1) c2) b' (pre ++ [⟨xa,xs,xi⟩]) (remF l' 0) v3 ⟨ya,ys,yi⟩):=⟨e1,hn6,HST'.out⟩
    rw [← hb']
    clear hst hb34 hfoot hbx b4 e1 e2 hNB hbel4 hb' hn6 hsz3 g0 g1 g2 HST'
    go_wp2
    exact ⟨⟨b',_,_,_,_,_,v3,ya,ys,yi,ok',rfl,rfl,rfl,hn7,HF⟩,by simp [lenV];omega⟩
   ·have hE:=HEXIT.out (fun h=>by rw [← hx] at h;exact hat h.2)
    have HE:=Lib.hid hE
    have hng:¬ xa ≤ now:=hat
    clear hE hok s1 s2 s3 s4 s5 s6 s7 s8 s9 s10 hn5' hr hx h0 hat
    go_wp2
    go_ret
    exact HE.out
def MapAt (w:World) (r:Nat) (es:List MapEntry) (c:Nat):Prop:=w.heap[r]? = some (.map es.toArray c)
theorem MapAt.lt {w:World} {r c:Nat} {es:List MapEntry} (h:MapAt w r es c):r < w.heap.size:=(Array.getElem?_eq_some_iff.1 h).1
theorem run_mapUpdate_new {P:Program} {w:World} {mty kt et:TypeId} {r c:Nat} {n:Int} {val:Value} {es:List MapEntry} (hm:P.underlying mty = some (.map kt et)) (hk:P.underlying kt = some (.int .i64)) (hb:MapAt w r es c)
  (hf:Instr.findNow (.int .i64) (.int .i64 n) es 0 = some none) :
  (Instr.mapUpdate mty (.map (some r)) (.int .i64 n) val).run P w = .ok () { w with heap:=w.heap.setIfInBounds r (.map (es ++ [(⟨.int .i64 n,val,c⟩:MapEntry)]).toArray (c + 1)) }:=by
 have hc:(Instr.checkKey false 10000 kt (.int .i64 n)).run P w = .ok () w:=MapKept.run_checkKey (k:=.int .i64 n) hk (by simp [MapKept.IsKey]) false 9999
 have hb':w.heap[r]? = some (.map es.toArray c):=hb
 simp [Instr.mapUpdate,run_underlying hm,MapKept.run_getObj_map hb',hc,MapKept.run_findKey hk hf,MapKept.run_setObj_map _ hb',Result.andThen]
theorem wpList_insert_new {P:Program} {w:World} {ops:Array Oper} {rest:List Oper} {o:Oper} {a:Act} {Q:Exit → Act → World → Prop}
  (hg:o.guard = none) (m x v:Operand) (t:TypeId) (hop:o.op = Op.insert t m x v) {kt et:TypeId} {r c:Nat} (n:Int) (val:Value) (es:List MapEntry) (hm:P.underlying t = some (.map kt et)) (hk:P.underlying kt = some (.int .i64))
  (he:a.eval m = .map (some r)) (hx:a.eval x = .int .i64 n) (hv:a.eval v = val) (hb:MapAt w r es c) (hf:Instr.findNow (.int .i64) (.int .i64 n) es 0 = some none)
  (hK:∀ w',MapAt w' r (es ++ [(⟨.int .i64 n,val,c⟩:MapEntry)]) (c + 1) → Chg [r] w w' → wpList P ops Q rest (a.put o.dst undef) w'):wpList P ops Q (o :: rest) a w:=by
 refine wpList_plain hg fun K' hK'=>?_
 have hrun:=run_mapUpdate_new (P:=P) (w:=w) (n:=n) (val:=val) hm hk hb hf
 unfold Oper.wp
 simp [execOp,hop,he,hx,hv,hrun,Result.andThen]
 refine hK' _ _ (by
  have h:=hK { w with heap:=w.heap.setIfInBounds r (.map (es ++ [(⟨.int .i64 n,val,c⟩:MapEntry)]).toArray (c + 1)) } ?_ ?_
  ·simpa using h
  ·unfold MapAt;simp [hb.lt]
  ·refine ⟨rfl,rfl,rfl,by simp,fun k hk hn=>?_⟩
   simp [Array.getElem?_setIfInBounds]
   intro e;subst e;simp at hn)
def fnv (k:Nat):Value:=.func (.func k) #[] #[]
def tableEs:List MapEntry:=[⟨.int .i64 0,fnv 148,0⟩,⟨.int .i64 1,fnv 149,1⟩,⟨.int .i64 2,fnv 150,2⟩,⟨.int .i64 3,fnv 151,3⟩,
 ⟨.int .i64 4,fnv 152,4⟩,⟨.int .i64 5,fnv 153,5⟩,⟨.int .i64 6,fnv 154,6⟩,⟨.int .i64 7,fnv 155,7⟩,⟨.int .i64 8,fnv 156,8⟩]
theorem alone_any (w:World):Calls Tryz.prog 131 #[] w fun e w'=>e = .returned (.map (some w.heap.size)) ∧ MapAt w' w.heap.size tableEs 9 ∧ Below w.heap.size w w':=by
 have hmm:∀ (w:World),(Instr.makeMap 221 none).run Tryz.prog w = .ok (.map (some w.heap.size)) (w.alloc (.map #[] 0)):=fun w=>run_makeMap_plain w _
 have h0:MapAt (w.alloc (.map #[] 0)) w.heap.size [] 0:=heap_alloc_new w _
 have b0:Below w.heap.size w (w.alloc (.map #[] 0)):=below_alloc1 _ _
 have st:∀ w1 w2:World,Below w.heap.size w w1 → Chg [w.heap.size] w1 w2 → Below w.heap.size w w2:=fun _ _ h c=>Chg.below h c (fun x hx=>by simp at hx;omega)
 have ST:=Lib.hid st
 clear st
 go_enter Tryz.func131,Tryz.ntmps131
 go_wp2_with (refine wpList_insert_new rfl _ _ _ 221 rfl _ _ _ Tryz.underlying221 Tryz.underlying32 (by rfl) (by rfl) (by rfl) (by assumption) (by rfl) ?_;intro w1 h1 c1;have b1:=ST.out _ _ (by assumption) c1;clear c1)
 go_ret
 exact ⟨rfl,h1,b1⟩
def newF (fn arg into:Int):List Int:=[fn,0,arg,0,0,0,0,0,0,0,into]
structure StkAt (w:World) (g n cap:Nat) (z:List Int):Prop where
 len:z.length = n * 11
 room:n ≤ cap
 lt:g < w.heap.size
 blk:Blk w g (intc z)
theorem StkAt.chg {F:List Nat} {w w':World} {g n cap:Nat} {z:List Int} (h:StkAt w g n cap z) (c:Chg F w w') (hg:g ∉ F):StkAt w' g n cap z :=
 ⟨h.len,h.room,Nat.lt_of_lt_of_le h.lt c.size,h.blk.chg c hg⟩
theorem StkAt.below {w w':World} {g n cap:Nat} {z:List Int} (h:StkAt w g n cap z) (hb:Below w.heap.size w w'):StkAt w' g n cap z:=h.chg (Chg.of_below (F:=[]) hb) (by simp)
theorem StkAt.cell {w:World} {g n cap:Nat} {z:List Int} (h:StkAt w g n cap z) (j:Nat) (hj:j < n * 11):∃ x,z[j]? = some x ∧ w.cell? ⟨g,j,none⟩ = some (.int .i64 x) ∧ w.frozen? ⟨g,j,none⟩ = false:=by
 have hl:j < z.length:=by rw [h.len];exact hj
 obtain ⟨h1,h2⟩:=h.blk j _ (intc_at z j hl)
 exact ⟨z[j],List.getElem?_eq_getElem hl,h1,h2⟩
theorem StkAt.at {w:World} {g n cap:Nat} {z:List Int} (h:StkAt w g n cap z) {j:Nat} {x:Int} (hj:z[j]? = some x):w.cell? ⟨g,j,none⟩ = some (.int .i64 x) ∧ w.frozen? ⟨g,j,none⟩ = false :=
 h.blk j _ (by rw [intc_get,hj];rfl)
theorem StkAt.set {w:World} {g n cap:Nat} {z:List Int} (h:StkAt w g n cap z) (k:Nat) (x:Int):StkAt (w.setCell ⟨g,k,none⟩ (.int .i64 x)) g n cap (z.set k x) :=
 ⟨by rw [List.length_set];exact h.len,h.room,by rw [World.size_setCell];exact h.lt,by
  have:=h.blk.set k (.int .i64 x)
  have e:intc (z.set k x) = (intc z).set k (.int .i64 x):=by unfold intc;rw [List.map_set]
  rw [e];exact this⟩
theorem StkAt.take {w:World} {g n cap:Nat} {z:List Int} (h:StkAt w g n cap z) (m:Nat) (hm:m ≤ n):StkAt w g m cap (z.take (m * 11)) :=
 ⟨by rw [List.length_take,h.len];omega,by have:=h.room;omega,h.lt,fun j v hj=>by
  rw [intc_get,List.getElem?_take] at hj
  split at hj
  ·exact h.blk j v (by rw [intc_get];exact hj)
  ·simp at hj⟩
theorem StkAt.of_own {w:World} {base n g cap:Nat} {e:TypeId} {z:List Int} (h:w.ownsRow base e 11 (.slice (some ⟨g,0,none⟩) n cap) n (intc z)):StkAt w g n cap z:=by
 have hl:z.length = n * 11:=by have:=h.1;rw [intc_len] at this;exact this
 rcases h.2 with ⟨hv,_⟩ | ⟨g',cap',cur,hv,hb,hg,h1,h2,h3,h4⟩
 ·simp at hv
 ·simp only [Value.slice.injEq,Option.some.injEq,Addr.mk.injEq,and_true,true_and] at hv
  obtain ⟨rfl,rfl⟩:=hv
  refine ⟨hl,h1,(Array.getElem?_eq_some_iff.1 hg).1,fun j v hj=>?_⟩
  have hj':cur[j]? = some v:=by
   rw [← h4,List.getElem?_take] at hj
   split at hj
   ·simpa using hj
   ·simp at hj
  constructor
  ·rw [cell_of_row _ _ _ _ _ _ hg];exact hj'
  ·simp [World.frozen?,hg]
def newV (fn arg into:Int):Value:=.agg #[.int .i64 fn,.int .i64 0,.int .i64 arg,.int .i64 0,.int .i64 0,.int .i64 0,.int .i64 0,.int .i64 0,.int .i64 0,.int .i64 0,.int .i64 into]
theorem first_any (fn arg into:Int) (w:World):Calls Tryz.prog 75 #[.int .i64 fn,.int .i64 arg,.int .i64 into] w fun e w'=>e = .returned (.agg #[.int .i64 fn,.int .i64 0,.int .i64 arg,.int .i64 0,.int .i64 0,.int .i64 0,.int .i64 0,.int .i64 0,.int .i64 0,.int .i64 0,.int .i64 into]) ∧ Below w.heap.size w w':=by
 go_enter Tryz.func75,Tryz.ntmps75
 go_wp2_with fail
 exact bodyPost_ret (v:=newV fn arg into) (by simp [results,Tryz.results75,go_sem,newV]) rfl ⟨rfl,below_alloc1 _ _⟩
theorem begin_any (fn arg:Int) (w:World):Calls Tryz.prog 62 #[.int .i64 fn,.int .i64 arg] w fun e w'=>∃ g,e = .returned (.slice (some ⟨g,0,none⟩) 1 1) ∧ w.heap.size ≤ g ∧ StkAt w' g 1 1 (newF fn arg 0) ∧ Below w.heap.size w w':=by
 go_enter Tryz.func62,Tryz.ntmps62
 go_wp2_with (go_at_call 75;refine (first_any _ _ _ _).mono ?_;rintro e w1 ⟨rfl,hb1⟩)
 go_ret
 exact ⟨w1.heap.size,rfl,hb1.size,⟨rfl,Nat.le_refl _,by simp,Blk.mk w1 (intc (newF fn arg 0)) _ _ rfl⟩,below_on hb1 (below_alloc1 _ _)⟩
theorem top_any (g m cap:Nat) (w:World) (hm:m ≤ 1000):Calls Tryz.prog 113 #[.slice (some ⟨g,0,none⟩) (m + 1) cap] w fun e w'=>e = .returned (.pointer (some ⟨g,m * 11,none⟩)) ∧ w' = w:=by
 go_enter Tryz.func113,Tryz.ntmps113
 go_wp2_with fail
 go_ret
 exact ⟨rfl,rfl⟩
theorem top_two (g m cap:Nat) (w:World) (hm:m ≤ 1000):Calls Tryz.prog 113 #[.slice (some ⟨g,0,none⟩) (m + 2) cap] w fun e w'=>e = .returned (.pointer (some ⟨g,(m + 1) * 11,none⟩)) ∧ w' = w:=by
 have h2:((m:Int) + 2 - 1).toNat = m + 1:=by omega
 go_enter Tryz.func113,Tryz.ntmps113
 go_wp2_with fail
 go_ret
 exact ⟨rfl,rfl⟩
theorem info_frame:(Tryz.prog.info? 168).map (fun i=>(i.zero,i.size,i.bytes)) = some (some (.agg #[.int .i64 0,.int .i64 0,.int .i64 0,.int .i64 0,.int .i64 0,.int .i64 0,.int .i64 0,.int .i64 0,.int .i64 0,.int .i64 0,.int .i64 0]),11,88):=by kernel_rfl
theorem own_form {w:World} {base size n:Nat} {e:TypeId} {v:Value} {xs:List Value} (h:w.ownsRow base e size v n xs) (hn:0 < n):∃ g cap,v = .slice (some ⟨g,0,none⟩) n cap:=by
 rcases h.2 with ⟨_,h0⟩ | ⟨g,cap,cur,hv,_⟩
 ·omega
 ·exact ⟨g,cap,hv⟩
theorem append_stk {w:World} {g n c0 cap m c:Nat} {z z2:List Int} (h:StkAt w g n cap z) (ad:Addr) (hl:z2.length = m * 11) (hc:∀ j u,(intc z2)[j]? = some u → w.cell? (ad.add j) = some u) (hg:c0 < n + m) (hm:n + m ≤ 1000) :
  ∃ g' cap' w',(Builtin.append_ #[113,113] 113 #[.slice (some ⟨g,0,none⟩) n c0,.slice (some ad) m c]).run Tryz.prog w = .ok (.slice (some ⟨g',0,none⟩) (n + m) cap') w' ∧ StkAt w' g' (n + m) cap' (z ++ z2) ∧ w.heap.size ≤ g' ∧ Below w.heap.size w w':=by
 obtain ⟨i0,hi0,hz0,hz1,hz2⟩:=info_parts info_frame
 obtain ⟨v',w',hr,h1,h2⟩:=run_append_arg_grows (P:=Tryz.prog) w 113 113 168 i0 _ 11 88 Tryz.underlying113 hi0 hz0 hz1 hz2 rfl (by decide) ⟨g,0,none⟩ n c0 (intc z) (by rw [intc_len,h.len]) (fun j u hj=>by rw [Addr.add_lit,Nat.zero_add];exact (h.blk j u hj).1) ad m c (intc z2) (by rw [intc_len,hl]) hc hg (by unfold maxLen;omega) (by omega)
 obtain ⟨g',cap',rfl⟩:=own_form h1 (by omega)
 rw [← intc_app] at h1
 refine ⟨g',cap',w',hr,.of_own h1,?_,(grownBy_chg h2).to_below (by simp) (Nat.le_refl _)⟩
 rcases h1.2 with ⟨hv,_⟩ | ⟨g2,cp,cur,hv,hb,_⟩
 ·simp at hv
 ·simp only [Value.slice.injEq,Option.some.injEq,Addr.mk.injEq] at hv
  omega
theorem step_append_stk {w:World} {ops:Array Oper} {o:Oper} {ac:Act} {K:Act → World → Prop} {Q:Exit → Act → World → Prop} {E:Prop} (hgd:o.guard = none) (sl x:Operand) (hty:o.type = 113)
  (ho:o.op = .call { callee:=.builtin .append,args:=#[sl,x],argTypes:=#[113,113] }) {g n c0 cap m c:Nat} {z z2:List Int} (ad:Addr) (hs:ac.eval sl = .slice (some ⟨g,0,none⟩) n c0) (hx:ac.eval x = .slice (some ad) m c)
  (ha:StkAt w g n cap z) (hl:z2.length = m * 11) (hc:∀ j u,(intc z2)[j]? = some u → w.cell? (ad.add j) = some u) (hg:c0 < n + m) (hm:n + m ≤ 1000)
  (h:∀ g' cap' w',StkAt w' g' (n + m) cap' (z ++ z2) → w.heap.size ≤ g' → Below w.heap.size w w' → K (ac.put o.dst (.slice (some ⟨g',0,none⟩) (n + m) cap')) w'):if Region.wanted o (yielded ops ac.tmps) = true then Oper.wp Tryz.prog o ac w K Q else E:=by
 have hw:Region.wanted o (yielded ops ac.tmps) = true:=by simp [Region.wanted,hgd]
 rw [if_pos hw]
 obtain ⟨g',cap',w',hr,h2,h3,h4⟩:=append_stk (w:=w) (c:=c) ha ad hl hc hg hm
 unfold Oper.wp execOp
 simp only [ho,resolve,invoke,builtin,Sem.run_bind,Sem.run_pure,Result.andThen_ok,List.map_toArray,List.map_cons,List.map_nil,hs,hx,hty,hr]
 exact h g' cap' w' h2 h3 h4
theorem wpList_append_stk {w:World} {ops:Array Oper} {rest:List Oper} {o:Oper} {a:Act} {Q:Exit → Act → World → Prop} (hgd:o.guard = none) (sl x:Operand) (hty:o.type = 113)
  (ho:o.op = .call { callee:=.builtin .append,args:=#[sl,x],argTypes:=#[113,113] }) {g n c0 cap m c:Nat} {z z2:List Int} (ad:Addr) (hs:a.eval sl = .slice (some ⟨g,0,none⟩) n c0) (hx:a.eval x = .slice (some ad) m c)
  (ha:StkAt w g n cap z) (hl:z2.length = m * 11) (hc:∀ j u,(intc z2)[j]? = some u → w.cell? (ad.add j) = some u) (hg:c0 < n + m) (hm:n + m ≤ 1000)
  (h:∀ g' cap' w',StkAt w' g' (n + m) cap' (z ++ z2) → w.heap.size ≤ g' → Below w.heap.size w w' → wpList Tryz.prog ops Q rest (a.put o.dst (.slice (some ⟨g',0,none⟩) (n + m) cap')) w'):wpList Tryz.prog ops Q (o :: rest) a w:=by
 refine wpList_plain hgd fun K hK=>?_
 obtain ⟨g',cap',w',hr,h2,h3,h4⟩:=append_stk (w:=w) (c:=c) ha ad hl hc hg hm
 unfold Oper.wp execOp
 simp only [ho,resolve,invoke,builtin,Sem.run_bind,Sem.run_pure,Result.andThen_ok,List.map_toArray,List.map_cons,List.map_nil,hs,hx,hty,hr]
 exact hK _ _ (h g' cap' w' h2 h3 h4)
theorem sclone_any (g n cap:Nat) (z:List Int) (w:World) (h:StkAt w g n cap z) (h1:1 ≤ n) (h2:n ≤ 1000):Calls Tryz.prog 177 #[.slice (some ⟨g,0,none⟩) n cap] w fun e w'=>∃ g' cap',e = .returned (.slice (some ⟨g',0,none⟩) n cap') ∧ w.heap.size ≤ g' ∧ StkAt w' g' n cap' z ∧ Below w.heap.size w w':=by
 have he:∀ w:World,(binOp .eql 113 (.slice (some ⟨g,0,none⟩) n cap) (.slice none 0 0)).run Tryz.prog w = .ok (.bool false) w:=fun _=>rfl
 have h0:StkAt (w.alloc (.cells #[] 168)) w.heap.size 0 0 []:=⟨rfl,Nat.le_refl _,by simp,fun j v hj=>by simp [intc] at hj⟩
 have hc:∀ j u,(intc z)[j]? = some u → (w.alloc (.cells #[] 168)).cell? ((⟨g,0,none⟩:Addr).add j) = some u:=fun j u hj=>by rw [Addr.add_lit,Nat.zero_add];exact cell_below (h.blk j u hj).1 (below_alloc1 _ _)
 have H0:=Lib.hid h0
 have HC:=Lib.hid hc
 have H:=Lib.hid h
 clear h h0 hc
 go_enter Tryz.func177,Tryz.ntmps177
 go_wp2_with (at_builtin;go_loud (refine wpList_append_stk rfl _ _ rfl rfl (z:=[]) (z2:=z) _ rfl rfl H0.out H.out.len HC.out (by omega) (by omega) ?_);intro g1 c1 w1 k1 k2 k3)
 go_ret
 exact ⟨g1,c1,by simp,Nat.le_trans (by simp) k2,by simpa using k1,below_on (below_alloc1 _ _) k3⟩
theorem stkclone_any (g n cap:Nat) (z:List Int) (w:World) (h:StkAt w g n cap z) (h1:1 ≤ n) (h2:n ≤ 1000):Calls Tryz.prog 169 #[.slice (some ⟨g,0,none⟩) n cap] w fun e w'=>∃ g' cap',e = .returned (.slice (some ⟨g',0,none⟩) n cap') ∧ w.heap.size ≤ g' ∧ StkAt w' g' n cap' z ∧ Below w.heap.size w w':=by
 go_enter Tryz.func169,Tryz.ntmps169
 go_wp2_with (go_at_call 177;refine (sclone_any _ _ _ _ _ h h1 h2).mono ?_;rintro e w1 ⟨g',cap',rfl,hg,hs,hb⟩)
 go_ret
 exact ⟨g',cap',rfl,hg,hs,hb⟩
theorem call_any (g n cap:Nat) (z:List Int) (fn arg into:Int) (w:World) (h:StkAt w g n cap z) (h1:1 ≤ n) (h2:n ≤ 15):Calls Tryz.prog 157 #[.slice (some ⟨g,0,none⟩) n cap,.int .i64 fn,.int .i64 arg,.int .i64 into] w fun e w'=>∃ g' cap',e = .returned (.tuple #[.slice (some ⟨g',0,none⟩) (n + 1) cap',.bool true]) ∧ w.heap.size ≤ g' ∧ StkAt w' g' (n + 1) cap' (z ++ newF fn arg into) ∧ Below w.heap.size w w':=by
 have hroom:=h.room
 have H:=Lib.hid h
 have HB:=Lib.hid (Below.refl w.heap.size w)
 clear h
 go_enter Tryz.func157,Tryz.ntmps157
 go_upto_region 3 with fail
 go_region_held3 (fun w'=>Below w.heap.size w w') (first | exact below_drew1 _ | assumption | (refine below_on ?_ (below_alloc1 _ _);assumption) | (refine below_on ?_ ‹_›;assumption))
  (first
   | (refine step_append_stk (by rfl) _ _ (by rfl) (by rfl) (z:=z) (z2:=newF fn arg into) _ (by rfl) (by rfl) (H.out.below (by assumption)) (by rfl) (fun j u hj=>by rw [Addr.add_lit,Nat.zero_add];exact (Blk.mk _ (intc (newF fn arg into)) _ _ rfl j u hj).1) (by omega) (by omega) ?_;intro g1 c1 w1 k1 k2 k3)
   | (go_at_call 75;refine (first_any _ _ _ _).mono ?_;rintro e w1 ⟨rfl,hb1⟩))
 go_wp2_with fail
 go_ret2
 exact ⟨g1,c1,rfl,by have:=hb1.size;simp at k2 this;omega,k1,by assumption⟩
theorem call_deep (g cap:Nat) (z:List Int) (fn arg into:Int) (w:World) (h:StkAt w g 16 cap z):Calls Tryz.prog 157 #[.slice (some ⟨g,0,none⟩) 16 cap,.int .i64 fn,.int .i64 arg,.int .i64 into] w fun e w'=>∃ g' cap',e = .returned (.tuple #[.slice (some ⟨g',0,none⟩) 16 cap',.bool false]) ∧ Below w.heap.size w w':=by
 have H:=Lib.hid h
 clear h
 go_enter Tryz.func157,Tryz.ntmps157
 go_wp2_with (go_at_call 169;refine (stkclone_any _ _ _ _ _ H.out (by omega) (by omega)).mono ?_;rintro e w1 ⟨g',cap',rfl,hg,hs,hb⟩)
 go_ret2
 exact ⟨g',cap',rfl,hb⟩
theorem return_none (g cap:Nat) (v:Int) (w:World):Calls Tryz.prog 158 #[.slice (some ⟨g,0,none⟩) 1 cap,.int .i64 v] w fun e w'=>e = .returned (.tuple #[.slice none 0 0,.bool false]) ∧ w = w':=by
 go_enter Tryz.func158,Tryz.ntmps158
 go_wp2_with fail
 go_ret2
 exact ⟨rfl,rfl⟩
theorem return_any (g m cap:Nat) (z:List Int) (v:Int) (k:Nat) (w:World) (h:StkAt w g (m + 2) cap z) (h2:m ≤ 14) (hk:z[m * 11 + 21]? = some (k:Int)) (hk8:k < 8) :
  Calls Tryz.prog 158 #[.slice (some ⟨g,0,none⟩) (m + 2) cap,.int .i64 v] w fun e w'=>∃ g' cap',e = .returned (.tuple #[.slice (some ⟨g',0,none⟩) (m + 1) cap',.bool true]) ∧ w.heap.size ≤ g' ∧ StkAt w' g' (m + 1) cap' ((z.take ((m + 1) * 11)).set (m * 11 + 2 + k) v) ∧ Below w.heap.size w w':=by
 have hroom:=h.room
 have H:=Lib.hid h
 have HK:=Lib.hid hk
 clear h hk
 go_enter Tryz.func158,Tryz.ntmps158
 go_wp2_with (go_at_call 169;refine (stkclone_any _ _ _ _ _ (H.out.take (m + 1) (by omega)) (by omega) (by omega)).mono ?_;rintro e w1 ⟨g',cap',rfl,hg,hs,hb⟩)
 obtain ⟨g0,-⟩:=(H.out.below hb).at HK.out
 have g0':w1.cell? ⟨g,(m + 1) * 11 + 10,none⟩ = some (.int .i64 (k:Int)):=by rw [show (m + 1) * 11 + 10 = m * 11 + 21 by omega];exact g0
 obtain ⟨x,hx,y0,y1⟩:=hs.cell (m * 11 + 2 + k) (by omega)
 have k0:(0:Int) ≤ (k:Int):=by omega
 have k8:(k:Int) < 8:=by omega
 have HS:=Lib.hid hs
 have HB:=Lib.hid hb
 have HG:=Lib.hid hg
 clear g0 hs hb hg hx
 refine wp_region_still_tail 11 (by kernel_rfl) (by kernel_rfl) ?_
 simp only [List.take_succ_cons,List.take_zero,List.drop_succ_cons,List.drop_zero]
 still_step
 still_call (top_any g' m cap' _ (by omega))
 still_step
 still_call (top_two g m cap _ (by omega))
 repeat still_step
 refine wpStill_nil ?_
 go_wp2_with fail
 go_ret2
 exact ⟨g',cap',rfl,HG.out,(HS.out.below (below_drew1 _)).set _ _,HB.out.drew.setCell HG.out _⟩
def LockAt (w:World) (p:Nat) (L:List Int) (F:List Nat):Prop :=
 ∃ a cap,F = p :: blk a ∧ p ∉ blk a ∧ Blk w p [.bool (!L.isEmpty),.int .i64 (L.headD 0),.slice a L.tail.length cap] ∧ RowAt w a cap L.tail
theorem LockAt.chg {w w':World} {p:Nat} {L:List Int} {F G:List Nat} (h:LockAt w p L F) (c:Chg G w w') (hd:∀ x ∈ F,x ∉ G):LockAt w' p L F:=by
 obtain ⟨a,cap,rfl,h2,h3,h4⟩:=h
 exact ⟨a,cap,rfl,h2,h3.chg c (hd p (by simp)),h4.chg c (fun x hx=>hd x (by simp [hx]))⟩
theorem LockAt.lt {w:World} {p:Nat} {L:List Int} {F:List Nat} (h:LockAt w p L F):∀ x ∈ F,x < w.heap.size:=by
 obtain ⟨a,cap,rfl,h2,h3,h4⟩:=h
 intro x hx
 simp at hx
 rcases hx with rfl | hx
 ·exact h3.lt (by simp)
 ·exact h4.lt x hx
def LockA (p:Nat) (L:List Int):Asr where
 at_ w F:=LockAt w p L F
 lt:=fun h=>h.lt
 chg:=fun h c d=>h.chg c d
theorem knew_any (w:World):Calls Tryz.prog 47 #[] w fun r w'=>∃ p,r = .returned (.pointer (some ⟨p,0,none⟩)) ∧ LockAt w' p [] [p] ∧ w.heap.size ≤ p ∧ Below w.heap.size w w':=by
 have hf:LockAt (w.alloc (.cells #[.bool false,.int .i64 0,.slice none 0 0] 150)) w.heap.size [] [w.heap.size] ∧ w.heap.size ≤ w.heap.size ∧ Below w.heap.size w (w.alloc (.cells #[.bool false,.int .i64 0,.slice none 0 0] 150)) :=
  ⟨⟨none,0,rfl,by simp [blk],Blk.mk w [.bool false,.int .i64 0,.slice none 0 0] _ _ rfl,RowAt.nil _⟩,Nat.le_refl _,below_alloc1 _ _⟩
 have HF:=Lib.hid hf;clear hf
 go_enter Tryz.func47,Tryz.ntmps47
 go_wp2
 go_ret
 exact ⟨_,rfl,HF.out⟩
theorem ktake_any (w:World) (p:Nat) (L:List Int) (F:List Nat) (g:Int) (h:LockAt w p L F) (hl:L.length ≤ 1000000) :
  Calls Tryz.prog 166 #[.pointer (some ⟨p,0,none⟩),.int .i64 g] w fun r w'=>r = .returned (.bool L.isEmpty) ∧ ∃ F',LockAt w' p (L ++ [g]) F' ∧ Chg F w w' ∧ ∀ x ∈ F',x ∈ F ∨ w.heap.size ≤ x:=by
 have hFlt:=h.lt
 obtain ⟨a,cap,rfl,h2,h3,h4⟩:=h
 cases L with
 | nil =>
  obtain ⟨g0,f0⟩:=h3 0 _ rfl
  obtain ⟨g1,f1⟩:=h3 1 _ rfl
  simp only [List.isEmpty_nil,Bool.not_true,List.headD_nil,List.tail_nil,List.length_nil] at g0 g1 h3 h4 ⊢
  have c:Chg [p] w ((w.setCell ⟨p,0,none⟩ (.bool true)).setCell ⟨p,1,none⟩ (.int .i64 g)):=((Chg.refl _ _).setCell _ (.inl (by simp))).setCell _ (.inl (by simp))
  have hf:∃ F',LockAt ((w.setCell ⟨p,0,none⟩ (.bool true)).setCell ⟨p,1,none⟩ (.int .i64 g)) p ([] ++ [g]) F' ∧ Chg (p :: blk a) w ((w.setCell ⟨p,0,none⟩ (.bool true)).setCell ⟨p,1,none⟩ (.int .i64 g)) ∧ ∀ x ∈ F',x ∈ p :: blk a ∨ w.heap.size ≤ x :=
   ⟨p :: blk a,⟨a,cap,rfl,h2,(h3.set 0 _).set 1 _,h4.chg c (fun x hx=>by simp;intro e;subst e;exact h2 hx)⟩,c.mono (fun x hx=>by simp at hx;simp [hx]),fun x hx=>.inl hx⟩
  have HF:=Lib.hid hf;clear hf c h2 h3 h4 hFlt
  go_enter Tryz.func166,Tryz.ntmps166
  go_wp2
  go_ret
  exact ⟨rfl,HF.out⟩
 | cons x t =>
  obtain ⟨g0,f0⟩:=h3 0 _ rfl
  obtain ⟨g2,f2⟩:=h3 2 _ rfl
  simp only [List.isEmpty_cons,Bool.not_false,List.headD_cons,List.tail_cons,List.length_cons] at g0 g2 h3 h4 hl ⊢
  obtain ⟨i0,hi0,hz0,hz1,hz2⟩:=info_parts info_int
  have Hi:=Lib.hid hi0;clear hi0
  have Hz0:=Lib.hid hz0;clear hz0
  have Hz1:=Lib.hid hz1;clear hz1
  have Hz2:=Lib.hid hz2;clear hz2
  have H2:=Lib.hid h2
  have H3:=Lib.hid h3
  have H4:=Lib.hid h4
  have HL:=Lib.hid hFlt
  clear h2 h3 h4 hFlt
  go_enter Tryz.func166,Tryz.ntmps166
  go_wp2_with (at_builtin;refine wpList_append_row (l:=t) (m:=[g]) rfl _ _ 38 rfl 3 i0 _ Tryz.underlying38 Hi.out Hz0.out Hz1.out Hz2.out rfl rfl rfl rfl rfl (H4.out.below (below_alloc1 _ _)) (RowAt.one _ _ _ rfl).ints (by simp only [List.length_singleton];omega) ?_)
  intro a1 c1 w1 k1 ch1 f1
  have hb:=(H3.out.below (below_alloc1 w (.cells #[.int .i64 g] 3))).chg ch1 H2.out
  obtain ⟨g3,f3⟩:=hb 2 _ rfl
  have hp1:p ∉ blk a1:=fun hx=>by
   rcases f1 p hx with h | h
   ·exact H2.out h
   ·have:=HL.out p (by simp);first | omega | (simp at h;omega)
  have cs:Chg [p] w1 (w1.setCell ⟨p,2,none⟩ (.slice a1 (t.length + 1) c1)):=(Chg.refl _ _).setCell _ (.inl (by simp))
  have hf:∃ F',LockAt (w1.setCell ⟨p,2,none⟩ (.slice a1 (t.length + 1) c1)) p (x :: t ++ [g]) F' ∧ Chg (p :: blk a) w (w1.setCell ⟨p,2,none⟩ (.slice a1 (t.length + 1) c1)) ∧ ∀ x ∈ F',x ∈ p :: blk a ∨ w.heap.size ≤ x:=by
   refine ⟨p :: blk a1,⟨a1,c1,rfl,hp1,?_,k1.chg cs (fun x hx=>by simp;intro e;subst e;exact hp1 hx)⟩,?_,fun y hy=>?_⟩
   ·simp only [List.cons_append,List.isEmpty_cons,Bool.not_false,List.headD_cons,List.tail_cons,List.length_append,List.length_singleton]
    exact hb.set 2 _
   ·exact ((Chg.of_below (F:=p :: blk a) (below_alloc1 w (.cells #[.int .i64 g] 3))).trans ch1 (fun y hy=>.inl (by simp [hy]))).trans cs (fun y hy=>.inl (by simp at hy;simp [hy]))
   ·simp at hy
    rcases hy with rfl | hy
    ·simp
    ·rcases f1 y hy with h | h
     ·simp [h]
     ·exact .inr (by first | omega | (simp at h;omega))
  have HF:=Lib.hid hf
  clear hf cs hp1 hb k1 ch1 f1
  go_wp2
  go_ret
  exact ⟨rfl,HF.out⟩
def gaveL (L:List Int) (g:Int):List Int:=match L with
 | []=>[]
 | x :: t=>if x = g then t else x :: t
def gaveR (L:List Int) (g:Int):Int × Int:=match L with
 | []=>(-1,5)
 | x :: t=>if x = g then (t.headD (-1),0) else (-1,5)
theorem kgive_any (w:World) (p:Nat) (L:List Int) (F:List Nat) (g:Int) (h:LockAt w p L F) :
  Calls Tryz.prog 167 #[.pointer (some ⟨p,0,none⟩),.int .i64 g] w fun r w'=>r = .returned (.tuple #[.int .i64 (gaveR L g).1,.int .i64 (gaveR L g).2]) ∧ ∃ F',LockAt w' p (gaveL L g) F' ∧ Chg F w w' ∧ ∀ x ∈ F',x ∈ F ∨ w.heap.size ≤ x:=by
 have h0:=h
 obtain ⟨a,cap,rfl,h2,h3,h4⟩:=h
 cases L with
 | nil =>
  obtain ⟨g0,f0⟩:=h3 0 _ rfl
  simp only [List.isEmpty_nil,Bool.not_true] at g0
  unfold gaveR gaveL
  have H0:=Lib.hid h0
  clear h0 h2 h3 h4
  go_enter Tryz.func167,Tryz.ntmps167
  go_wp2
  go_ret2
  exact ⟨rfl,_,H0.out,Chg.refl _ _,fun x hx=>.inl hx⟩
 | cons x t =>
  obtain ⟨g0,f0⟩:=h3 0 _ rfl
  obtain ⟨g1,f1⟩:=h3 1 _ rfl
  obtain ⟨g2,f2⟩:=h3 2 _ rfl
  simp only [List.isEmpty_cons,Bool.not_false,List.headD_cons,List.tail_cons] at g0 g1 g2 h3 h4
  unfold gaveR gaveL
  by_cases hx:x = g
  ·subst hx
   simp only [if_true]
   cases t with
   | nil =>
    have c:Chg [p] w ((w.setCell ⟨p,0,none⟩ (.bool false)).setCell ⟨p,1,none⟩ (.int .i64 0)):=((Chg.refl _ _).setCell _ (.inl (by simp))).setCell _ (.inl (by simp))
    have hf:∃ F',LockAt ((w.setCell ⟨p,0,none⟩ (.bool false)).setCell ⟨p,1,none⟩ (.int .i64 0)) p [] F' ∧ Chg (p :: blk a) w ((w.setCell ⟨p,0,none⟩ (.bool false)).setCell ⟨p,1,none⟩ (.int .i64 0)) ∧ ∀ x ∈ F',x ∈ p :: blk a ∨ w.heap.size ≤ x :=
     ⟨p :: blk a,⟨a,cap,rfl,h2,(h3.set 0 _).set 1 _,h4.chg c (fun x hx=>by simp;intro e;subst e;exact h2 hx)⟩,c.mono (fun x hx=>by simp at hx;simp [hx]),fun x hx=>.inl hx⟩
    have HF:=Lib.hid hf;clear hf c h0 h2 h3 h4
    simp only [List.length_nil] at g2
    go_enter Tryz.func167,Tryz.ntmps167
    go_wp2
    go_ret2
    exact ⟨rfl,HF.out⟩
   | cons y t =>
    obtain ⟨b,off,rfl,e1⟩:=h4.ints 0 (by simp)
    simp only [List.getElem_cons_zero,Nat.add_zero] at e1
    obtain ⟨a',hsl,hrow,hbl⟩:=slice_from under_ints size_int h4 1 (by simp)
    have hpb:p ≠ b:=fun e=>h2 (by simp [blk,e])
    have c:Chg [p] w ((w.setCell ⟨p,1,none⟩ (.int .i64 y)).setCell ⟨p,2,none⟩ (.slice a' (t.length + 1 - 1) (cap - 1))):=((Chg.refl _ _).setCell _ (.inl (by simp))).setCell _ (.inl (by simp))
    have hf:∀ wf,Chg [] ((w.setCell ⟨p,1,none⟩ (.int .i64 y)).setCell ⟨p,2,none⟩ (.slice a' (t.length + 1 - 1) (cap - 1))) wf → ∃ F',LockAt wf p (y :: t) F' ∧ Chg (p :: blk (some ⟨b,off,none⟩)) w wf ∧ ∀ x ∈ F',x ∈ p :: blk (some ⟨b,off,none⟩) ∨ w.heap.size ≤ x:=fun wf cf=>by
     have c2:=c.trans cf (fun x hx=>by simp at hx)
     refine ⟨p :: blk a',⟨a',cap - 1,rfl,by rw [hbl];exact h2,?_,hrow.chg c2 (fun x hx=>by rw [hbl] at hx;simp;intro e;subst e;exact h2 hx)⟩,c2.mono (fun x hx=>by simp at hx;simp [hx]),fun x hx=>.inl (by rw [hbl] at hx;exact hx)⟩
     exact ((h3.set 1 _).set 2 _).chg cf (by simp)
    have HF:=Lib.hid hf;clear hf c h0 h2 h3 h4 hrow hbl
    simp only [List.length_cons] at g2 hsl
    have hsl2:∀ w,(Instr.slice 38 (.slice (some ⟨b,off,none⟩) (t.length + 1) cap) (some (.int .i64 1)) none none).run Tryz.prog w = .ok (.slice a' (t.length + 1 - 1) (cap - 1)) w:=hsl
    clear hsl
    go_enter Tryz.func167,Tryz.ntmps167
    go_wp2_with fail
    go_region
    all_goals
     go_wp2
     go_ret2
     exact ⟨rfl,HF.out _ (Chg.of_below (below_drew1 _))⟩
  ·simp only [if_neg hx]
   have hne:(x == g) = false:=by simpa using hx
   have hne2:(x != g) = true:=by simp [hx]
   have H0:=Lib.hid h0
   have HX:=Lib.hid hx
   clear h0 h2 h3 h4 hx
   go_enter Tryz.func167,Tryz.ntmps167
   go_wp2
   go_ret2
   exact ⟨rfl,_,H0.out,Chg.refl _ _,fun x hx=>.inl hx⟩
theorem o_ktake {w0 w:World} {As:List Asr} {p:Nat} {L:List Int} (h:Own w0 w (LockA p L :: As)) (g:Int) (hl:L.length ≤ 1000000) :
  Calls Tryz.prog 166 #[.pointer (some ⟨p,0,none⟩),.int .i64 g] w fun r w'=>r = .returned (.bool L.isEmpty) ∧ Own w0 w' (LockA p (L ++ [g]) :: As) :=
 Own.call1 (A:=LockA p L) (A':=LockA p (L ++ [g])) (ret:=fun r=>r = .returned (.bool L.isEmpty)) h (fun F hF=>ktake_any w p L F g hF hl)
theorem o_kgive {w0 w:World} {As:List Asr} {p:Nat} {L:List Int} (h:Own w0 w (LockA p L :: As)) (g:Int) :
  Calls Tryz.prog 167 #[.pointer (some ⟨p,0,none⟩),.int .i64 g] w fun r w'=>r = .returned (.tuple #[.int .i64 (gaveR L g).1,.int .i64 (gaveR L g).2]) ∧ Own w0 w' (LockA p (gaveL L g) :: As) :=
 Own.call1 (A:=LockA p L) (A':=LockA p (gaveL L g)) (ret:=fun r=>r = .returned (.tuple #[.int .i64 (gaveR L g).1,.int .i64 (gaveR L g).2])) h (fun F hF=>kgive_any w p L F g hF)
theorem hasG_any (a:Option Addr) (l c:Nat) (i:Int) (w:World):Calls Tryz.prog 98 #[.slice a l c,.int .i64 i] w fun r w'=>r = .returned (.bool (decide (0 ≤ i ∧ i < (l:Int)))) ∧ w' = w:=by
 go_enter Tryz.func98,Tryz.ntmps98
 by_cases h0:0 ≤ i
 ·by_cases h1:i < (l:Int)
  ·have e:decide (0 ≤ i ∧ i < (l:Int)) = true:=decide_eq_true ⟨h0,h1⟩
   have e1:decide (i < (l:Int)) = true:=decide_eq_true h1
   go_wp2
   go_ret
   exact ⟨by simp [h0,h1],rfl⟩
  ·have e:decide (0 ≤ i ∧ i < (l:Int)) = false:=decide_eq_false (by omega)
   have e1:decide (i < (l:Int)) = false:=decide_eq_false h1
   go_wp2
   go_ret
   exact ⟨by simp [h0,h1],rfl⟩
 ·have e:decide (0 ≤ i ∧ i < (l:Int)) = false:=decide_eq_false (by omega)
  go_wp2
  go_ret
  exact ⟨by simp [h0],rfl⟩
theorem hasI_any (a:Option Addr) (l c:Nat) (i:Int) (w:World):Calls Tryz.prog 114 #[.slice a l c,.int .i64 i] w fun r w'=>r = .returned (.bool (decide (0 ≤ i ∧ i < (l:Int)))) ∧ w' = w:=by
 go_enter Tryz.func114,Tryz.ntmps114
 by_cases h0:0 ≤ i
 ·by_cases h1:i < (l:Int)
  ·have e:decide (0 ≤ i ∧ i < (l:Int)) = true:=decide_eq_true ⟨h0,h1⟩
   have e1:decide (i < (l:Int)) = true:=decide_eq_true h1
   go_wp2
   go_ret
   exact ⟨by simp [h0,h1],rfl⟩
  ·have e:decide (0 ≤ i ∧ i < (l:Int)) = false:=decide_eq_false (by omega)
   have e1:decide (i < (l:Int)) = false:=decide_eq_false h1
   go_wp2
   go_ret
   exact ⟨by simp [h0,h1],rfl⟩
 ·have e:decide (0 ≤ i ∧ i < (l:Int)) = false:=decide_eq_false (by omega)
  go_wp2
  go_ret
  exact ⟨by simp [h0],rfl⟩
def belowZ (n d:Int):Int:=if (if d < 0 then 0 else d) < n - 1 then (if d < 0 then 0 else d) else n - 1
theorem below_any (n d:Int) (hn:1 ≤ n ∧ n < 9223372036854775808) (w:World):Calls Tryz.prog 115 #[.int .i64 n,.int .i64 d] w fun r w'=>r = .returned (.int .i64 (belowZ n d)) ∧ w' = w:=by
 have hw:IntKind.i64.wrap (n - 1) = n - 1:=by rw [IntKind.wrap_i64];omega
 go_enter Tryz.func115,Tryz.ntmps115
 unfold belowZ
 go_wp2
 all_goals
  go_ret
  exact ⟨by simp <;> (repeat' split) <;> omega,rfl⟩
theorem chRow {w0 w:World} {ps:List Pl} {Cs:List Ch} {R:List Asr} {la:Option Addr} {lc n:Nat} (h:Own w0 w (chs ps Cs ++ RowGA 1 la lc n (ptrs ps) :: R)):RowG 1 w la lc n (ptrs ps) :=
 h.rowG (chs ps Cs).length (by rw [List.getElem?_append_right (Nat.le_refl _),Nat.sub_self];rfl)
theorem chPtr {w0 w:World} {ps:List Pl} {Cs:List Ch} {R:List Asr} {la:Option Addr} {lc n:Nat} (h:Own w0 w (chs ps Cs ++ RowGA 1 la lc n (ptrs ps) :: R)) {i:Nat} {p:Pl} (hp:ps[i]? = some p):∃ b off,la = some ⟨b,off,none⟩ ∧ w.cell? ⟨b,off + i,none⟩ = some (.pointer (some ⟨p.1,0,none⟩)):=(chRow h).cells i _ (ptrs_at ps i p hp)
theorem goes_any {w0 w:World} {ps:List Pl} {Cs:List Ch} {R:List Asr} {la:Option Addr} {lc n:Nat} (h:Own w0 w (chs ps Cs ++ RowGA 1 la lc n (ptrs ps) :: R)) (hn:n = ps.length) (hl:ps.length = Cs.length) (k1 k2 k3:Int) (hk:(k1 = 0 ∨ k1 = 1 ∨ k1 = 2) ∧ 0 ≤ k2 ∧ (k1 ≠ 2 → k2 < n)) :
  Calls Tryz.prog 130 #[.agg #[.int .i64 k1,.int .i64 k2,.int .i64 k3],.slice la n lc] w fun r w'=>r = .returned (.bool (goesB ps Cs (k1,k2,k3))) ∧ Below w.heap.size w w':=by
 obtain ⟨h0,h1,h2⟩:=hk
 obtain ⟨i,rfl⟩:∃ i:Nat,k2 = (i:Int):=⟨k2.toNat,by omega⟩
 by_cases h3:k1 = 2
 ·subst h3
  have e:goesB ps Cs (2,(i:Int),k3) = false:=by unfold goesB;split <;> simp
  rw [e]
  clear e h
  go_enter Tryz.func130,Tryz.ntmps130
  go_wp2
  go_ret
  exact ⟨rfl,by first | exact Below.refl _ _ | exact below_alloc1 _ _⟩
 ·have hin:i < ps.length:=by have:=h2 h3;omega
  have hp:ps[i]? = some ps[i]:=List.getElem?_eq_getElem hin
  have hC:Cs[i]? = some (Cs[i]'(by omega)):=List.getElem?_eq_getElem (by omega)
  generalize ps[i] = p at hp
  generalize Cs[i]'(by omega) = C at hC
  obtain ⟨b,off,rfl,g⟩:=chPtr h hp
  obtain ⟨R',hR,-⟩:=h.chPick hp hC
  have hin':(i:Int) < (n:Int):=by omega
  have G:=Lib.hid g
  have gb:=World.block_lt_of_cell? _ _ g
  have hrl:=fun (w':World) (hb:Below w.heap.size w w')=>ccanr_any (hR.step hb)
  have hsl:=fun (w':World) (hb:Below w.heap.size w w')=>ccans_any (hR.step hb)
  have HRL:=Lib.hid hrl
  have HSL:=Lib.hid hsl
  have e:goesB ps Cs (k1,(i:Int),k3) = if k1 = 0 then canR C else if k1 = 1 then canS p.2 C else false:=by unfold goesB;simp [hp,hC]
  rw [e]
  clear e hrl hsl hp hC h hR
  rcases (by omega:k1 = 0 ∨ k1 = 1) with rfl | rfl
  ·simp only [if_true]
   clear h0 h2 h3
   go_enter Tryz.func130,Tryz.ntmps130
   go_wp2_with fail
   refine (HRL.out _ (by first | exact Below.refl _ _ | exact below_alloc1 _ _)).mono ?_
   rintro r w2 ⟨rfl,rfl⟩
   go_wp2
   go_ret
   exact ⟨rfl,by first | exact Below.refl _ _ | exact below_alloc1 _ _⟩
  ·rw [if_neg (by decide),if_pos rfl]
   clear h0 h2 h3
   go_enter Tryz.func130,Tryz.ntmps130
   go_wp2_with fail
   refine (HSL.out _ (by first | exact Below.refl _ _ | exact below_alloc1 _ _)).mono ?_
   rintro r w2 ⟨rfl,m,rfl⟩
   go_wp2
   go_ret
   exact ⟨rfl,by first | exact below_drewN (Below.refl _ _) _ | exact below_drewN (below_alloc1 _ _) _⟩
theorem enabled_any {w0 w:World} {ps:List Pl} {Cs:List Ch} {R:List Asr} {la:Option Addr} {lc n:Nat} (h:Own w0 w (chs ps Cs ++ RowGA 1 la lc n (ptrs ps) :: R)) (hn:n = ps.length) (hl:ps.length = Cs.length) (ka:Option Addr) (m kc:Nat) (ks:List Cs3) (hk:CellsAt w ka (c3s ks)) (hm:m = ks.length) (hm2:m ≤ 100000) (hok:CasOK n ks) :
  Calls Tryz.prog 116 #[.slice ka m kc,.slice la n lc] w fun r w'=>∃ a c,r = .returned (.slice a (enF (goesB ps Cs) 0 ks).length c) ∧ RowG 1 w' a c (enF (goesB ps Cs) 0 ks).length (intc (enF (goesB ps Cs) 0 ks)) ∧ (∀ x ∈ blk a,w.heap.size ≤ x) ∧ Below w.heap.size w w':=by
 have H:=Lib.hid h
 have HK:=Lib.hid hk
 have HN:=Lib.hid hn
 have HM:=Lib.hid hm
 have HO:=Lib.hid hok
 clear h hk hn hm hok
 obtain ⟨i0,hi0,hz0,hz1,hz2⟩:=info_parts info_int
 have Hi:=Lib.hid hi0;clear hi0
 have Hz0:=Lib.hid hz0;clear hz0
 have Hz1:=Lib.hid hz1;clear hz1
 have Hz2:=Lib.hid hz2;clear hz2
 go_enter Tryz.func116,Tryz.ntmps116
 go_wp2_with fail
 go_loopw [5,10] (fun s2 s8 wr=>∃ i:Nat,∃ L:List Int,∃ a c,i ≤ m ∧ L.length ≤ i ∧ s8 = .int .i64 i ∧ s2 = .slice a L.length c ∧ Hid (L ++ enF (goesB ps Cs) i (ks.drop i) = enF (goesB ps Cs) 0 ks ∧ RowG 1 wr a c L.length (intc L) ∧ (∀ x ∈ blk a,w.heap.size ≤ x) ∧ Below w.heap.size w wr)) (fun _ s8 _=>m - (intOf s8).toNat)
 case atStart=>exact ⟨0,[],none,0,by omega,by simp,rfl,rfl,Lib.hid ⟨rfl,RowG.nil _ _,by simp [blk],Below.refl _ _⟩⟩
 case round =>
  obtain ⟨i,L,a,c,hi,hLi,rfl,rfl,hr⟩:=hrel
  obtain ⟨r1,r2,r3,r4⟩:=hr.out
  by_cases hlt:i < m
  ·have hil:i < ks.length:=by have:=HM.out;omega
   obtain ⟨b,off,rfl,q0,q1,q2⟩:=CellsAt.wt (l:=ks) (HK.out.below r4) i hil
   have hok:=HO.out ks[i] (List.getElem_mem hil)
   rw [enF_drop _ ks i hil] at r1
   obtain ⟨x,hx⟩:∃ x,x = ks[i]:=⟨_,rfl⟩
   rw [← hx] at q0 q1 q2 hok r1
   clear hx
   obtain ⟨k1,k2,k3⟩:=x
   simp only at q0 q1 q2 hok
   have hg:=fun (w':World) (hb:Below wr.heap.size wr w')=>goes_any ((H.out.step r4).step hb) HN.out hl k1 k2 k3 ⟨hok.1,hok.2.1,hok.2.2.1⟩
   have HG:=Lib.hid hg
   have hli:(i:Int) < (m:Int):=by omega
   obtain ⟨g,hgb⟩:∃ g,g = goesB ps Cs (k1,k2,k3):=⟨_,rfl⟩
   rw [← hgb] at HG r1
   have HR:=Lib.hid (show _ ∧ _ ∧ _ ∧ _ from ⟨r1,r2,r3,r4⟩)
   clear hr r1 r2 r3 r4 hg hok hgb
   go_wp2_with fail
   refine (HG.out _ (below_alloc1 _ _)).mono ?_
   rintro r w3 ⟨rfl,b30⟩
   have b3:=below_on (below_alloc1 _ _) b30
   clear b30
   obtain ⟨r1,r2,r3,r4⟩:=HR.out
   have B3:=Lib.hid b3
   cases g with
   | false =>
    have HR2:=Lib.hid (show L ++ enF (goesB ps Cs) (i + 1) (ks.drop (i + 1)) = enF (goesB ps Cs) 0 ks ∧ RowG 1 w3 a c L.length (intc L) ∧ (∀ x ∈ blk a,w.heap.size ≤ x) ∧ Below w.heap.size w w3 from ⟨by simpa using r1,r2.below b3,r3,below_on r4 b3⟩)
    clear HR HG r1 r2 r3 r4 b3 B3
    go_wp2
    exact ⟨⟨i + 1,L,a,c,by omega,by omega,by go_num,rfl,HR2⟩,by simp [intOf];omega⟩
   | true =>
    have HROW:=Lib.hid (r2.below b3)
    have HX:=Lib.hid (show (L ++ [(i:Int)]) ++ enF (goesB ps Cs) (i + 1) (ks.drop (i + 1)) = enF (goesB ps Cs) 0 ks ∧ (∀ x ∈ blk a,w.heap.size ≤ x) ∧ Below w.heap.size w w3 from ⟨by simpa using r1,r3,below_on r4 b3⟩)
    clear HR HG r1 r2 r3 r4 b3 B3
    go_wp2_with (at_builtin;refine wpList_append_rowG (m:=1) (ds:=intc [(i:Int)]) rfl _ _ 38 rfl 3 i0 _ Tryz.underlying38 Hi.out Hz0.out Hz1.out Hz2.out rfl (by omega) (by omega) rfl rfl (HROW.out.below (below_alloc1 _ _)) (CellsAt.new _ (intc [(i:Int)]) _ rfl) rfl (intc_one _) (by omega) ?_)
    intro a5 c5 w5 k5 ch5 f5
    have HE:=Lib.hid (show (L ++ [(i:Int)]) ++ enF (goesB ps Cs) (i + 1) (ks.drop (i + 1)) = enF (goesB ps Cs) 0 ks ∧ RowG 1 w5 a5 c5 (L ++ [(i:Int)]).length (intc (L ++ [(i:Int)])) ∧ (∀ x ∈ blk a5,w.heap.size ≤ x) ∧ Below w.heap.size w w5 from
     ⟨HX.out.1,by rw [List.length_append,intc_app];exact k5,fun x hx=>by
      rcases f5 x hx with h | h
      ·exact HX.out.2.1 x h
      ·have:=HX.out.2.2.size;first | omega | (simp at h;omega),Chg.below (below_on HX.out.2.2 (below_alloc1 _ _)) ch5 HX.out.2.1⟩)
    clear k5 ch5 f5
    go_wp2
    exact ⟨⟨i + 1,L ++ [(i:Int)],a5,c5,by omega,by simp;omega,by go_num,by simp,HE⟩,by simp [intOf];omega⟩
  ·have hge:¬ (i:Int) < (m:Int):=by omega
   have hd:ks.drop i = []:=List.drop_of_length_le (by have:=HM.out;omega)
   rw [hd] at r1
   have r1':L = enF (goesB ps Cs) 0 ks:=by simpa [enF] using r1
   have HF:=Lib.hid (show L = enF (goesB ps Cs) 0 ks ∧ RowG 1 wr a c L.length (intc L) ∧ (∀ x ∈ blk a,w.heap.size ≤ x) ∧ Below w.heap.size w wr from ⟨r1',r2,r3,r4⟩)
   clear hr r1 r2 r3 r4 hd r1'
   go_wp2
   go_ret
   obtain ⟨e1,e2,e3,e4⟩:=HF.out
   exact ⟨a,c,by rw [← e1];rfl,by rw [← e1];exact e2,e3,e4⟩
theorem leave_any {w0 w:World} {ps:List Pl} {Cs:List Ch} {R:List Asr} {la:Option Addr} {lc n:Nat} (h:Own w0 w (chs ps Cs ++ RowGA 1 la lc n (ptrs ps) :: R)) (hn:n = ps.length) (hl:ps.length = Cs.length) (g:Int) (hB:Lim 100000 Cs) (hn2:n ≤ 100000) :
  Calls Tryz.prog 174 #[.int .i64 g,.slice la n lc] w fun r w'=>r = .returned (.tuple #[]) ∧ Own w0 w' (chs ps (Cs.map (leF g)) ++ RowGA 1 la lc n (ptrs ps) :: R):=by
 have H:=Lib.hid h
 have HN:=Lib.hid hn
 have HL:=Lib.hid hl
 have HBB:=Lib.hid hB
 clear h hn hl hB
 go_enter Tryz.func174,Tryz.ntmps174
 go_wp2_with fail
 go_loopw [8] (fun s wr=>∃ i:Nat,i ≤ n ∧ s = .int .i64 i ∧ Hid (Own w0 wr (chs ps ((Cs.take i).map (leF g) ++ Cs.drop i) ++ RowGA 1 la lc n (ptrs ps) :: R))) (fun s _=>n - (intOf s).toNat)
 case atStart=>exact ⟨0,by omega,rfl,Lib.hid (by simpa using H.out)⟩
 case round =>
  obtain ⟨i,hi,rfl,hr⟩:=hrel
  by_cases hlt:i < n
  ·have hjn:i < ps.length:=by have:=HN.out;omega
   have hjC:i < Cs.length:=by rw [← HL.out];exact hjn
   have hp:ps[i]? = some ps[i]:=List.getElem?_eq_getElem hjn
   obtain ⟨C,hCe⟩:∃ C,C = Cs[i]:=⟨_,rfl⟩
   have hd:Cs.drop i = C :: Cs.drop (i + 1):=by rw [hCe];exact List.drop_eq_getElem_cons hjC
   have htl:((Cs.take i).map (leF g)).length = i:=by simp;omega
   have hC:((Cs.take i).map (leF g) ++ Cs.drop i)[i]? = some C:=by rw [List.getElem?_append_right (by omega),htl,Nat.sub_self,hd];rfl
   have hlim:=HBB.out C (by rw [hCe];exact List.getElem_mem hjC)
   have hset:((Cs.take i).map (leF g) ++ Cs.drop i).set i (leF g C) = (Cs.take (i + 1)).map (leF g) ++ Cs.drop (i + 1):=by
    rw [List.set_append_right _ _ (by omega),htl,Nat.sub_self,hd,List.set_cons_zero,List.take_succ_eq_append_getElem hjC,List.map_append,List.append_assoc,← hCe];rfl
   generalize ps[i] = p at hp
   obtain ⟨pb,poff,rfl,gp⟩:=chPtr hr.out hp
   obtain ⟨R',hR,hback⟩:=hr.out.chPick hp hC
   have hw:=cdrop_any hR g hlim.2.1 hlim.2.2
   have HW:=Lib.hid hw
   have HX:=Lib.hid (fun (w':World) (h':Own w0 w' (ChanA p.1 p.2 (leF g C) :: R'))=>(show Own w0 w' (chs ps ((Cs.take (i + 1)).map (leF g) ++ Cs.drop (i + 1)) ++ RowGA 1 (some ⟨pb,poff,none⟩) lc n (ptrs ps) :: R) from by rw [← hset];exact hback w' _ h'))
   have hli:(i:Int) < (n:Int):=by omega
   clear hr hw hback hR hset hC hd htl hp hlim hCe hjC
   go_wp2_with fail
   refine HW.out.mono ?_
   rintro r w3 ⟨rfl,h3⟩
   have HR:=Lib.hid (HX.out _ h3)
   clear h3
   go_wp2
   exact ⟨⟨i + 1,by omega,by go_num,HR⟩,by simp [intOf];omega⟩
  ·have hge:¬ (i:Int) < (n:Int):=by omega
   have hf:Own w0 wr (chs ps (Cs.map (leF g)) ++ RowGA 1 la lc n (ptrs ps) :: R):=by
    have h1:=hr.out
    have hCl:Cs.length = n:=by rw [← HL.out];exact HN.out.symm
    rw [List.take_of_length_le (by omega),List.drop_of_length_le (by omega),List.append_nil] at h1
    exact h1
   have HF:=Lib.hid hf
   clear hr hf
   go_wp2
   go_end0
   exact ⟨rfl,HF.out⟩
structure Gt where
 st:Int
 n:Nat
 z:List Int
 deriving DecidableEq
def Gt.o (G:Gt):Nat:=(G.n - 1) * 11
def Gt.fn (G:Gt):Int:=G.z.getD G.o 0
def Gt.pc (G:Gt):Int:=G.z.getD (G.o + 1) 0
def Gt.rg (G:Gt) (k:Int):Int:=G.z.getD (G.o + 2 + k.toNat) 0
def Gt.put (G:Gt) (k v:Int):Gt:={ G with z:=G.z.set (G.o + 2 + k.toNat) v }
def g0:Gt:=⟨0,1,[]⟩
structure Wd where
 fs:List (List In4)
 ks:List Cs3
 gs:List Gt
 Ns:List Nat
 Cs:List Ch
 Ls:List (List Int)
 hp:List It
 nx:Nat
 clock:Nat
 out:List Int
 en:Int
 why:Int
def Wd.g (W:Wd) (i:Nat):Gt:=W.gs.getD i g0
def Wd.setG (W:Wd) (i:Nat) (G:Gt):Wd:={ W with gs:=W.gs.set i G }
def Wd.setSt (W:Wd) (i:Nat) (s:Int):Wd:=W.setG i { W.g i with st:=s }
def Wd.put (W:Wd) (i:Nat) (k v:Int):Wd:=W.setG i ((W.g i).put k v)
def Wd.insAt (W:Wd) (fn pc:Int):Option In4:=if pc < 0 then none else (W.fs.getD fn.toNat [])[pc.toNat]?
def Wd.ins (W:Wd) (i:Nat):Option In4:=W.insAt (W.g i).fn (W.g i).pc
def Wd.cas (W:Wd) (x:In4):List Cs3 :=
 if x.1 = 13 then [(1,x.2.1,x.2.2.1)] else if x.1 = 14 then [(0,x.2.1,x.2.2.1)] else (W.ks.drop x.2.1.toNat).take x.2.2.1.toNat
def wr64 (v:Int):Int:=IntKind.i64.wrap v
def pureM (x:In4) (o:Nat) (z:List Int):Option (List Int) :=
 let z1:=z.set (o + 1) (z.getD (o + 1) 0 + 1)
 let r:=fun (k:Int)=>z.getD (o + 2 + k.toNat) 0
 let s:=fun (v:Int)=>some (z1.set (o + 2 + x.2.1.toNat) v)
 if x.1 = 0 then some z1
 else if x.1 = 1 then s x.2.2.1
 else if x.1 = 2 then s (r x.2.2.1)
 else if x.1 = 3 then s (wr64 (r x.2.2.1 + r x.2.2.2))
 else if x.1 = 4 then s (wr64 (r x.2.2.1 - r x.2.2.2))
 else if x.1 = 5 then s (wr64 (r x.2.2.1 * r x.2.2.2))
 else if x.1 = 6 then s (if r x.2.2.1 < r x.2.2.2 then 1 else 0)
 else if x.1 = 7 then some (z1.set (o + 1) x.2.1)
 else if x.1 = 8 then some (if r x.2.1 = 0 then z1 else z1.set (o + 1) x.2.2.1)
 else none
structure Dd where
 W:Wd
 rd:List Int
 tr:Option Int
def goesN (Ns:List Nat) (Cs:List Ch) (k:Cs3):Bool :=
 match Cs[k.2.1.toNat]?,Ns[k.2.1.toNat]? with
 | some C,some N=>if k.1 = 0 then canR C else if k.1 = 1 then canS N C else false
 | _,_=>false
def Wd.fin (W:Wd) (x:In4) (by_:Wt) (some_:Bool):Wd :=
 let c:=(W.cas x).getD by_.2.1.toNat (1,0,0)
 let W1:=if c.1 = 0 then W.put by_.1.toNat c.2.2 by_.2.2 else W
 if x.1 = 16 then W1.put by_.1.toNat x.2.2.2 by_.2.1
 else if x.1 = 14 then W1.put by_.1.toNat x.2.2.2 (if some_ then 1 else 0)
 else W1
def Wd.leave (W:Wd) (g:Int):Wd:={ W with Cs:=W.Cs.map (leF g) }
def goOnM (W:Wd) (rd:List Int) (by_:Wt) (some_:Bool):Wd × List Int :=
 let G:=W.g by_.1.toNat
 if G.st = 2 then
  match W.insAt G.fn (G.pc - 1) with
  | some x=>(((W.fin x by_ some_).leave by_.1).setSt by_.1.toNat 1,rd ++ [by_.1])
  | none=>(W,rd)
 else (W,rd)
def goOnsM (W:Wd) (rd:List Int):List Wt → Wd × List Int
 | []=>(W,rd)
 | r :: t=>goOnsM (goOnM W rd r false).1 (goOnM W rd r false).2 t
def Wd.ch (W:Wd) (i:Int):Ch:=W.Cs.getD i.toNat ⟨[],[],[],false⟩
def Wd.setCh (W:Wd) (i:Int) (C:Ch):Wd:={ W with Cs:=W.Cs.set i.toNat C }
def sendM (W:Wd) (rd:List Int) (g:Nat) (x:In4) (c:Cs3) (place:Int):Option Dd :=
 let r:=mSend (W.Ns.getD c.2.1.toNat 0) (W.ch c.2.1) ((W.g g).rg c.2.2)
 if r.2.2.2 = 10 then some ⟨W,rd,some (-1)⟩
 else if r.2.2.2 = 0 then
  let W1:=W.setCh c.2.1 r.1
  let y:=if r.2.2.1 then goOnM W1 rd r.2.1 true else (W1,rd)
  some ⟨y.1.fin x ((g:Int),place,0) false,y.2,none⟩
 else none
def recvM (W:Wd) (rd:List Int) (g:Nat) (x:In4) (c:Cs3) (place:Int):Option Dd :=
 let r:=mRecv (W.ch c.2.1)
 if r.2.2 = 0 then
  let W1:=W.setCh c.2.1 r.1
  let y:=if r.2.1.2.2.2 then goOnM W1 rd r.2.1.2.2.1 false else (W1,rd)
  some ⟨y.1.fin x ((g:Int),place,r.2.1.1) r.2.1.2.1,y.2,none⟩
 else none
def tryM (W:Wd) (rd:List Int) (g:Nat) (x:In4) (place:Int):Option Dd :=
 let c:=(W.cas x).getD place.toNat (1,0,0)
 if c.1 = 1 then sendM W rd g x c place else recvM W rd g x c place
def Gt.regs (G:Gt):List Int:=(G.z.drop (G.o + 2)).take 8
def waitM (W:Wd) (g:Nat) (x:In4):Wd:=({ W with Cs:=wasF (g:Int) (W.g g).regs 0 (W.cas x) W.Cs }:Wd).setSt g 2
def chanM (W:Wd) (rd:List Int) (g:Nat) (x:In4):Dd:=(tryM W rd g x 0).getD (Dd.mk (waitM W g x) rd none)
def chooseM (W:Wd) (rd:List Int) (g:Nat) (x:In4) (drawn:Int) (goes:Bool):Dd :=
 if goes then (tryM W rd g x drawn).getD (Dd.mk W rd none)
 else if elF 0 (W.cas x) < 0 then ⟨waitM W g x,rd,none⟩
 else ⟨W.put g x.2.2.2 (elF 0 (W.cas x)),rd,none⟩
def closeM (W:Wd) (rd:List Int) (x:In4):Dd :=
 let C:=W.ch x.2.1
 if C.cl then ⟨W,rd,some (-2)⟩
 else
  let W1:=W.setCh x.2.1 ⟨C.buf,[],[],true⟩
  if C.S = [] then ⟨(goOnsM W1 rd C.R).1,(goOnsM W1 rd C.R).2,none⟩ else ⟨W1,rd,some (-1)⟩
def callM (W:Wd) (rd:List Int) (g:Nat) (x:In4):Dd :=
 let G:=W.g g
 if 16 ≤ G.n then ⟨W,rd,some (-4)⟩ else ⟨W.setG g { G with n:=G.n + 1,z:=G.z ++ newF x.2.1 (G.rg x.2.2.1) x.2.2.2 },rd,none⟩
def retM (W:Wd) (rd:List Int) (g:Nat) (x:In4):Dd :=
 let G:=W.g g
 if G.n ≤ 1 then ⟨{ W.setSt g 4 with en:=if g = 0 then 1 else W.en },rd,none⟩
 else ⟨W.setG g { G with n:=G.n - 1,z:=(G.z.take ((G.n - 1) * 11)).set ((G.n - 2) * 11 + 2 + (G.z.getD (G.o + 10) 0).toNat) (G.rg x.2.1) },rd,none⟩
def spawnM (W:Wd) (rd:List Int) (g:Nat) (x:In4):Dd :=
 if 100 ≤ W.gs.length then ⟨W,rd,some (-5)⟩
 else ⟨({ W with gs:=W.gs ++ [⟨1,1,newF x.2.1 ((W.g g).rg x.2.2.1) 0⟩] }:Wd).put g x.2.2.2 (W.gs.length:Int),rd ++ [(W.gs.length:Int)],none⟩
def sleepM (W:Wd) (rd:List Int) (g:Nat) (x:In4):Dd :=
 let t:=if 1048576 < (W.g g).rg x.2.1 then 1048576 else (W.g g).rg x.2.1
 if t ≤ 0 then ⟨W,rd,none⟩
 else ⟨{ W.setSt g 3 with hp:=pushF W.hp ⟨(W.clock:Int) + t,(W.nx:Int),(g:Int)⟩,nx:=W.nx + 1 },rd,none⟩
def Wd.lk (W:Wd) (i:Int):List Int:=W.Ls.getD i.toNat []
def lockM (W:Wd) (rd:List Int) (g:Nat) (x:In4):Dd :=
 let W1:={ W with Ls:=W.Ls.set x.2.1.toNat (W.lk x.2.1 ++ [(g:Int)]) }
 Dd.mk (if W.lk x.2.1 = [] then W1 else W1.setSt g 2) rd none
def unlockM (W:Wd) (rd:List Int) (g:Nat) (x:In4):Dd :=
 let L:=W.lk x.2.1
 if (gaveR L (g:Int)).2 = 0 then
  let W1:={ W with Ls:=W.Ls.set x.2.1.toNat (gaveL L (g:Int)) }
  if (gaveR L (g:Int)).1 = -1 then ⟨W1,rd,none⟩ else ⟨W1.setSt (gaveR L (g:Int)).1.toNat 1,rd ++ [(gaveR L (g:Int)).1],none⟩
 else ⟨W,rd,some (-3)⟩
def emitM (W:Wd) (rd:List Int) (g:Nat) (x:In4):Dd :=
 if 1000 ≤ W.out.length then ⟨W,rd,some (-6)⟩ else ⟨{ W with out:=W.out ++ [(W.g g).rg x.2.1] },rd,none⟩
def deedM (W:Wd) (g:Nat) (x:In4) (drawn:Int) (goes:Bool):Dd :=
 if x.1 = 9 then callM W [] g x
 else if x.1 = 10 then retM W [] g x
 else if x.1 = 11 then spawnM W [] g x
 else if x.1 = 12 then ⟨W,[],none⟩
 else if x.1 = 13 then chanM W [] g x
 else if x.1 = 14 then chanM W [] g x
 else if x.1 = 15 then closeM W [] x
 else if x.1 = 16 then chooseM W [] g x drawn goes
 else if x.1 = 17 then sleepM W [] g x
 else if x.1 = 18 then lockM W [] g x
 else if x.1 = 19 then unlockM W [] g x
 else if x.1 = 20 then emitM W [] g x
 else if x.1 = 21 then ⟨W.put g x.2.1 drawn,[],none⟩
 else ⟨W,[],some x.2.1⟩
def Wd.step (W:Wd) (g:Nat):Wd:=W.setG g { W.g g with z:=(W.g g).z.set ((W.g g).o + 1) ((W.g g).pc + 1) }
def Dd.end_ (d:Dd):Wd:=match d.tr with
 | none=>d.W
 | some k=>{ d.W with en:=2,why:=k }
def doM (W:Wd) (g:Nat) (x:Option In4) (drawn:Int) (goes:Bool):Dd :=
 match x with
 | none=>⟨W,[],some (-7)⟩
 | some x=>match pureM x (W.g g).o (W.g g).z with
  | some z=>⟨W.setG g { W.g g with z:=z },[],none⟩
  | none=>deedM (W.step g) g x drawn goes
def keepsM (W:Wd) (g:Nat) (x:In4):Bool:=decide (W.en = 0) && decide ((W.g g).st = 1) && !(decide (x.1 = 12) || decide (x.1 = 17))
def askN (W:Wd) (x:In4):Nat :=
 if x.1 = 21 then x.2.2.1.toNat else if x.1 = 16 then (enF (goesN W.Ns W.Cs) 0 (W.cas x)).length else 0
def askK (x:In4):Int:=if x.1 = 21 then 4 else 3
def askM (W:Wd) (x:In4) (d:Int):Int × Bool :=
 if x.1 = 21 then (belowZ x.2.2.1 d,false)
 else if x.1 = 16 then
  if (enF (goesN W.Ns W.Cs) 0 (W.cas x)).length = 0 then (0,false) else ((enF (goesN W.Ns W.Cs) 0 (W.cas x)).getD (belowZ ((enF (goesN W.Ns W.Cs) 0 (W.cas x)).length:Int) d).toNat 0,true)
 else (0,false)
def Wd.lets (W:Wd) (g:Int):Prop:=W.en = 0 ∧ 0 ≤ g ∧ g < (W.gs.length:Int) ∧ (W.g g.toNat).st = 1
instance (W:Wd) (g:Int):Decidable (W.lets g):=by unfold Wd.lets;exact inferInstance
def execM (W:Wd) (g d:Int):Wd × Bool × List Int :=
 if W.lets g then
  let x:=(W.ins g.toNat).getD (0,0,0,0)
  let a:=askM W x d
  let r:=doM W g.toNat (W.ins g.toNat) a.1 a.2
  (r.end_,keepsM r.end_ g.toNat x,r.rd)
 else (W,false,[])
def wokeM (W:Wd):List It → Wd
 | []=>W
 | x :: t=>wokeM (W.setSt x.id.toNat 1) t
def tickM (W:Wd):Wd × List Int :=
 if W.en = 0 then
  let r:=wakes W.hp ((W.clock:Int) + 1)
  (wokeM { W with clock:=W.clock + 1,hp:=r.2 } r.1,r.1.map (·.id))
 else (W,[])
def stuckM (W:Wd):Bool:=decide (W.en = 0) && !(W.gs.any fun G=>decide (G.st = 1) || decide (G.st = 3))
def newM (fs:List (List In4)) (ks:List Cs3) (rooms:List Int) (locks:Nat):Wd :=
 { fs:=fs,ks:=ks,gs:=[⟨1,1,newF 0 0 0⟩],Ns:=rooms.map roomC,Cs:=rooms.map fun _=>⟨[],[],[],false⟩,Ls:=List.replicate locks [],hp:=[],nx:=0,clock:=0,out:=[],en:=0,why:=0 }
structure Pm where
 N:Nat
 q:LQ
 tu:Nat
 by_:Int
instance:Inhabited Pm:=⟨⟨0,⟨none,[]⟩,0,-1⟩⟩
structure Mm where
 P:Int
 G:Int
 L:Int
instance:Inhabited Mm:=⟨⟨-1,-1,0⟩⟩
structure Sd where
 W:Wd
 ps:List Pm
 ms:List Mm
 gl:List Int
 sl:Int
 st:Nat
def Sd.p (X:Sd) (i:Nat):Pm:=X.ps.getD i default
def Sd.m (X:Sd) (i:Nat):Mm:=X.ms.getD i default
theorem Sd.p_at {X:Sd} {i:Nat} (h:i < X.ps.length):X.ps[i]? = some (X.p i):=by
 unfold Sd.p;rw [List.getD_eq_getElem?_getD,List.getElem?_eq_getElem h];rfl
theorem Sd.m_at {X:Sd} {i:Nat} (h:i < X.ms.length):X.ms[i]? = some (X.m i):=by
 unfold Sd.m;rw [List.getD_eq_getElem?_getD,List.getElem?_eq_getElem h];rfl
def Sd.setP (X:Sd) (i:Nat) (p:Pm):Sd:={ X with ps:=X.ps.set i p }
def Sd.setM (X:Sd) (i:Nat) (m:Mm):Sd:={ X with ms:=X.ms.set i m }
def holdM (X:Sd) (m:Nat):Sd × Int:=match X.ps.findIdx? (fun p=>p.by_ == -1) with
 | some i=>((X.setP i { X.p i with by_:=(m:Int) }).setM m { X.m m with P:=(i:Int) },2)
 | none=>(X,3)
def turnM (X:Sd) (i:Nat):Sd :=
 { X.setP i { X.p i with q:=(mTurn (X.p i).N (X.p i).q X.gl).1 } with gl:=(mTurn (X.p i).N (X.p i).q X.gl).2.1 }
def nearM (X:Sd) (i:Nat):Sd × Option Int :=
 if (X.p i).tu % 7 = 6 ∧ X.gl ≠ [] then ({ X with gl:=X.gl.tail },X.gl.head?)
 else match (mGet (X.p i).q).2 with
  | some g=>(X.setP i { X.p i with q:=(mGet (X.p i).q).1 },some g)
  | none=>({ X.setP i { X.p i with q:=(mFetch (X.p i).N (X.p i).q X.gl 0).1 } with gl:=(mFetch (X.p i).N (X.p i).q X.gl 0).2.1 },(mFetch (X.p i).N (X.p i).q X.gl 0).2.2)
def asksV (X:Sd) (i:Nat):Bool:=(nearM (turnM X i) i).2.isNone && decide (1 < X.ps.length)
def newTurnM (X:Sd) (i v:Nat):Sd × Int × Int :=
 let r:=nearM (turnM X i) i
 match r.2 with
 | some g=>(r.1,4,g)
 | none =>
  if 1 < X.ps.length ∧ v ≠ i then
   let s:=mSteal (r.1.p i).N (r.1.p i).q (r.1.p v).q
   match s.2.2 with
   | some g=>((r.1.setP i { r.1.p i with q:=s.1 }).setP v { r.1.p v with q:=s.2.1 },5,g)
   | none=>((r.1.setP i { r.1.p i with q:=s.1 }).setP v { r.1.p v with q:=s.2.1 },6,-1)
  else (r.1,6,-1)
def lookM (X:Sd) (m v:Nat):Sd × Int × Int :=
 let i:=(X.m m).P.toNat
 if 0 < (X.m m).L ∧ (X.p i).q.nx.isSome then
  let g:=((mGet (X.p i).q).2).getD (-1)
  ((X.setP i { X.p i with q:=(mGet (X.p i).q).1 }).setM m { X.m m with G:=g },4,g)
 else
  let r:=newTurnM X i v
  if r.2.1 = 6 then ((r.1.setP i { r.1.p i with by_:=-1 }).setM m ⟨-1,-1,0⟩,r.2)
  else ((r.1.setP i { r.1.p i with tu:=(r.1.p i).tu + 1 }).setM m { r.1.m m with G:=r.2.2,L:=r.1.sl },r.2)
def readyA (X:Sd) (i:Nat):List Int → Sd
 | []=>X
 | g :: t=>readyA { X.setP i { X.p i with q:=(mReady (X.p i).N (X.p i).q g X.gl).1 } with gl:=(mReady (X.p i).N (X.p i).q g X.gl).2.1 } i t
def runM (X:Sd) (m:Nat) (v:Int):Sd × List Int :=
 let e:=execM X.W (X.m m).G v
 let Y:=readyA { X with W:=e.1 } (X.m m).P.toNat e.2.2
 let L:=(X.m m).L - 1
 if e.2.1 = true ∧ 0 < L then (Y.setM m { Y.m m with L:=L },e.2.2)
 else ({ Y.setM m { Y.m m with G:=-1,L:=L } with gl:=if (Y.W.g (X.m m).G.toNat).st = 1 then Y.gl ++ [(X.m m).G] else Y.gl },e.2.2)
def clockM (X:Sd):Sd × List Int:=({ X with W:=(tickM X.W).1,gl:=X.gl ++ (tickM X.W).2 },(tickM X.W).2)
def overM (X:Sd):Int:=if X.W.en = 1 then 1 else if X.W.en = 2 then 2 else if stuckM X.W then 3 else 0
def LstA (l:List Asr):Asr where
 at_ w F:=Sep w l F
 lt:=fun h=>h.lt
 chg:=fun h c d=>h.chg c d
theorem Own.unl {w0 w:World} {l R:List Asr} (h:Own w0 w (LstA l :: R)):Own w0 w (l ++ R):=by
 obtain ⟨As,rfl,h1⟩:=Own.unfold h (P:=fun As=>As = l) (fun F hF=>⟨l,rfl,hF⟩)
 exact h1
theorem Own.lst {w0 w:World} {l R:List Asr} (h:Own w0 w (l ++ R)):Own w0 w (LstA l :: R):=Own.fold h (fun F hF=>hF)
theorem Own.lstPick {w0 w:World} {l R:List Asr} (h:Own w0 w (LstA l :: R)) {i:Nat} {A:Asr} (hi:l[i]? = some A) :
  ∃ R',Own w0 w (A :: (R' ++ R)) ∧ ∀ w' A' S,Own w0 w' (A' :: (R' ++ S)) → Own w0 w' (LstA (l.set i A') :: S):=by
 have hl:=(List.getElem?_eq_some_iff.1 hi).1
 refine ⟨l.eraseIdx i,?_,fun w' A' S h'=>?_⟩
 ·exact h.unl.perm ((pick_perm l i A hi).append_right R)
 ·exact Own.lst (h'.perm ((back_perm l i A' hl).append_right S))
theorem Own.lstFact {w0 w:World} {l R:List Asr} (h:Own w0 w (LstA l :: R)) {i:Nat} {A:Asr} (hi:l[i]? = some A):∃ F,A.at_ w F ∧ ∀ x ∈ F,w0.heap.size ≤ x:=by
 obtain ⟨R',h1,-⟩:=h.lstPick hi
 exact h1.head
theorem Own.lstAdd {w0 w:World} {l R:List Asr} {A:Asr} (h:Own w0 w (A :: LstA l :: R)):Own w0 w (LstA (l ++ [A]) :: R):=by
 have h1:=(h.pick 1 rfl).unl
 exact Own.lst (h1.perm (by rw [List.append_assoc];exact List.Perm.refl _))
def StkA (g n cap:Nat) (z:List Int):Asr where
 at_ w F:=F = [g] ∧ StkAt w g n cap z
 lt:=by rintro w F ⟨rfl,h⟩ x hx;simp at hx;subst hx;exact h.lt
 chg:=by rintro w w' F G ⟨rfl,h⟩ c hd;exact ⟨rfl,h.chg c (hd g (by simp))⟩
def ItemsA (v:Value) (l:List It):Asr where
 at_ w F:=F = v.ownBlock.toList ∧ ItemsAt w v l
 lt:=by rintro w F ⟨rfl,h⟩ x hx;exact h.lt x hx
 chg:=by rintro w w' F G ⟨rfl,h⟩ c hd;exact ⟨rfl,h.chg c hd⟩
def i4c (x:In4):List Value:=[.int .i64 x.1,.int .i64 x.2.1,.int .i64 x.2.2.1,.int .i64 x.2.2.2]
def i4s (l:List In4):List Value:=l.flatMap i4c
def frw (fr:List (Option Addr × Nat)) (fs:List (List In4)):List Value:=List.zipWith (fun r l=>.slice r.1 l.length r.2) fr fs
def CodeA (fa:Option Addr) (fr:List (Option Addr × Nat)) (fs:List (List In4)) (ca:Option Addr) (ks:List Cs3):Asr where
 at_ w F:=(∀ x ∈ F,x < w.heap.size) ∧ ((∀ x ∈ blk fa,x ∈ F) ∧ CellsAt w fa (frw fr fs)) ∧ ((∀ x ∈ blk ca,x ∈ F) ∧ CellsAt w ca (c3s ks)) ∧
  ∀ (i:Nat) (r:Option Addr × Nat) (l:List In4),fr[i]? = some r → fs[i]? = some l → (∀ x ∈ blk r.1,x ∈ F) ∧ CellsAt w r.1 (i4s l)
 lt:=fun h=>h.1
 chg:=by
  rintro w w' F G ⟨h1,h2,h3,h4⟩ c hd
  exact ⟨fun x hx=>Nat.lt_of_lt_of_le (h1 x hx) c.size,⟨h2.1,h2.2.chg c (fun x hx=>hd x (h2.1 x hx))⟩,⟨h3.1,h3.2.chg c (fun x hx=>hd x (h3.1 x hx))⟩,
   fun i r l hr hl=>⟨(h4 i r l hr hl).1,(h4 i r l hr hl).2.chg c (fun x hx=>hd x ((h4 i r l hr hl).1 x hx))⟩⟩
structure Wa where
 fa:Option Addr
 fc:Nat
 fr:List (Option Addr × Nat)
 ca:Option Addr
 cc:Nat
 aa:Option Addr
 ac:Nat
 sk:List (Nat × Nat)
 ha:Option Addr
 hc:Nat
 ps:List Nat
 la:Option Addr
 lc:Nat
 lp:List Nat
 sv:Value
 oa:Option Addr
 oc:Nat
def gcs (sk:List (Nat × Nat)) (gs:List Gt):List Value:=(List.zip sk gs).flatMap fun x=>[.int .i64 x.2.st,.slice (some ⟨x.1.1,0,none⟩) x.2.n x.1.2]
def stks (sk:List (Nat × Nat)) (gs:List Gt):List Asr:=List.zipWith (fun s G=>StkA s.1 G.n s.2 G.z) sk gs
def lks (lp:List Nat) (Ls:List (List Int)):List Asr:=List.zipWith LockA lp Ls
def lptr (lp:List Nat):List Value:=lp.map fun p=>.pointer (some ⟨p,0,none⟩)
def wcells (W:Wd) (D:Wa):List Value :=
 [.slice D.fa W.fs.length D.fc,.slice D.ca W.ks.length D.cc,.slice D.aa W.gs.length D.ac,.slice D.ha W.Cs.length D.hc,.slice D.la W.Ls.length D.lc,D.sv,.int .u64 (W.nx:Int),.int .u64 (W.clock:Int),.slice D.oa W.out.length D.oc,.int .i64 W.en,.int .i64 W.why]
def wparts (p:Nat) (W:Wd) (D:Wa) (T:List Value):List Asr :=
 [CelA p (wcells W D ++ T),CodeA D.fa D.fr W.fs D.ca W.ks,RowGA 2 D.aa D.ac W.gs.length (gcs D.sk W.gs),LstA (stks D.sk W.gs),RowGA 1 D.ha D.hc W.Cs.length (ptrs (List.zip D.ps W.Ns)),LstA (chs (List.zip D.ps W.Ns) W.Cs),
  RowGA 1 D.la D.lc W.Ls.length (lptr D.lp),LstA (lks D.lp W.Ls),ItemsA D.sv W.hp,RowGA 1 D.oa D.oc W.out.length (intc W.out)]
structure Wa.fits (D:Wa) (W:Wd):Prop where
 f:D.fr.length = W.fs.length
 g:D.sk.length = W.gs.length
 c:D.ps.length = W.Cs.length
 n:W.Ns.length = W.Cs.length
 l:D.lp.length = W.Ls.length
 k:W.ks.length ≤ D.cc
def dcells (p:Nat) (g:Int) (x:In4) (th:Bool) (dr:Int) (go:Bool) (ra:Option Addr) (n rc:Nat):List Value :=
 [.pointer (some ⟨p,0,none⟩),.int .i64 g,.int .i64 x.1,.int .i64 x.2.1,.int .i64 x.2.2.1,.int .i64 x.2.2.2,.bool th,.int .i64 dr,.bool go,.slice ra n rc]
theorem gcs_len (sk:List (Nat × Nat)) (gs:List Gt):(gcs sk gs).length = (List.zip sk gs).length * 2:=flat_len _ 2 (fun _=>rfl) _
theorem gcs_at {w:World} {aa:Option Addr} {sk:List (Nat × Nat)} {gs:List Gt} (h:CellsAt w aa (gcs sk gs)) {g:Nat} {s:Nat × Nat} {G:Gt} (hs:sk[g]? = some s) (hG:gs[g]? = some G) :
  ∃ b off,aa = some ⟨b,off,none⟩ ∧ w.cell? ⟨b,off + g * 2,none⟩ = some (.int .i64 G.st) ∧ w.cell? ⟨b,off + g * 2 + 1,none⟩ = some (.slice (some ⟨s.1,0,none⟩) G.n s.2):=by
 have hz:(List.zip sk gs)[g]? = some (s,G):=by rw [List.getElem?_zip_eq_some];exact ⟨hs,hG⟩
 obtain ⟨hl,he⟩:=List.getElem?_eq_some_iff.1 hz
 obtain ⟨b,off,rfl,hc⟩:=CellsAt.rec (f:=fun x:(Nat × Nat) × Gt=>[.int .i64 x.2.st,.slice (some ⟨x.1.1,0,none⟩) x.2.n x.1.2]) (s:=2) (fun _=>rfl) h g hl (by omega)
 rw [he] at hc
 exact ⟨b,off,rfl,hc 0 _ rfl,hc 1 _ rfl⟩
theorem zip_set2 {α β:Type}:∀ (l:List α) (m:List β) (i:Nat) (a:α) (b:β),(List.zip l m).set i (a,b) = List.zip (l.set i a) (m.set i b)
 | [],m,i,a,b=>by simp
 | x :: l,[],i,a,b=>by cases i <;> simp
 | x :: l,y :: m,0,a,b=>by simp
 | x :: l,y :: m,i + 1,a,b=>by simp [zip_set2 l m i a b]
theorem gcs_set (sk:List (Nat × Nat)) (gs:List Gt) (g:Nat) (s:Nat × Nat) (G:Gt) (h:g < (List.zip sk gs).length):((gcs sk gs).set (g * 2) (.int .i64 G.st)).set (g * 2 + 1) (.slice (some ⟨s.1,0,none⟩) G.n s.2) = gcs (sk.set g s) (gs.set g G):=by
 have:=flat_set (fun x:(Nat × Nat) × Gt=>[.int .i64 x.2.st,.slice (some ⟨x.1.1,0,none⟩) x.2.n x.1.2]) 2 (fun _=>rfl) (List.zip sk gs) g (s,G) h
 rw [zip_set2] at this
 exact this
theorem set_self {α:Type} (l:List α) (i:Nat) (x:α) (h:l[i]? = some x):l.set i x = l:=by
 apply List.ext_getElem?
 intro j
 by_cases e:i = j
 ·subst e;rw [List.getElem?_set_self (List.getElem?_eq_some_iff.1 h).1,h]
 ·rw [List.getElem?_set_ne e]
theorem stks_at {sk:List (Nat × Nat)} {gs:List Gt} {g:Nat} {s:Nat × Nat} {G:Gt} (hs:sk[g]? = some s) (hG:gs[g]? = some G):(stks sk gs)[g]? = some (StkA s.1 G.n s.2 G.z):=by
 unfold stks;rw [List.getElem?_zipWith,hs,hG]
theorem stks_set (sk:List (Nat × Nat)) (gs:List Gt) (g:Nat) (s:Nat × Nat) (G:Gt):(stks sk gs).set g (StkA s.1 G.n s.2 G.z) = stks (sk.set g s) (gs.set g G):=by
 apply List.ext_getElem?
 intro j
 unfold stks
 rw [List.getElem?_zipWith,List.getElem?_set,List.getElem?_set,List.getElem?_set,List.length_zipWith,List.getElem?_zipWith]
 by_cases e:g = j
 ·subst e
  by_cases h1:g < sk.length
  ·by_cases h2:g < gs.length
   ·rw [if_pos rfl,if_pos (by omega)];simp [h1,h2]
   ·rw [if_pos rfl,if_neg (by omega)];simp [h1,h2]
  ·rw [if_pos rfl,if_neg (by omega)];simp [h1]
 ·simp [e]
end Go.Proofs.YtodjgipiomnnfaaGreat
