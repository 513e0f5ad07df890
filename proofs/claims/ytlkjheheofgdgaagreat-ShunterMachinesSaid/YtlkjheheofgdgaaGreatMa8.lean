/-
  Texts put together: WCFit1, WCFit2, WCFit3, WCFit4, WCFitA, WCSome1, SdShow, SdPg, W10In, RfNew, SegH3, RfNew2, WGrd1, WGrd2, SdLaw, SdMk, SdRch, TopRun, SdPan, SdPk.
-/
import Derived.Test.YtlkjheheofgdgaaGreatMa7
import Derived.Test.YtlkjheheofgdgaaGreatMa1
import Derived.Test.YtlkjheheofgdgaaGreatMa2
import Derived.Deep.CutBlock
import Derived.Test.YtlkjheheofgdgaaGreatMa6
import Derived.Recover
import Derived.Tactics
import Derived.Tactics2
set_option maxRecDepth 100000
set_option maxHeartbeats 16000000
set_option linter.unusedSimpArgs false
set_option linter.unusedVariables false
open Go Go.RowKit
namespace Go.Proofs.YtlkjheheofgdgaaGreat
theorem Cu (fa:Option Addr)(nf fc:Nat)(ca:Option Addr)(nc cc:Nat)(lk:Int)(ka:Option Addr)(nk kc:Nat)(a0:Option Addr)(n cap:Nat)(o a b c:Int)(w:World)(hk:zC o 23=0)(hb:yh b)(h1:1≤nf∧nf≤100)(h2:nc≤100)(h3:nk≤100)(h4:0≤lk∧lk≤100)(h5:1≤n∧n≤100) :
  Calls Tryz.prog 45 #[pv fa nf fc ca nc cc lk ka nk kc,.slice a0 n cap,.agg #[.int .i64 o,.int .i64 a,.int .i64 b,.int .i64 c]] w fun e w'=>xd nf nc nk lk n w e w':=by
 have ra:=zk a 8 (by omega)
 have rb:=zk b 8 (by omega)
 have rc:=zk c 8 (by omega)
 have HKK:=Qq hk;unfold pv;clear hk;go_enter Tryz.func45,Tryz.ntmps45
 go_wp2_with fail;refine(zx _ _ _ (by omega)).mono ?_
 rintro e w1 ⟨rfl,rfl⟩;rw[HKK.out];go_wp2_with fail;go_quiet ((go_at_call 44;exact Calls.quiet_of_same (zx _ _ _ (by omega))))
 generalize zC a 8=A8 at *;generalize zC b 8=B8 at *;generalize zC c 8=C8 at *;go_wp2_with fail;go_quiet (fail)
 generalize hW9:World.drewN _ _=W9
 have b0:zF W9 w.heap.size [.slice fa nf fc,.slice ca nc cc,.int .i64 lk,.slice ka nk kc]:=by rw[←hW9];exact(((zF.mk w [.slice fa nf fc,.slice ca nc cc,.int .i64 lk,.slice ka nk kc] _ _ rfl).below (below_alloc1 _ _)).below (below_alloc1 _ _)).below (by repeat(first|exact Below.refl _ _|refine below_drewN ?_ _|refine Below.drew ?_))
 have b1:zF W9 (w.heap.size+1) [.int .i64 0,.int .i64 a,.int .i64 b,.int .i64 c]:=by rw[←hW9];exact((zF.mk (w.alloc (.cells #[.slice fa nf fc,.slice ca nc cc,.int .i64 lk,.slice ka nk kc] 26)) [.int .i64 0,.int .i64 a,.int .i64 b,.int .i64 c] 80 (w.heap.size+1) (by simp)).below (below_alloc1 _ _)).below (by repeat(first|exact Below.refl _ _|refine below_drewN ?_ _|refine Below.drew ?_))
 have b2:zF W9 (w.heap.size+1+1) [.int .i64 0,.int .i64 0,.int .i64 0,.int .i64 0]:=by rw[←hW9];exact(zF.mk ((w.alloc (.cells #[.slice fa nf fc,.slice ca nc cc,.int .i64 lk,.slice ka nk kc] 26)).alloc (.cells #[.int .i64 0,.int .i64 a,.int .i64 b,.int .i64 c] 80)) [.int .i64 0,.int .i64 0,.int .i64 0,.int .i64 0] 80 (w.heap.size+1+1) (by simp)).below (by repeat(first|exact Below.refl _ _|refine below_drewN ?_ _|refine Below.drew ?_))
 have b3:Below w.heap.size w W9:=by rw[←hW9];repeat(first|exact Below.refl _ _|refine below_drewN ?_ _|refine Below.drew ?_|refine Below.alloc ?_ (by first|(simp;done)|(simp;omega)) _)
 clear hW9;obtain⟨c00,-⟩:=b0 0 _ rfl;obtain⟨c01,-⟩:=b0 1 _ rfl;obtain⟨c02,-⟩:=b0 2 _ rfl;obtain⟨c03,-⟩:=b0 3 _ rfl;obtain⟨c10,-⟩:=b1 0 _ rfl;obtain⟨ZW,-⟩:=b1 1 _ rfl;obtain⟨ZB,-⟩:=b1 2 _ rfl;obtain⟨x6,-⟩:=b1 3 _ rfl;obtain⟨c20,d20⟩:=b2 0 _ rfl;obtain⟨c21,d21⟩:=b2 1 _ rfl;obtain⟨c22,d22⟩:=b2 2 _ rfl;obtain⟨c23,d23⟩:=b2 3 _ rfl;have HZ9:=Qq b2;have HB9:=Qq b3;clear b0 b1 b2 b3;go_wp2_with fail;have e:=yy ((((((HZ9.out)).set 0 (.int .i64 (0))).set 1 (.int .i64 (0))).set 2 (.int .i64 (0))).set 3 (.int .i64 (0)))
 exact bodyPost_ret (zu Tryz.results45 _ ⟨w.heap.size+1+1,0,none⟩ rfl e) rfl (xd.mk (0) (0) (0) (0) (zX (by unfold yh;omega) (by omega) (by omega) (by first|(simp[goodB];done)|(simp[goodB,xy];done)|(simp[goodB,xy];omega))) (by unfold yh;omega) (HB9.out.trans (by repeat(first|exact Below.refl _ _|refine Below.setCell ?_ (by simp;omega) _|refine Below.drew ?_|refine below_drewN ?_ _))))
theorem D8 (fa:Option Addr)(nf fc:Nat)(ca:Option Addr)(nc cc:Nat)(lk:Int)(ka:Option Addr)(nk kc:Nat)(a0:Option Addr)(n cap:Nat)(o a b c:Int)(w:World)(hk:zC o 23=1)(hb:yh b)(h1:1≤nf∧nf≤100)(h2:nc≤100)(h3:nk≤100)(h4:0≤lk∧lk≤100)(h5:1≤n∧n≤100) :
  Calls Tryz.prog 45 #[pv fa nf fc ca nc cc lk ka nk kc,.slice a0 n cap,.agg #[.int .i64 o,.int .i64 a,.int .i64 b,.int .i64 c]] w fun e w'=>xd nf nc nk lk n w e w':=by
 have ra:=zk a 8 (by omega)
 have rb:=zk b 8 (by omega)
 have rc:=zk c 8 (by omega)
 have HKK:=Qq hk;unfold pv;clear hk;go_enter Tryz.func45,Tryz.ntmps45
 go_wp2_with fail;refine(zx _ _ _ (by omega)).mono ?_
 rintro e w1 ⟨rfl,rfl⟩;rw[HKK.out];go_wp2_with fail;go_quiet ((go_at_call 44;exact Calls.quiet_of_same (zx _ _ _ (by omega))))
 generalize zC a 8=A8 at *;generalize zC b 8=B8 at *;generalize zC c 8=C8 at *;go_wp2_with fail;go_quiet (fail)
 generalize hW9:World.drewN _ _=W9
 have b0:zF W9 w.heap.size [.slice fa nf fc,.slice ca nc cc,.int .i64 lk,.slice ka nk kc]:=by rw[←hW9];exact(((zF.mk w [.slice fa nf fc,.slice ca nc cc,.int .i64 lk,.slice ka nk kc] _ _ rfl).below (below_alloc1 _ _)).below (below_alloc1 _ _)).below (by repeat(first|exact Below.refl _ _|refine below_drewN ?_ _|refine Below.drew ?_))
 have b1:zF W9 (w.heap.size+1) [.int .i64 1,.int .i64 a,.int .i64 b,.int .i64 c]:=by rw[←hW9];exact((zF.mk (w.alloc (.cells #[.slice fa nf fc,.slice ca nc cc,.int .i64 lk,.slice ka nk kc] 26)) [.int .i64 1,.int .i64 a,.int .i64 b,.int .i64 c] 80 (w.heap.size+1) (by simp)).below (below_alloc1 _ _)).below (by repeat(first|exact Below.refl _ _|refine below_drewN ?_ _|refine Below.drew ?_))
 have b2:zF W9 (w.heap.size+1+1) [.int .i64 0,.int .i64 0,.int .i64 0,.int .i64 0]:=by rw[←hW9];exact(zF.mk ((w.alloc (.cells #[.slice fa nf fc,.slice ca nc cc,.int .i64 lk,.slice ka nk kc] 26)).alloc (.cells #[.int .i64 1,.int .i64 a,.int .i64 b,.int .i64 c] 80)) [.int .i64 0,.int .i64 0,.int .i64 0,.int .i64 0] 80 (w.heap.size+1+1) (by simp)).below (by repeat(first|exact Below.refl _ _|refine below_drewN ?_ _|refine Below.drew ?_))
 have b3:Below w.heap.size w W9:=by rw[←hW9];repeat(first|exact Below.refl _ _|refine below_drewN ?_ _|refine Below.drew ?_|refine Below.alloc ?_ (by first|(simp;done)|(simp;omega)) _)
 clear hW9;obtain⟨c00,-⟩:=b0 0 _ rfl;obtain⟨c01,-⟩:=b0 1 _ rfl;obtain⟨c02,-⟩:=b0 2 _ rfl;obtain⟨c03,-⟩:=b0 3 _ rfl;obtain⟨c10,-⟩:=b1 0 _ rfl;obtain⟨ZW,-⟩:=b1 1 _ rfl;obtain⟨ZB,-⟩:=b1 2 _ rfl;obtain⟨x6,-⟩:=b1 3 _ rfl;obtain⟨c20,d20⟩:=b2 0 _ rfl;obtain⟨c21,d21⟩:=b2 1 _ rfl;obtain⟨c22,d22⟩:=b2 2 _ rfl;obtain⟨c23,d23⟩:=b2 3 _ rfl;have HZ9:=Qq b2;have HB9:=Qq b3;clear b0 b1 b2 b3;go_wp2_with fail;have e:=yy ((((((HZ9.out)).set 0 (.int .i64 (1))).set 1 (.int .i64 (A8))).set 2 (.int .i64 (b))).set 3 (.int .i64 (0)))
 exact bodyPost_ret (zu Tryz.results45 _ ⟨w.heap.size+1+1,0,none⟩ rfl e) rfl (xd.mk (1) (A8) (b) (0) (zX hb (by omega) (by omega) (by first|(simp[goodB];done)|(simp[goodB,xy];done)|(simp[goodB,xy];omega))) hb (HB9.out.trans (by repeat(first|exact Below.refl _ _|refine Below.setCell ?_ (by simp;omega) _|refine Below.drew ?_|refine below_drewN ?_ _))))
theorem Cq (fa:Option Addr)(nf fc:Nat)(ca:Option Addr)(nc cc:Nat)(lk:Int)(ka:Option Addr)(nk kc:Nat)(a0:Option Addr)(n cap:Nat)(o a b c:Int)(w:World)(hk:zC o 23=2)(hb:yh b)(h1:1≤nf∧nf≤100)(h2:nc≤100)(h3:nk≤100)(h4:0≤lk∧lk≤100)(h5:1≤n∧n≤100) :
  Calls Tryz.prog 45 #[pv fa nf fc ca nc cc lk ka nk kc,.slice a0 n cap,.agg #[.int .i64 o,.int .i64 a,.int .i64 b,.int .i64 c]] w fun e w'=>xd nf nc nk lk n w e w':=by
 have ra:=zk a 8 (by omega)
 have rb:=zk b 8 (by omega)
 have rc:=zk c 8 (by omega)
 have HKK:=Qq hk;unfold pv;clear hk;go_enter Tryz.func45,Tryz.ntmps45
 go_wp2_with fail;refine(zx _ _ _ (by omega)).mono ?_
 rintro e w1 ⟨rfl,rfl⟩;rw[HKK.out];go_wp2_with fail;go_quiet ((go_at_call 44;exact Calls.quiet_of_same (zx _ _ _ (by omega))))
 generalize zC a 8=A8 at *;generalize zC b 8=B8 at *;generalize zC c 8=C8 at *;go_wp2_with fail;go_quiet (fail)
 generalize hW9:World.drewN _ _=W9
 have b0:zF W9 w.heap.size [.slice fa nf fc,.slice ca nc cc,.int .i64 lk,.slice ka nk kc]:=by rw[←hW9];exact(((zF.mk w [.slice fa nf fc,.slice ca nc cc,.int .i64 lk,.slice ka nk kc] _ _ rfl).below (below_alloc1 _ _)).below (below_alloc1 _ _)).below (by repeat(first|exact Below.refl _ _|refine below_drewN ?_ _|refine Below.drew ?_))
 have b1:zF W9 (w.heap.size+1) [.int .i64 2,.int .i64 a,.int .i64 b,.int .i64 c]:=by rw[←hW9];exact((zF.mk (w.alloc (.cells #[.slice fa nf fc,.slice ca nc cc,.int .i64 lk,.slice ka nk kc] 26)) [.int .i64 2,.int .i64 a,.int .i64 b,.int .i64 c] 80 (w.heap.size+1) (by simp)).below (below_alloc1 _ _)).below (by repeat(first|exact Below.refl _ _|refine below_drewN ?_ _|refine Below.drew ?_))
 have b2:zF W9 (w.heap.size+1+1) [.int .i64 0,.int .i64 0,.int .i64 0,.int .i64 0]:=by rw[←hW9];exact(zF.mk ((w.alloc (.cells #[.slice fa nf fc,.slice ca nc cc,.int .i64 lk,.slice ka nk kc] 26)).alloc (.cells #[.int .i64 2,.int .i64 a,.int .i64 b,.int .i64 c] 80)) [.int .i64 0,.int .i64 0,.int .i64 0,.int .i64 0] 80 (w.heap.size+1+1) (by simp)).below (by repeat(first|exact Below.refl _ _|refine below_drewN ?_ _|refine Below.drew ?_))
 have b3:Below w.heap.size w W9:=by rw[←hW9];repeat(first|exact Below.refl _ _|refine below_drewN ?_ _|refine Below.drew ?_|refine Below.alloc ?_ (by first|(simp;done)|(simp;omega)) _)
 clear hW9;obtain⟨c00,-⟩:=b0 0 _ rfl;obtain⟨c01,-⟩:=b0 1 _ rfl;obtain⟨c02,-⟩:=b0 2 _ rfl;obtain⟨c03,-⟩:=b0 3 _ rfl;obtain⟨c10,-⟩:=b1 0 _ rfl;obtain⟨ZW,-⟩:=b1 1 _ rfl;obtain⟨ZB,-⟩:=b1 2 _ rfl;obtain⟨x6,-⟩:=b1 3 _ rfl;obtain⟨c20,d20⟩:=b2 0 _ rfl;obtain⟨c21,d21⟩:=b2 1 _ rfl;obtain⟨c22,d22⟩:=b2 2 _ rfl;obtain⟨c23,d23⟩:=b2 3 _ rfl;have HZ9:=Qq b2;have HB9:=Qq b3;clear b0 b1 b2 b3;go_wp2_with fail;have e:=yy ((((((HZ9.out)).set 0 (.int .i64 (2))).set 1 (.int .i64 (A8))).set 2 (.int .i64 (B8))).set 3 (.int .i64 (0)))
 exact bodyPost_ret (zu Tryz.results45 _ ⟨w.heap.size+1+1,0,none⟩ rfl e) rfl (xd.mk (2) (A8) (B8) (0) (zX (by unfold yh;omega) (by omega) (by omega) (by first|(simp[goodB];done)|(simp[goodB,xy];done)|(simp[goodB,xy];omega))) (by unfold yh;omega) (HB9.out.trans (by repeat(first|exact Below.refl _ _|refine Below.setCell ?_ (by simp;omega) _|refine Below.drew ?_|refine below_drewN ?_ _))))
theorem DO (fa:Option Addr)(nf fc:Nat)(ca:Option Addr)(nc cc:Nat)(lk:Int)(ka:Option Addr)(nk kc:Nat)(a0:Option Addr)(n cap:Nat)(o a b c:Int)(w:World)(hk:zC o 23=3)(hb:yh b)(h1:1≤nf∧nf≤100)(h2:nc≤100)(h3:nk≤100)(h4:0≤lk∧lk≤100)(h5:1≤n∧n≤100) :
  Calls Tryz.prog 45 #[pv fa nf fc ca nc cc lk ka nk kc,.slice a0 n cap,.agg #[.int .i64 o,.int .i64 a,.int .i64 b,.int .i64 c]] w fun e w'=>xd nf nc nk lk n w e w':=by
 have ra:=zk a 8 (by omega)
 have rb:=zk b 8 (by omega)
 have rc:=zk c 8 (by omega)
 have HKK:=Qq hk;unfold pv;clear hk;go_enter Tryz.func45,Tryz.ntmps45
 go_wp2_with fail;refine(zx _ _ _ (by omega)).mono ?_
 rintro e w1 ⟨rfl,rfl⟩;rw[HKK.out];go_wp2_with fail;go_quiet ((go_at_call 44;exact Calls.quiet_of_same (zx _ _ _ (by omega))))
 generalize zC a 8=A8 at *;generalize zC b 8=B8 at *;generalize zC c 8=C8 at *;go_wp2_with fail;go_quiet (fail)
 generalize hW9:World.drewN _ _=W9
 have b0:zF W9 w.heap.size [.slice fa nf fc,.slice ca nc cc,.int .i64 lk,.slice ka nk kc]:=by rw[←hW9];exact(((zF.mk w [.slice fa nf fc,.slice ca nc cc,.int .i64 lk,.slice ka nk kc] _ _ rfl).below (below_alloc1 _ _)).below (below_alloc1 _ _)).below (by repeat(first|exact Below.refl _ _|refine below_drewN ?_ _|refine Below.drew ?_))
 have b1:zF W9 (w.heap.size+1) [.int .i64 3,.int .i64 a,.int .i64 b,.int .i64 c]:=by rw[←hW9];exact((zF.mk (w.alloc (.cells #[.slice fa nf fc,.slice ca nc cc,.int .i64 lk,.slice ka nk kc] 26)) [.int .i64 3,.int .i64 a,.int .i64 b,.int .i64 c] 80 (w.heap.size+1) (by simp)).below (below_alloc1 _ _)).below (by repeat(first|exact Below.refl _ _|refine below_drewN ?_ _|refine Below.drew ?_))
 have b2:zF W9 (w.heap.size+1+1) [.int .i64 0,.int .i64 0,.int .i64 0,.int .i64 0]:=by rw[←hW9];exact(zF.mk ((w.alloc (.cells #[.slice fa nf fc,.slice ca nc cc,.int .i64 lk,.slice ka nk kc] 26)).alloc (.cells #[.int .i64 3,.int .i64 a,.int .i64 b,.int .i64 c] 80)) [.int .i64 0,.int .i64 0,.int .i64 0,.int .i64 0] 80 (w.heap.size+1+1) (by simp)).below (by repeat(first|exact Below.refl _ _|refine below_drewN ?_ _|refine Below.drew ?_))
 have b3:Below w.heap.size w W9:=by rw[←hW9];repeat(first|exact Below.refl _ _|refine below_drewN ?_ _|refine Below.drew ?_|refine Below.alloc ?_ (by first|(simp;done)|(simp;omega)) _)
 clear hW9;obtain⟨c00,-⟩:=b0 0 _ rfl;obtain⟨c01,-⟩:=b0 1 _ rfl;obtain⟨c02,-⟩:=b0 2 _ rfl;obtain⟨c03,-⟩:=b0 3 _ rfl;obtain⟨c10,-⟩:=b1 0 _ rfl;obtain⟨ZW,-⟩:=b1 1 _ rfl;obtain⟨ZB,-⟩:=b1 2 _ rfl;obtain⟨x6,-⟩:=b1 3 _ rfl;obtain⟨c20,d20⟩:=b2 0 _ rfl;obtain⟨c21,d21⟩:=b2 1 _ rfl;obtain⟨c22,d22⟩:=b2 2 _ rfl;obtain⟨c23,d23⟩:=b2 3 _ rfl;have HZ9:=Qq b2;have HB9:=Qq b3;clear b0 b1 b2 b3;go_wp2_with fail;have e:=yy ((((((HZ9.out)).set 0 (.int .i64 (3))).set 1 (.int .i64 (A8))).set 2 (.int .i64 (B8))).set 3 (.int .i64 (C8)))
 exact bodyPost_ret (zu Tryz.results45 _ ⟨w.heap.size+1+1,0,none⟩ rfl e) rfl (xd.mk (3) (A8) (B8) (C8) (zX (by unfold yh;omega) (by omega) (by omega) (by first|(simp[goodB];done)|(simp[goodB,xy];done)|(simp[goodB,xy];omega))) (by unfold yh;omega) (HB9.out.trans (by repeat(first|exact Below.refl _ _|refine Below.setCell ?_ (by simp;omega) _|refine Below.drew ?_|refine below_drewN ?_ _))))
theorem Co (fa:Option Addr)(nf fc:Nat)(ca:Option Addr)(nc cc:Nat)(lk:Int)(ka:Option Addr)(nk kc:Nat)(a0:Option Addr)(n cap:Nat)(o a b c:Int)(w:World)(hk:zC o 23=4)(hb:yh b)(h1:1≤nf∧nf≤100)(h2:nc≤100)(h3:nk≤100)(h4:0≤lk∧lk≤100)(h5:1≤n∧n≤100) :
  Calls Tryz.prog 45 #[pv fa nf fc ca nc cc lk ka nk kc,.slice a0 n cap,.agg #[.int .i64 o,.int .i64 a,.int .i64 b,.int .i64 c]] w fun e w'=>xd nf nc nk lk n w e w':=by
 have ra:=zk a 8 (by omega)
 have rb:=zk b 8 (by omega)
 have rc:=zk c 8 (by omega)
 have HKK:=Qq hk;unfold pv;clear hk;go_enter Tryz.func45,Tryz.ntmps45
 go_wp2_with fail;refine(zx _ _ _ (by omega)).mono ?_
 rintro e w1 ⟨rfl,rfl⟩;rw[HKK.out];go_wp2_with fail;go_quiet ((go_at_call 44;exact Calls.quiet_of_same (zx _ _ _ (by omega))))
 generalize zC a 8=A8 at *;generalize zC b 8=B8 at *;generalize zC c 8=C8 at *;go_wp2_with fail;go_quiet (fail)
 generalize hW9:World.drewN _ _=W9
 have b0:zF W9 w.heap.size [.slice fa nf fc,.slice ca nc cc,.int .i64 lk,.slice ka nk kc]:=by rw[←hW9];exact(((zF.mk w [.slice fa nf fc,.slice ca nc cc,.int .i64 lk,.slice ka nk kc] _ _ rfl).below (below_alloc1 _ _)).below (below_alloc1 _ _)).below (by repeat(first|exact Below.refl _ _|refine below_drewN ?_ _|refine Below.drew ?_))
 have b1:zF W9 (w.heap.size+1) [.int .i64 4,.int .i64 a,.int .i64 b,.int .i64 c]:=by rw[←hW9];exact((zF.mk (w.alloc (.cells #[.slice fa nf fc,.slice ca nc cc,.int .i64 lk,.slice ka nk kc] 26)) [.int .i64 4,.int .i64 a,.int .i64 b,.int .i64 c] 80 (w.heap.size+1) (by simp)).below (below_alloc1 _ _)).below (by repeat(first|exact Below.refl _ _|refine below_drewN ?_ _|refine Below.drew ?_))
 have b2:zF W9 (w.heap.size+1+1) [.int .i64 0,.int .i64 0,.int .i64 0,.int .i64 0]:=by rw[←hW9];exact(zF.mk ((w.alloc (.cells #[.slice fa nf fc,.slice ca nc cc,.int .i64 lk,.slice ka nk kc] 26)).alloc (.cells #[.int .i64 4,.int .i64 a,.int .i64 b,.int .i64 c] 80)) [.int .i64 0,.int .i64 0,.int .i64 0,.int .i64 0] 80 (w.heap.size+1+1) (by simp)).below (by repeat(first|exact Below.refl _ _|refine below_drewN ?_ _|refine Below.drew ?_))
 have b3:Below w.heap.size w W9:=by rw[←hW9];repeat(first|exact Below.refl _ _|refine below_drewN ?_ _|refine Below.drew ?_|refine Below.alloc ?_ (by first|(simp;done)|(simp;omega)) _)
 clear hW9;obtain⟨c00,-⟩:=b0 0 _ rfl;obtain⟨c01,-⟩:=b0 1 _ rfl;obtain⟨c02,-⟩:=b0 2 _ rfl;obtain⟨c03,-⟩:=b0 3 _ rfl;obtain⟨c10,-⟩:=b1 0 _ rfl;obtain⟨ZW,-⟩:=b1 1 _ rfl;obtain⟨ZB,-⟩:=b1 2 _ rfl;obtain⟨x6,-⟩:=b1 3 _ rfl;obtain⟨c20,d20⟩:=b2 0 _ rfl;obtain⟨c21,d21⟩:=b2 1 _ rfl;obtain⟨c22,d22⟩:=b2 2 _ rfl;obtain⟨c23,d23⟩:=b2 3 _ rfl;have HZ9:=Qq b2;have HB9:=Qq b3;clear b0 b1 b2 b3;go_wp2_with fail;have e:=yy ((((((HZ9.out)).set 0 (.int .i64 (4))).set 1 (.int .i64 (A8))).set 2 (.int .i64 (B8))).set 3 (.int .i64 (C8)))
 exact bodyPost_ret (zu Tryz.results45 _ ⟨w.heap.size+1+1,0,none⟩ rfl e) rfl (xd.mk (4) (A8) (B8) (C8) (zX (by unfold yh;omega) (by omega) (by omega) (by first|(simp[goodB];done)|(simp[goodB,xy];done)|(simp[goodB,xy];omega))) (by unfold yh;omega) (HB9.out.trans (by repeat(first|exact Below.refl _ _|refine Below.setCell ?_ (by simp;omega) _|refine Below.drew ?_|refine below_drewN ?_ _))))
theorem DK (fa:Option Addr)(nf fc:Nat)(ca:Option Addr)(nc cc:Nat)(lk:Int)(ka:Option Addr)(nk kc:Nat)(a0:Option Addr)(n cap:Nat)(o a b c:Int)(w:World)(hk:zC o 23=5)(hb:yh b)(h1:1≤nf∧nf≤100)(h2:nc≤100)(h3:nk≤100)(h4:0≤lk∧lk≤100)(h5:1≤n∧n≤100) :
  Calls Tryz.prog 45 #[pv fa nf fc ca nc cc lk ka nk kc,.slice a0 n cap,.agg #[.int .i64 o,.int .i64 a,.int .i64 b,.int .i64 c]] w fun e w'=>xd nf nc nk lk n w e w':=by
 have ra:=zk a 8 (by omega)
 have rb:=zk b 8 (by omega)
 have rc:=zk c 8 (by omega)
 have HKK:=Qq hk;unfold pv;clear hk;go_enter Tryz.func45,Tryz.ntmps45
 go_wp2_with fail;refine(zx _ _ _ (by omega)).mono ?_
 rintro e w1 ⟨rfl,rfl⟩;rw[HKK.out];go_wp2_with fail;go_quiet ((go_at_call 44;exact Calls.quiet_of_same (zx _ _ _ (by omega))))
 generalize zC a 8=A8 at *;generalize zC b 8=B8 at *;generalize zC c 8=C8 at *;go_wp2_with fail;go_quiet (fail)
 generalize hW9:World.drewN _ _=W9
 have b0:zF W9 w.heap.size [.slice fa nf fc,.slice ca nc cc,.int .i64 lk,.slice ka nk kc]:=by rw[←hW9];exact(((zF.mk w [.slice fa nf fc,.slice ca nc cc,.int .i64 lk,.slice ka nk kc] _ _ rfl).below (below_alloc1 _ _)).below (below_alloc1 _ _)).below (by repeat(first|exact Below.refl _ _|refine below_drewN ?_ _|refine Below.drew ?_))
 have b1:zF W9 (w.heap.size+1) [.int .i64 5,.int .i64 a,.int .i64 b,.int .i64 c]:=by rw[←hW9];exact((zF.mk (w.alloc (.cells #[.slice fa nf fc,.slice ca nc cc,.int .i64 lk,.slice ka nk kc] 26)) [.int .i64 5,.int .i64 a,.int .i64 b,.int .i64 c] 80 (w.heap.size+1) (by simp)).below (below_alloc1 _ _)).below (by repeat(first|exact Below.refl _ _|refine below_drewN ?_ _|refine Below.drew ?_))
 have b2:zF W9 (w.heap.size+1+1) [.int .i64 0,.int .i64 0,.int .i64 0,.int .i64 0]:=by rw[←hW9];exact(zF.mk ((w.alloc (.cells #[.slice fa nf fc,.slice ca nc cc,.int .i64 lk,.slice ka nk kc] 26)).alloc (.cells #[.int .i64 5,.int .i64 a,.int .i64 b,.int .i64 c] 80)) [.int .i64 0,.int .i64 0,.int .i64 0,.int .i64 0] 80 (w.heap.size+1+1) (by simp)).below (by repeat(first|exact Below.refl _ _|refine below_drewN ?_ _|refine Below.drew ?_))
 have b3:Below w.heap.size w W9:=by rw[←hW9];repeat(first|exact Below.refl _ _|refine below_drewN ?_ _|refine Below.drew ?_|refine Below.alloc ?_ (by first|(simp;done)|(simp;omega)) _)
 clear hW9;obtain⟨c00,-⟩:=b0 0 _ rfl;obtain⟨c01,-⟩:=b0 1 _ rfl;obtain⟨c02,-⟩:=b0 2 _ rfl;obtain⟨c03,-⟩:=b0 3 _ rfl;obtain⟨c10,-⟩:=b1 0 _ rfl;obtain⟨ZW,-⟩:=b1 1 _ rfl;obtain⟨ZB,-⟩:=b1 2 _ rfl;obtain⟨x6,-⟩:=b1 3 _ rfl;obtain⟨c20,d20⟩:=b2 0 _ rfl;obtain⟨c21,d21⟩:=b2 1 _ rfl;obtain⟨c22,d22⟩:=b2 2 _ rfl;obtain⟨c23,d23⟩:=b2 3 _ rfl;have HZ9:=Qq b2;have HB9:=Qq b3;clear b0 b1 b2 b3;go_wp2_with fail;have e:=yy ((((((HZ9.out)).set 0 (.int .i64 (5))).set 1 (.int .i64 (A8))).set 2 (.int .i64 (B8))).set 3 (.int .i64 (C8)))
 exact bodyPost_ret (zu Tryz.results45 _ ⟨w.heap.size+1+1,0,none⟩ rfl e) rfl (xd.mk (5) (A8) (B8) (C8) (zX (by unfold yh;omega) (by omega) (by omega) (by first|(simp[goodB];done)|(simp[goodB,xy];done)|(simp[goodB,xy];omega))) (by unfold yh;omega) (HB9.out.trans (by repeat(first|exact Below.refl _ _|refine Below.setCell ?_ (by simp;omega) _|refine Below.drew ?_|refine below_drewN ?_ _))))
theorem DL (fa:Option Addr)(nf fc:Nat)(ca:Option Addr)(nc cc:Nat)(lk:Int)(ka:Option Addr)(nk kc:Nat)(a0:Option Addr)(n cap:Nat)(o a b c:Int)(w:World)(hk:zC o 23=6)(hb:yh b)(h1:1≤nf∧nf≤100)(h2:nc≤100)(h3:nk≤100)(h4:0≤lk∧lk≤100)(h5:1≤n∧n≤100) :
  Calls Tryz.prog 45 #[pv fa nf fc ca nc cc lk ka nk kc,.slice a0 n cap,.agg #[.int .i64 o,.int .i64 a,.int .i64 b,.int .i64 c]] w fun e w'=>xd nf nc nk lk n w e w':=by
 have ra:=zk a 8 (by omega)
 have rb:=zk b 8 (by omega)
 have rc:=zk c 8 (by omega)
 have HKK:=Qq hk;unfold pv;clear hk;go_enter Tryz.func45,Tryz.ntmps45
 go_wp2_with fail;refine(zx _ _ _ (by omega)).mono ?_
 rintro e w1 ⟨rfl,rfl⟩;rw[HKK.out];go_wp2_with fail;go_quiet ((go_at_call 44;exact Calls.quiet_of_same (zx _ _ _ (by omega))))
 generalize zC a 8=A8 at *;generalize zC b 8=B8 at *;generalize zC c 8=C8 at *;go_wp2_with fail;go_quiet (fail)
 generalize hW9:World.drewN _ _=W9
 have b0:zF W9 w.heap.size [.slice fa nf fc,.slice ca nc cc,.int .i64 lk,.slice ka nk kc]:=by rw[←hW9];exact(((zF.mk w [.slice fa nf fc,.slice ca nc cc,.int .i64 lk,.slice ka nk kc] _ _ rfl).below (below_alloc1 _ _)).below (below_alloc1 _ _)).below (by repeat(first|exact Below.refl _ _|refine below_drewN ?_ _|refine Below.drew ?_))
 have b1:zF W9 (w.heap.size+1) [.int .i64 6,.int .i64 a,.int .i64 b,.int .i64 c]:=by rw[←hW9];exact((zF.mk (w.alloc (.cells #[.slice fa nf fc,.slice ca nc cc,.int .i64 lk,.slice ka nk kc] 26)) [.int .i64 6,.int .i64 a,.int .i64 b,.int .i64 c] 80 (w.heap.size+1) (by simp)).below (below_alloc1 _ _)).below (by repeat(first|exact Below.refl _ _|refine below_drewN ?_ _|refine Below.drew ?_))
 have b2:zF W9 (w.heap.size+1+1) [.int .i64 0,.int .i64 0,.int .i64 0,.int .i64 0]:=by rw[←hW9];exact(zF.mk ((w.alloc (.cells #[.slice fa nf fc,.slice ca nc cc,.int .i64 lk,.slice ka nk kc] 26)).alloc (.cells #[.int .i64 6,.int .i64 a,.int .i64 b,.int .i64 c] 80)) [.int .i64 0,.int .i64 0,.int .i64 0,.int .i64 0] 80 (w.heap.size+1+1) (by simp)).below (by repeat(first|exact Below.refl _ _|refine below_drewN ?_ _|refine Below.drew ?_))
 have b3:Below w.heap.size w W9:=by rw[←hW9];repeat(first|exact Below.refl _ _|refine below_drewN ?_ _|refine Below.drew ?_|refine Below.alloc ?_ (by first|(simp;done)|(simp;omega)) _)
 clear hW9;obtain⟨c00,-⟩:=b0 0 _ rfl;obtain⟨c01,-⟩:=b0 1 _ rfl;obtain⟨c02,-⟩:=b0 2 _ rfl;obtain⟨c03,-⟩:=b0 3 _ rfl;obtain⟨c10,-⟩:=b1 0 _ rfl;obtain⟨ZW,-⟩:=b1 1 _ rfl;obtain⟨ZB,-⟩:=b1 2 _ rfl;obtain⟨x6,-⟩:=b1 3 _ rfl;obtain⟨c20,d20⟩:=b2 0 _ rfl;obtain⟨c21,d21⟩:=b2 1 _ rfl;obtain⟨c22,d22⟩:=b2 2 _ rfl;obtain⟨c23,d23⟩:=b2 3 _ rfl;have HZ9:=Qq b2;have HB9:=Qq b3;clear b0 b1 b2 b3;go_wp2_with fail;have e:=yy ((((((HZ9.out)).set 0 (.int .i64 (6))).set 1 (.int .i64 (A8))).set 2 (.int .i64 (B8))).set 3 (.int .i64 (C8)))
 exact bodyPost_ret (zu Tryz.results45 _ ⟨w.heap.size+1+1,0,none⟩ rfl e) rfl (xd.mk (6) (A8) (B8) (C8) (zX (by unfold yh;omega) (by omega) (by omega) (by first|(simp[goodB];done)|(simp[goodB,xy];done)|(simp[goodB,xy];omega))) (by unfold yh;omega) (HB9.out.trans (by repeat(first|exact Below.refl _ _|refine Below.setCell ?_ (by simp;omega) _|refine Below.drew ?_|refine below_drewN ?_ _))))
theorem DI (fa:Option Addr)(nf fc:Nat)(ca:Option Addr)(nc cc:Nat)(lk:Int)(ka:Option Addr)(nk kc:Nat)(a0:Option Addr)(n cap:Nat)(o a b c:Int)(w:World)(hk:zC o 23=7)(hb:yh b)(h1:1≤nf∧nf≤100)(h2:nc≤100)(h3:nk≤100)(h4:0≤lk∧lk≤100)(h5:1≤n∧n≤100) :
  Calls Tryz.prog 45 #[pv fa nf fc ca nc cc lk ka nk kc,.slice a0 n cap,.agg #[.int .i64 o,.int .i64 a,.int .i64 b,.int .i64 c]] w fun e w'=>xd nf nc nk lk n w e w':=by
 have ra:=zk a 8 (by omega)
 have rb:=zk b 8 (by omega)
 have rc:=zk c 8 (by omega)
 have HKK:=Qq hk;unfold pv;clear hk;have rx:=zk a n (by omega)
 go_enter Tryz.func45,Tryz.ntmps45
 go_wp2_with fail;refine(zx _ _ _ (by omega)).mono ?_
 rintro e w1 ⟨rfl,rfl⟩;rw[HKK.out];go_wp2_with fail;go_quiet ((go_at_call 44;exact Calls.quiet_of_same (zx _ _ _ (by omega))))
 generalize zC a 8=A8 at *;generalize zC b 8=B8 at *;generalize zC c 8=C8 at *;go_wp2_with fail;go_quiet (fail)
 generalize hW9:World.drewN _ _=W9
 have b0:zF W9 w.heap.size [.slice fa nf fc,.slice ca nc cc,.int .i64 lk,.slice ka nk kc]:=by rw[←hW9];exact(((zF.mk w [.slice fa nf fc,.slice ca nc cc,.int .i64 lk,.slice ka nk kc] _ _ rfl).below (below_alloc1 _ _)).below (below_alloc1 _ _)).below (by repeat(first|exact Below.refl _ _|refine below_drewN ?_ _|refine Below.drew ?_))
 have b1:zF W9 (w.heap.size+1) [.int .i64 7,.int .i64 a,.int .i64 b,.int .i64 c]:=by rw[←hW9];exact((zF.mk (w.alloc (.cells #[.slice fa nf fc,.slice ca nc cc,.int .i64 lk,.slice ka nk kc] 26)) [.int .i64 7,.int .i64 a,.int .i64 b,.int .i64 c] 80 (w.heap.size+1) (by simp)).below (below_alloc1 _ _)).below (by repeat(first|exact Below.refl _ _|refine below_drewN ?_ _|refine Below.drew ?_))
 have b2:zF W9 (w.heap.size+1+1) [.int .i64 0,.int .i64 0,.int .i64 0,.int .i64 0]:=by rw[←hW9];exact(zF.mk ((w.alloc (.cells #[.slice fa nf fc,.slice ca nc cc,.int .i64 lk,.slice ka nk kc] 26)).alloc (.cells #[.int .i64 7,.int .i64 a,.int .i64 b,.int .i64 c] 80)) [.int .i64 0,.int .i64 0,.int .i64 0,.int .i64 0] 80 (w.heap.size+1+1) (by simp)).below (by repeat(first|exact Below.refl _ _|refine below_drewN ?_ _|refine Below.drew ?_))
 have b3:Below w.heap.size w W9:=by rw[←hW9];repeat(first|exact Below.refl _ _|refine below_drewN ?_ _|refine Below.drew ?_|refine Below.alloc ?_ (by first|(simp;done)|(simp;omega)) _)
 clear hW9;obtain⟨c00,-⟩:=b0 0 _ rfl;obtain⟨c01,-⟩:=b0 1 _ rfl;obtain⟨c02,-⟩:=b0 2 _ rfl;obtain⟨c03,-⟩:=b0 3 _ rfl;obtain⟨c10,-⟩:=b1 0 _ rfl;obtain⟨ZW,-⟩:=b1 1 _ rfl;obtain⟨ZB,-⟩:=b1 2 _ rfl;obtain⟨x6,-⟩:=b1 3 _ rfl;obtain⟨c20,d20⟩:=b2 0 _ rfl;obtain⟨c21,d21⟩:=b2 1 _ rfl;obtain⟨c22,d22⟩:=b2 2 _ rfl;obtain⟨c23,d23⟩:=b2 3 _ rfl;have HZ9:=Qq b2;have HB9:=Qq b3;clear b0 b1 b2 b3;go_wp2_with fail;refine(zx _ _ _ (by omega)).mono ?_
 rintro e w1 ⟨rfl,rfl⟩;generalize zC a ↑n=X at *
 go_wp2_with fail;have e:=yy ((((((HZ9.out)).set 0 (.int .i64 (7))).set 1 (.int .i64 (X))).set 2 (.int .i64 (0))).set 3 (.int .i64 (0)))
 exact bodyPost_ret (zu Tryz.results45 _ ⟨w.heap.size+1+1,0,none⟩ rfl e) rfl (xd.mk (7) (X) (0) (0) (zX (by unfold yh;omega) (by omega) (by omega) (by first|(simp[goodB];done)|(simp[goodB,xy];done)|(simp[goodB,xy];omega))) (by unfold yh;omega) (HB9.out.trans (by repeat(first|exact Below.refl _ _|refine Below.setCell ?_ (by simp;omega) _|refine Below.drew ?_|refine below_drewN ?_ _))))
theorem Cf (fa:Option Addr)(nf fc:Nat)(ca:Option Addr)(nc cc:Nat)(lk:Int)(ka:Option Addr)(nk kc:Nat)(a0:Option Addr)(n cap:Nat)(o a b c:Int)(w:World)(hk:zC o 23=8)(hb:yh b)(h1:1≤nf∧nf≤100)(h2:nc≤100)(h3:nk≤100)(h4:0≤lk∧lk≤100)(h5:1≤n∧n≤100) :
  Calls Tryz.prog 45 #[pv fa nf fc ca nc cc lk ka nk kc,.slice a0 n cap,.agg #[.int .i64 o,.int .i64 a,.int .i64 b,.int .i64 c]] w fun e w'=>xd nf nc nk lk n w e w':=by
 have ra:=zk a 8 (by omega)
 have rb:=zk b 8 (by omega)
 have rc:=zk c 8 (by omega)
 have HKK:=Qq hk;unfold pv;clear hk;have rx:=zk b n (by omega)
 go_enter Tryz.func45,Tryz.ntmps45
 go_wp2_with fail;refine(zx _ _ _ (by omega)).mono ?_
 rintro e w1 ⟨rfl,rfl⟩;rw[HKK.out];go_wp2_with fail;go_quiet ((go_at_call 44;exact Calls.quiet_of_same (zx _ _ _ (by omega))))
 generalize zC a 8=A8 at *;generalize zC b 8=B8 at *;generalize zC c 8=C8 at *;go_wp2_with fail;go_quiet (fail)
 generalize hW9:World.drewN _ _=W9
 have b0:zF W9 w.heap.size [.slice fa nf fc,.slice ca nc cc,.int .i64 lk,.slice ka nk kc]:=by rw[←hW9];exact(((zF.mk w [.slice fa nf fc,.slice ca nc cc,.int .i64 lk,.slice ka nk kc] _ _ rfl).below (below_alloc1 _ _)).below (below_alloc1 _ _)).below (by repeat(first|exact Below.refl _ _|refine below_drewN ?_ _|refine Below.drew ?_))
 have b1:zF W9 (w.heap.size+1) [.int .i64 8,.int .i64 a,.int .i64 b,.int .i64 c]:=by rw[←hW9];exact((zF.mk (w.alloc (.cells #[.slice fa nf fc,.slice ca nc cc,.int .i64 lk,.slice ka nk kc] 26)) [.int .i64 8,.int .i64 a,.int .i64 b,.int .i64 c] 80 (w.heap.size+1) (by simp)).below (below_alloc1 _ _)).below (by repeat(first|exact Below.refl _ _|refine below_drewN ?_ _|refine Below.drew ?_))
 have b2:zF W9 (w.heap.size+1+1) [.int .i64 0,.int .i64 0,.int .i64 0,.int .i64 0]:=by rw[←hW9];exact(zF.mk ((w.alloc (.cells #[.slice fa nf fc,.slice ca nc cc,.int .i64 lk,.slice ka nk kc] 26)).alloc (.cells #[.int .i64 8,.int .i64 a,.int .i64 b,.int .i64 c] 80)) [.int .i64 0,.int .i64 0,.int .i64 0,.int .i64 0] 80 (w.heap.size+1+1) (by simp)).below (by repeat(first|exact Below.refl _ _|refine below_drewN ?_ _|refine Below.drew ?_))
 have b3:Below w.heap.size w W9:=by rw[←hW9];repeat(first|exact Below.refl _ _|refine below_drewN ?_ _|refine Below.drew ?_|refine Below.alloc ?_ (by first|(simp;done)|(simp;omega)) _)
 clear hW9;obtain⟨c00,-⟩:=b0 0 _ rfl;obtain⟨c01,-⟩:=b0 1 _ rfl;obtain⟨c02,-⟩:=b0 2 _ rfl;obtain⟨c03,-⟩:=b0 3 _ rfl;obtain⟨c10,-⟩:=b1 0 _ rfl;obtain⟨ZW,-⟩:=b1 1 _ rfl;obtain⟨ZB,-⟩:=b1 2 _ rfl;obtain⟨x6,-⟩:=b1 3 _ rfl;obtain⟨c20,d20⟩:=b2 0 _ rfl;obtain⟨c21,d21⟩:=b2 1 _ rfl;obtain⟨c22,d22⟩:=b2 2 _ rfl;obtain⟨c23,d23⟩:=b2 3 _ rfl;have HZ9:=Qq b2;have HB9:=Qq b3;clear b0 b1 b2 b3;go_wp2_with fail;refine(zx _ _ _ (by omega)).mono ?_
 rintro e w1 ⟨rfl,rfl⟩;generalize zC b ↑n=X at *
 go_wp2_with fail;have e:=yy ((((((HZ9.out)).set 0 (.int .i64 (8))).set 1 (.int .i64 (A8))).set 2 (.int .i64 (X))).set 3 (.int .i64 (0)))
 exact bodyPost_ret (zu Tryz.results45 _ ⟨w.heap.size+1+1,0,none⟩ rfl e) rfl (xd.mk (8) (A8) (X) (0) (zX (by unfold yh;omega) (by omega) (by omega) (by first|(simp[goodB];done)|(simp[goodB,xy];done)|(simp[goodB,xy];omega))) (by unfold yh;omega) (HB9.out.trans (by repeat(first|exact Below.refl _ _|refine Below.setCell ?_ (by simp;omega) _|refine Below.drew ?_|refine below_drewN ?_ _))))
theorem Cj (fa:Option Addr)(nf fc:Nat)(ca:Option Addr)(nc cc:Nat)(lk:Int)(ka:Option Addr)(nk kc:Nat)(a0:Option Addr)(n cap:Nat)(o a b c:Int)(w:World)(hk:zC o 23=9)(hb:yh b)(h1:1≤nf∧nf≤100)(h2:nc≤100)(h3:nk≤100)(h4:0≤lk∧lk≤100)(h5:1≤n∧n≤100) :
  Calls Tryz.prog 45 #[pv fa nf fc ca nc cc lk ka nk kc,.slice a0 n cap,.agg #[.int .i64 o,.int .i64 a,.int .i64 b,.int .i64 c]] w fun e w'=>xd nf nc nk lk n w e w':=by
 have ra:=zk a 8 (by omega)
 have rb:=zk b 8 (by omega)
 have rc:=zk c 8 (by omega)
 have HKK:=Qq hk;unfold pv;clear hk;have rx:=zk a nf (by omega)
 go_enter Tryz.func45,Tryz.ntmps45
 go_wp2_with fail;refine(zx _ _ _ (by omega)).mono ?_
 rintro e w1 ⟨rfl,rfl⟩;rw[HKK.out];go_wp2_with fail;go_quiet ((go_at_call 44;exact Calls.quiet_of_same (zx _ _ _ (by omega))))
 generalize zC a 8=A8 at *;generalize zC b 8=B8 at *;generalize zC c 8=C8 at *;go_wp2_with fail;go_quiet (fail)
 generalize hW9:World.drewN _ _=W9
 have b0:zF W9 w.heap.size [.slice fa nf fc,.slice ca nc cc,.int .i64 lk,.slice ka nk kc]:=by rw[←hW9];exact(((zF.mk w [.slice fa nf fc,.slice ca nc cc,.int .i64 lk,.slice ka nk kc] _ _ rfl).below (below_alloc1 _ _)).below (below_alloc1 _ _)).below (by repeat(first|exact Below.refl _ _|refine below_drewN ?_ _|refine Below.drew ?_))
 have b1:zF W9 (w.heap.size+1) [.int .i64 9,.int .i64 a,.int .i64 b,.int .i64 c]:=by rw[←hW9];exact((zF.mk (w.alloc (.cells #[.slice fa nf fc,.slice ca nc cc,.int .i64 lk,.slice ka nk kc] 26)) [.int .i64 9,.int .i64 a,.int .i64 b,.int .i64 c] 80 (w.heap.size+1) (by simp)).below (below_alloc1 _ _)).below (by repeat(first|exact Below.refl _ _|refine below_drewN ?_ _|refine Below.drew ?_))
 have b2:zF W9 (w.heap.size+1+1) [.int .i64 0,.int .i64 0,.int .i64 0,.int .i64 0]:=by rw[←hW9];exact(zF.mk ((w.alloc (.cells #[.slice fa nf fc,.slice ca nc cc,.int .i64 lk,.slice ka nk kc] 26)).alloc (.cells #[.int .i64 9,.int .i64 a,.int .i64 b,.int .i64 c] 80)) [.int .i64 0,.int .i64 0,.int .i64 0,.int .i64 0] 80 (w.heap.size+1+1) (by simp)).below (by repeat(first|exact Below.refl _ _|refine below_drewN ?_ _|refine Below.drew ?_))
 have b3:Below w.heap.size w W9:=by rw[←hW9];repeat(first|exact Below.refl _ _|refine below_drewN ?_ _|refine Below.drew ?_|refine Below.alloc ?_ (by first|(simp;done)|(simp;omega)) _)
 clear hW9;obtain⟨c00,-⟩:=b0 0 _ rfl;obtain⟨c01,-⟩:=b0 1 _ rfl;obtain⟨c02,-⟩:=b0 2 _ rfl;obtain⟨c03,-⟩:=b0 3 _ rfl;obtain⟨c10,-⟩:=b1 0 _ rfl;obtain⟨ZW,-⟩:=b1 1 _ rfl;obtain⟨ZB,-⟩:=b1 2 _ rfl;obtain⟨x6,-⟩:=b1 3 _ rfl;obtain⟨c20,d20⟩:=b2 0 _ rfl;obtain⟨c21,d21⟩:=b2 1 _ rfl;obtain⟨c22,d22⟩:=b2 2 _ rfl;obtain⟨c23,d23⟩:=b2 3 _ rfl;have HZ9:=Qq b2;have HB9:=Qq b3;clear b0 b1 b2 b3;go_wp2_with fail;refine wp_region_still_tail 9 (by kernel_rfl) (by kernel_rfl) ?_
 simp only[QX,QV,QQ,QJ];repeat(first|still_step|still_call (zx _ _ _ (by omega)))
 refine wpStill_nil ?_;generalize zC a ↑nf=X at *
 go_wp2_with fail;have e:=yy ((((((HZ9.out).below (zg _)).set 0 (.int .i64 (9))).set 1 (.int .i64 (X))).set 2 (.int .i64 (B8))).set 3 (.int .i64 (C8)))
 exact bodyPost_ret (zu Tryz.results45 _ ⟨w.heap.size+1+1,0,none⟩ rfl e) rfl (xd.mk (9) (X) (B8) (C8) (zX (by unfold yh;omega) (by omega) (by omega) (by first|(simp[goodB];done)|(simp[goodB,xy];done)|(simp[goodB,xy];omega))) (by unfold yh;omega) (HB9.out.trans (by repeat(first|exact Below.refl _ _|refine Below.setCell ?_ (by simp;omega) _|refine Below.drew ?_|refine below_drewN ?_ _))))
theorem EY (fa:Option Addr)(nf fc:Nat)(ca:Option Addr)(nc cc:Nat)(lk:Int)(ka:Option Addr)(nk kc:Nat)(a0:Option Addr)(n cap:Nat)(o a b c:Int)(w:World)(hk:zC o 23=10)(hb:yh b)(h1:1≤nf∧nf≤100)(h2:nc≤100)(h3:nk≤100)(h4:0≤lk∧lk≤100)(h5:1≤n∧n≤100) :
  Calls Tryz.prog 45 #[pv fa nf fc ca nc cc lk ka nk kc,.slice a0 n cap,.agg #[.int .i64 o,.int .i64 a,.int .i64 b,.int .i64 c]] w fun e w'=>xd nf nc nk lk n w e w':=by
 have ra:=zk a 8 (by omega)
 have rb:=zk b 8 (by omega)
 have rc:=zk c 8 (by omega)
 have HKK:=Qq hk;unfold pv;clear hk;go_enter Tryz.func45,Tryz.ntmps45
 go_wp2_with fail;refine(zx _ _ _ (by omega)).mono ?_
 rintro e w1 ⟨rfl,rfl⟩;rw[HKK.out];go_wp2_with fail;go_quiet ((go_at_call 44;exact Calls.quiet_of_same (zx _ _ _ (by omega))))
 generalize zC a 8=A8 at *;generalize zC b 8=B8 at *;generalize zC c 8=C8 at *;go_wp2_with fail;go_quiet (fail)
 generalize hW9:World.drewN _ _=W9
 have b0:zF W9 w.heap.size [.slice fa nf fc,.slice ca nc cc,.int .i64 lk,.slice ka nk kc]:=by rw[←hW9];exact(((zF.mk w [.slice fa nf fc,.slice ca nc cc,.int .i64 lk,.slice ka nk kc] _ _ rfl).below (below_alloc1 _ _)).below (below_alloc1 _ _)).below (by repeat(first|exact Below.refl _ _|refine below_drewN ?_ _|refine Below.drew ?_))
 have b1:zF W9 (w.heap.size+1) [.int .i64 10,.int .i64 a,.int .i64 b,.int .i64 c]:=by rw[←hW9];exact((zF.mk (w.alloc (.cells #[.slice fa nf fc,.slice ca nc cc,.int .i64 lk,.slice ka nk kc] 26)) [.int .i64 10,.int .i64 a,.int .i64 b,.int .i64 c] 80 (w.heap.size+1) (by simp)).below (below_alloc1 _ _)).below (by repeat(first|exact Below.refl _ _|refine below_drewN ?_ _|refine Below.drew ?_))
 have b2:zF W9 (w.heap.size+1+1) [.int .i64 0,.int .i64 0,.int .i64 0,.int .i64 0]:=by rw[←hW9];exact(zF.mk ((w.alloc (.cells #[.slice fa nf fc,.slice ca nc cc,.int .i64 lk,.slice ka nk kc] 26)).alloc (.cells #[.int .i64 10,.int .i64 a,.int .i64 b,.int .i64 c] 80)) [.int .i64 0,.int .i64 0,.int .i64 0,.int .i64 0] 80 (w.heap.size+1+1) (by simp)).below (by repeat(first|exact Below.refl _ _|refine below_drewN ?_ _|refine Below.drew ?_))
 have b3:Below w.heap.size w W9:=by rw[←hW9];repeat(first|exact Below.refl _ _|refine below_drewN ?_ _|refine Below.drew ?_|refine Below.alloc ?_ (by first|(simp;done)|(simp;omega)) _)
 clear hW9;obtain⟨c00,-⟩:=b0 0 _ rfl;obtain⟨c01,-⟩:=b0 1 _ rfl;obtain⟨c02,-⟩:=b0 2 _ rfl;obtain⟨c03,-⟩:=b0 3 _ rfl;obtain⟨c10,-⟩:=b1 0 _ rfl;obtain⟨ZW,-⟩:=b1 1 _ rfl;obtain⟨ZB,-⟩:=b1 2 _ rfl;obtain⟨x6,-⟩:=b1 3 _ rfl;obtain⟨c20,d20⟩:=b2 0 _ rfl;obtain⟨c21,d21⟩:=b2 1 _ rfl;obtain⟨c22,d22⟩:=b2 2 _ rfl;obtain⟨c23,d23⟩:=b2 3 _ rfl;have HZ9:=Qq b2;have HB9:=Qq b3;clear b0 b1 b2 b3;go_wp2_with fail;have e:=yy ((((((HZ9.out)).set 0 (.int .i64 (10))).set 1 (.int .i64 (A8))).set 2 (.int .i64 (0))).set 3 (.int .i64 (0)))
 exact bodyPost_ret (zu Tryz.results45 _ ⟨w.heap.size+1+1,0,none⟩ rfl e) rfl (xd.mk (10) (A8) (0) (0) (zX (by unfold yh;omega) (by omega) (by omega) (by first|(simp[goodB];done)|(simp[goodB,xy];done)|(simp[goodB,xy];omega))) (by unfold yh;omega) (HB9.out.trans (by repeat(first|exact Below.refl _ _|refine Below.setCell ?_ (by simp;omega) _|refine Below.drew ?_|refine below_drewN ?_ _))))
theorem Ei (fa:Option Addr)(nf fc:Nat)(ca:Option Addr)(nc cc:Nat)(lk:Int)(ka:Option Addr)(nk kc:Nat)(a0:Option Addr)(n cap:Nat)(o a b c:Int)(w:World)(hk:zC o 23=11)(hb:yh b)(h1:1≤nf∧nf≤100)(h2:nc≤100)(h3:nk≤100)(h4:0≤lk∧lk≤100)(h5:1≤n∧n≤100) :
  Calls Tryz.prog 45 #[pv fa nf fc ca nc cc lk ka nk kc,.slice a0 n cap,.agg #[.int .i64 o,.int .i64 a,.int .i64 b,.int .i64 c]] w fun e w'=>xd nf nc nk lk n w e w':=by
 have ra:=zk a 8 (by omega)
 have rb:=zk b 8 (by omega)
 have rc:=zk c 8 (by omega)
 have HKK:=Qq hk;unfold pv;clear hk;have rx:=zk a nf (by omega)
 go_enter Tryz.func45,Tryz.ntmps45
 go_wp2_with fail;refine(zx _ _ _ (by omega)).mono ?_
 rintro e w1 ⟨rfl,rfl⟩;rw[HKK.out];go_wp2_with fail;go_quiet ((go_at_call 44;exact Calls.quiet_of_same (zx _ _ _ (by omega))))
 generalize zC a 8=A8 at *;generalize zC b 8=B8 at *;generalize zC c 8=C8 at *;go_wp2_with fail;go_quiet (fail)
 generalize hW9:World.drewN _ _=W9
 have b0:zF W9 w.heap.size [.slice fa nf fc,.slice ca nc cc,.int .i64 lk,.slice ka nk kc]:=by rw[←hW9];exact(((zF.mk w [.slice fa nf fc,.slice ca nc cc,.int .i64 lk,.slice ka nk kc] _ _ rfl).below (below_alloc1 _ _)).below (below_alloc1 _ _)).below (by repeat(first|exact Below.refl _ _|refine below_drewN ?_ _|refine Below.drew ?_))
 have b1:zF W9 (w.heap.size+1) [.int .i64 11,.int .i64 a,.int .i64 b,.int .i64 c]:=by rw[←hW9];exact((zF.mk (w.alloc (.cells #[.slice fa nf fc,.slice ca nc cc,.int .i64 lk,.slice ka nk kc] 26)) [.int .i64 11,.int .i64 a,.int .i64 b,.int .i64 c] 80 (w.heap.size+1) (by simp)).below (below_alloc1 _ _)).below (by repeat(first|exact Below.refl _ _|refine below_drewN ?_ _|refine Below.drew ?_))
 have b2:zF W9 (w.heap.size+1+1) [.int .i64 0,.int .i64 0,.int .i64 0,.int .i64 0]:=by rw[←hW9];exact(zF.mk ((w.alloc (.cells #[.slice fa nf fc,.slice ca nc cc,.int .i64 lk,.slice ka nk kc] 26)).alloc (.cells #[.int .i64 11,.int .i64 a,.int .i64 b,.int .i64 c] 80)) [.int .i64 0,.int .i64 0,.int .i64 0,.int .i64 0] 80 (w.heap.size+1+1) (by simp)).below (by repeat(first|exact Below.refl _ _|refine below_drewN ?_ _|refine Below.drew ?_))
 have b3:Below w.heap.size w W9:=by rw[←hW9];repeat(first|exact Below.refl _ _|refine below_drewN ?_ _|refine Below.drew ?_|refine Below.alloc ?_ (by first|(simp;done)|(simp;omega)) _)
 clear hW9;obtain⟨c00,-⟩:=b0 0 _ rfl;obtain⟨c01,-⟩:=b0 1 _ rfl;obtain⟨c02,-⟩:=b0 2 _ rfl;obtain⟨c03,-⟩:=b0 3 _ rfl;obtain⟨c10,-⟩:=b1 0 _ rfl;obtain⟨ZW,-⟩:=b1 1 _ rfl;obtain⟨ZB,-⟩:=b1 2 _ rfl;obtain⟨x6,-⟩:=b1 3 _ rfl;obtain⟨c20,d20⟩:=b2 0 _ rfl;obtain⟨c21,d21⟩:=b2 1 _ rfl;obtain⟨c22,d22⟩:=b2 2 _ rfl;obtain⟨c23,d23⟩:=b2 3 _ rfl;have HZ9:=Qq b2;have HB9:=Qq b3;clear b0 b1 b2 b3;go_wp2_with fail;refine wp_region_still_tail 9 (by kernel_rfl) (by kernel_rfl) ?_
 simp only[QX,QV,QQ,QJ];repeat(first|still_step|still_call (zx _ _ _ (by omega)))
 refine wpStill_nil ?_;generalize zC a ↑nf=X at *
 go_wp2_with fail;have e:=yy ((((((HZ9.out).below (zg _)).set 0 (.int .i64 (11))).set 1 (.int .i64 (X))).set 2 (.int .i64 (B8))).set 3 (.int .i64 (C8)))
 exact bodyPost_ret (zu Tryz.results45 _ ⟨w.heap.size+1+1,0,none⟩ rfl e) rfl (xd.mk (11) (X) (B8) (C8) (zX (by unfold yh;omega) (by omega) (by omega) (by first|(simp[goodB];done)|(simp[goodB,xy];done)|(simp[goodB,xy];omega))) (by unfold yh;omega) (HB9.out.trans (by repeat(first|exact Below.refl _ _|refine Below.setCell ?_ (by simp;omega) _|refine Below.drew ?_|refine below_drewN ?_ _))))
theorem EW (fa:Option Addr)(nf fc:Nat)(ca:Option Addr)(nc cc:Nat)(lk:Int)(ka:Option Addr)(nk kc:Nat)(a0:Option Addr)(n cap:Nat)(o a b c:Int)(w:World)(hk:zC o 23=12)(hb:yh b)(h1:1≤nf∧nf≤100)(h2:nc≤100)(h3:nk≤100)(h4:0≤lk∧lk≤100)(h5:1≤n∧n≤100) :
  Calls Tryz.prog 45 #[pv fa nf fc ca nc cc lk ka nk kc,.slice a0 n cap,.agg #[.int .i64 o,.int .i64 a,.int .i64 b,.int .i64 c]] w fun e w'=>xd nf nc nk lk n w e w':=by
 have ra:=zk a 8 (by omega)
 have rb:=zk b 8 (by omega)
 have rc:=zk c 8 (by omega)
 have HKK:=Qq hk;unfold pv;clear hk;go_enter Tryz.func45,Tryz.ntmps45
 go_wp2_with fail;refine(zx _ _ _ (by omega)).mono ?_
 rintro e w1 ⟨rfl,rfl⟩;rw[HKK.out];go_wp2_with fail;go_quiet ((go_at_call 44;exact Calls.quiet_of_same (zx _ _ _ (by omega))))
 generalize zC a 8=A8 at *;generalize zC b 8=B8 at *;generalize zC c 8=C8 at *;go_wp2_with fail;go_quiet (fail)
 generalize hW9:World.drewN _ _=W9
 have b0:zF W9 w.heap.size [.slice fa nf fc,.slice ca nc cc,.int .i64 lk,.slice ka nk kc]:=by rw[←hW9];exact(((zF.mk w [.slice fa nf fc,.slice ca nc cc,.int .i64 lk,.slice ka nk kc] _ _ rfl).below (below_alloc1 _ _)).below (below_alloc1 _ _)).below (by repeat(first|exact Below.refl _ _|refine below_drewN ?_ _|refine Below.drew ?_))
 have b1:zF W9 (w.heap.size+1) [.int .i64 12,.int .i64 a,.int .i64 b,.int .i64 c]:=by rw[←hW9];exact((zF.mk (w.alloc (.cells #[.slice fa nf fc,.slice ca nc cc,.int .i64 lk,.slice ka nk kc] 26)) [.int .i64 12,.int .i64 a,.int .i64 b,.int .i64 c] 80 (w.heap.size+1) (by simp)).below (below_alloc1 _ _)).below (by repeat(first|exact Below.refl _ _|refine below_drewN ?_ _|refine Below.drew ?_))
 have b2:zF W9 (w.heap.size+1+1) [.int .i64 0,.int .i64 0,.int .i64 0,.int .i64 0]:=by rw[←hW9];exact(zF.mk ((w.alloc (.cells #[.slice fa nf fc,.slice ca nc cc,.int .i64 lk,.slice ka nk kc] 26)).alloc (.cells #[.int .i64 12,.int .i64 a,.int .i64 b,.int .i64 c] 80)) [.int .i64 0,.int .i64 0,.int .i64 0,.int .i64 0] 80 (w.heap.size+1+1) (by simp)).below (by repeat(first|exact Below.refl _ _|refine below_drewN ?_ _|refine Below.drew ?_))
 have b3:Below w.heap.size w W9:=by rw[←hW9];repeat(first|exact Below.refl _ _|refine below_drewN ?_ _|refine Below.drew ?_|refine Below.alloc ?_ (by first|(simp;done)|(simp;omega)) _)
 clear hW9;obtain⟨c00,-⟩:=b0 0 _ rfl;obtain⟨c01,-⟩:=b0 1 _ rfl;obtain⟨c02,-⟩:=b0 2 _ rfl;obtain⟨c03,-⟩:=b0 3 _ rfl;obtain⟨c10,-⟩:=b1 0 _ rfl;obtain⟨ZW,-⟩:=b1 1 _ rfl;obtain⟨ZB,-⟩:=b1 2 _ rfl;obtain⟨x6,-⟩:=b1 3 _ rfl;obtain⟨c20,d20⟩:=b2 0 _ rfl;obtain⟨c21,d21⟩:=b2 1 _ rfl;obtain⟨c22,d22⟩:=b2 2 _ rfl;obtain⟨c23,d23⟩:=b2 3 _ rfl;have HZ9:=Qq b2;have HB9:=Qq b3;clear b0 b1 b2 b3;go_wp2_with fail;have e:=yy ((((((HZ9.out)).set 0 (.int .i64 (12))).set 1 (.int .i64 (0))).set 2 (.int .i64 (0))).set 3 (.int .i64 (0)))
 exact bodyPost_ret (zu Tryz.results45 _ ⟨w.heap.size+1+1,0,none⟩ rfl e) rfl (xd.mk (12) (0) (0) (0) (zX (by unfold yh;omega) (by omega) (by omega) (by first|(simp[goodB];done)|(simp[goodB,xy];done)|(simp[goodB,xy];omega))) (by unfold yh;omega) (HB9.out.trans (by repeat(first|exact Below.refl _ _|refine Below.setCell ?_ (by simp;omega) _|refine Below.drew ?_|refine below_drewN ?_ _))))
theorem EN (fa:Option Addr)(nf fc:Nat)(ca:Option Addr)(nc cc:Nat)(lk:Int)(ka:Option Addr)(nk kc:Nat)(a0:Option Addr)(n cap:Nat)(o a b c:Int)(w:World)(hk:zC o 23=16)(hb:yh b)(h1:1≤nf∧nf≤100)(h2:nc≤100)(h3:nk≤100)(h4:0≤lk∧lk≤100)(h5:1≤n∧n≤100) :
  Calls Tryz.prog 45 #[pv fa nf fc ca nc cc lk ka nk kc,.slice a0 n cap,.agg #[.int .i64 o,.int .i64 a,.int .i64 b,.int .i64 c]] w fun e w'=>xd nf nc nk lk n w e w':=by
 have ra:=zk a 8 (by omega)
 have rb:=zk b 8 (by omega)
 have rc:=zk c 8 (by omega)
 have HKK:=Qq hk;unfold pv;clear hk;by_cases hz:nk=0
 ·subst hz
  go_enter Tryz.func45,Tryz.ntmps45
  go_wp2_with fail;refine(zx _ _ _ (by omega)).mono ?_
  rintro e w1 ⟨rfl,rfl⟩;rw[HKK.out];go_wp2_with fail;go_quiet ((go_at_call 44;exact Calls.quiet_of_same (zx _ _ _ (by omega))))
  generalize zC a 8=A8 at *;generalize zC b 8=B8 at *;generalize zC c 8=C8 at *;go_wp2_with fail;go_quiet (fail)
  generalize hW9:World.drewN _ _=W9
  have b0:zF W9 w.heap.size [.slice fa nf fc,.slice ca nc cc,.int .i64 lk,.slice ka 0 kc]:=by rw[←hW9];exact(((zF.mk w [.slice fa nf fc,.slice ca nc cc,.int .i64 lk,.slice ka 0 kc] _ _ rfl).below (below_alloc1 _ _)).below (below_alloc1 _ _)).below (by repeat(first|exact Below.refl _ _|refine below_drewN ?_ _|refine Below.drew ?_))
  have b1:zF W9 (w.heap.size+1) [.int .i64 16,.int .i64 a,.int .i64 b,.int .i64 c]:=by rw[←hW9];exact((zF.mk (w.alloc (.cells #[.slice fa nf fc,.slice ca nc cc,.int .i64 lk,.slice ka 0 kc] 26)) [.int .i64 16,.int .i64 a,.int .i64 b,.int .i64 c] 80 (w.heap.size+1) (by simp)).below (below_alloc1 _ _)).below (by repeat(first|exact Below.refl _ _|refine below_drewN ?_ _|refine Below.drew ?_))
  have b2:zF W9 (w.heap.size+1+1) [.int .i64 0,.int .i64 0,.int .i64 0,.int .i64 0]:=by rw[←hW9];exact(zF.mk ((w.alloc (.cells #[.slice fa nf fc,.slice ca nc cc,.int .i64 lk,.slice ka 0 kc] 26)).alloc (.cells #[.int .i64 16,.int .i64 a,.int .i64 b,.int .i64 c] 80)) [.int .i64 0,.int .i64 0,.int .i64 0,.int .i64 0] 80 (w.heap.size+1+1) (by simp)).below (by repeat(first|exact Below.refl _ _|refine below_drewN ?_ _|refine Below.drew ?_))
  have b3:Below w.heap.size w W9:=by rw[←hW9];repeat(first|exact Below.refl _ _|refine below_drewN ?_ _|refine Below.drew ?_|refine Below.alloc ?_ (by first|(simp;done)|(simp;omega)) _)
  clear hW9;obtain⟨c00,-⟩:=b0 0 _ rfl;obtain⟨c01,-⟩:=b0 1 _ rfl;obtain⟨c02,-⟩:=b0 2 _ rfl;obtain⟨c03,-⟩:=b0 3 _ rfl;obtain⟨c10,-⟩:=b1 0 _ rfl;obtain⟨ZW,-⟩:=b1 1 _ rfl;obtain⟨ZB,-⟩:=b1 2 _ rfl;obtain⟨x6,-⟩:=b1 3 _ rfl;obtain⟨c20,d20⟩:=b2 0 _ rfl;obtain⟨c21,d21⟩:=b2 1 _ rfl;obtain⟨c22,d22⟩:=b2 2 _ rfl;obtain⟨c23,d23⟩:=b2 3 _ rfl;have HZ9:=Qq b2;have HB9:=Qq b3;clear b0 b1 b2 b3;go_wp2_with fail;have e:=yy ((((((HZ9.out)).set 0 (.int .i64 (0))).set 1 (.int .i64 (0))).set 2 (.int .i64 (0))).set 3 (.int .i64 (0)))
  exact bodyPost_ret (zu Tryz.results45 _ ⟨w.heap.size+1+1,0,none⟩ rfl e) rfl (xd.mk (0) (0) (0) (0) (zX (by unfold yh;omega) (by omega) (by omega) (by first|(simp[goodB];done)|(simp[goodB,xy];done)|(simp[goodB,xy];omega))) (by unfold yh;omega) (HB9.out.trans (by repeat(first|exact Below.refl _ _|refine Below.setCell ?_ (by simp;omega) _|refine Below.drew ?_|refine below_drewN ?_ _))))
 ·skip
  have rx:=zk a nk (by omega)
  have ry:=zk b (nk-zC a nk) (by omega)
  have hz2:¬(nk:Int)=0:=by omega
  go_enter Tryz.func45,Tryz.ntmps45
  go_wp2_with fail;refine(zx _ _ _ (by omega)).mono ?_
  rintro e w1 ⟨rfl,rfl⟩;rw[HKK.out];go_wp2_with fail;go_quiet ((go_at_call 44;exact Calls.quiet_of_same (zx _ _ _ (by omega))))
  generalize zC a 8=A8 at *;generalize zC b 8=B8 at *;generalize zC c 8=C8 at *;go_wp2_with fail;go_quiet (fail)
  generalize hW9:World.drewN _ _=W9
  have b0:zF W9 w.heap.size [.slice fa nf fc,.slice ca nc cc,.int .i64 lk,.slice ka nk kc]:=by rw[←hW9];exact(((zF.mk w [.slice fa nf fc,.slice ca nc cc,.int .i64 lk,.slice ka nk kc] _ _ rfl).below (below_alloc1 _ _)).below (below_alloc1 _ _)).below (by repeat(first|exact Below.refl _ _|refine below_drewN ?_ _|refine Below.drew ?_))
  have b1:zF W9 (w.heap.size+1) [.int .i64 16,.int .i64 a,.int .i64 b,.int .i64 c]:=by rw[←hW9];exact((zF.mk (w.alloc (.cells #[.slice fa nf fc,.slice ca nc cc,.int .i64 lk,.slice ka nk kc] 26)) [.int .i64 16,.int .i64 a,.int .i64 b,.int .i64 c] 80 (w.heap.size+1) (by simp)).below (below_alloc1 _ _)).below (by repeat(first|exact Below.refl _ _|refine below_drewN ?_ _|refine Below.drew ?_))
  have b2:zF W9 (w.heap.size+1+1) [.int .i64 0,.int .i64 0,.int .i64 0,.int .i64 0]:=by rw[←hW9];exact(zF.mk ((w.alloc (.cells #[.slice fa nf fc,.slice ca nc cc,.int .i64 lk,.slice ka nk kc] 26)).alloc (.cells #[.int .i64 16,.int .i64 a,.int .i64 b,.int .i64 c] 80)) [.int .i64 0,.int .i64 0,.int .i64 0,.int .i64 0] 80 (w.heap.size+1+1) (by simp)).below (by repeat(first|exact Below.refl _ _|refine below_drewN ?_ _|refine Below.drew ?_))
  have b3:Below w.heap.size w W9:=by rw[←hW9];repeat(first|exact Below.refl _ _|refine below_drewN ?_ _|refine Below.drew ?_|refine Below.alloc ?_ (by first|(simp;done)|(simp;omega)) _)
  clear hW9;obtain⟨c00,-⟩:=b0 0 _ rfl;obtain⟨c01,-⟩:=b0 1 _ rfl;obtain⟨c02,-⟩:=b0 2 _ rfl;obtain⟨c03,-⟩:=b0 3 _ rfl;obtain⟨c10,-⟩:=b1 0 _ rfl;obtain⟨ZW,-⟩:=b1 1 _ rfl;obtain⟨ZB,-⟩:=b1 2 _ rfl;obtain⟨x6,-⟩:=b1 3 _ rfl;obtain⟨c20,d20⟩:=b2 0 _ rfl;obtain⟨c21,d21⟩:=b2 1 _ rfl;obtain⟨c22,d22⟩:=b2 2 _ rfl;obtain⟨c23,d23⟩:=b2 3 _ rfl;have HZ9:=Qq b2;have HB9:=Qq b3;clear b0 b1 b2 b3;go_wp2_with fail;refine(zx _ _ _ (by omega)).mono ?_
  rintro e w1 ⟨rfl,rfl⟩;generalize zC a ↑nk=X at *
  go_wp2_with fail;refine(zx _ _ _ (by omega)).mono ?_
  rintro e w1 ⟨rfl,rfl⟩;generalize zC b (↑nk-X)=Y at *
  go_wp2_with fail;have e:=yy ((((((HZ9.out)).set 0 (.int .i64 (16))).set 1 (.int .i64 (X))).set 2 (.int .i64 (1+Y))).set 3 (.int .i64 (C8)))
  exact bodyPost_ret (zu Tryz.results45 _ ⟨w.heap.size+1+1,0,none⟩ rfl e) rfl (xd.mk (16) (X) (1+Y) (C8) (zX (by unfold yh;omega) (by omega) (by omega) (by first|(simp[goodB];done)|(simp[goodB,xy];done)|(simp[goodB,xy];omega))) (by unfold yh;omega) (HB9.out.trans (by repeat(first|exact Below.refl _ _|refine Below.setCell ?_ (by simp;omega) _|refine Below.drew ?_|refine below_drewN ?_ _))))
theorem Db (fa:Option Addr)(nf fc:Nat)(ca:Option Addr)(nc cc:Nat)(lk:Int)(ka:Option Addr)(nk kc:Nat)(a0:Option Addr)(n cap:Nat)(o a b c:Int)(w:World)(hk:zC o 23=17)(hb:yh b)(h1:1≤nf∧nf≤100)(h2:nc≤100)(h3:nk≤100)(h4:0≤lk∧lk≤100)(h5:1≤n∧n≤100) :
  Calls Tryz.prog 45 #[pv fa nf fc ca nc cc lk ka nk kc,.slice a0 n cap,.agg #[.int .i64 o,.int .i64 a,.int .i64 b,.int .i64 c]] w fun e w'=>xd nf nc nk lk n w e w':=by
 have ra:=zk a 8 (by omega)
 have rb:=zk b 8 (by omega)
 have rc:=zk c 8 (by omega)
 have HKK:=Qq hk;unfold pv;clear hk;go_enter Tryz.func45,Tryz.ntmps45
 go_wp2_with fail;refine(zx _ _ _ (by omega)).mono ?_
 rintro e w1 ⟨rfl,rfl⟩;rw[HKK.out];go_wp2_with fail;go_quiet ((go_at_call 44;exact Calls.quiet_of_same (zx _ _ _ (by omega))))
 generalize zC a 8=A8 at *;generalize zC b 8=B8 at *;generalize zC c 8=C8 at *;go_wp2_with fail;go_quiet (fail)
 generalize hW9:World.drewN _ _=W9
 have b0:zF W9 w.heap.size [.slice fa nf fc,.slice ca nc cc,.int .i64 lk,.slice ka nk kc]:=by rw[←hW9];exact(((zF.mk w [.slice fa nf fc,.slice ca nc cc,.int .i64 lk,.slice ka nk kc] _ _ rfl).below (below_alloc1 _ _)).below (below_alloc1 _ _)).below (by repeat(first|exact Below.refl _ _|refine below_drewN ?_ _|refine Below.drew ?_))
 have b1:zF W9 (w.heap.size+1) [.int .i64 17,.int .i64 a,.int .i64 b,.int .i64 c]:=by rw[←hW9];exact((zF.mk (w.alloc (.cells #[.slice fa nf fc,.slice ca nc cc,.int .i64 lk,.slice ka nk kc] 26)) [.int .i64 17,.int .i64 a,.int .i64 b,.int .i64 c] 80 (w.heap.size+1) (by simp)).below (below_alloc1 _ _)).below (by repeat(first|exact Below.refl _ _|refine below_drewN ?_ _|refine Below.drew ?_))
 have b2:zF W9 (w.heap.size+1+1) [.int .i64 0,.int .i64 0,.int .i64 0,.int .i64 0]:=by rw[←hW9];exact(zF.mk ((w.alloc (.cells #[.slice fa nf fc,.slice ca nc cc,.int .i64 lk,.slice ka nk kc] 26)).alloc (.cells #[.int .i64 17,.int .i64 a,.int .i64 b,.int .i64 c] 80)) [.int .i64 0,.int .i64 0,.int .i64 0,.int .i64 0] 80 (w.heap.size+1+1) (by simp)).below (by repeat(first|exact Below.refl _ _|refine below_drewN ?_ _|refine Below.drew ?_))
 have b3:Below w.heap.size w W9:=by rw[←hW9];repeat(first|exact Below.refl _ _|refine below_drewN ?_ _|refine Below.drew ?_|refine Below.alloc ?_ (by first|(simp;done)|(simp;omega)) _)
 clear hW9;obtain⟨c00,-⟩:=b0 0 _ rfl;obtain⟨c01,-⟩:=b0 1 _ rfl;obtain⟨c02,-⟩:=b0 2 _ rfl;obtain⟨c03,-⟩:=b0 3 _ rfl;obtain⟨c10,-⟩:=b1 0 _ rfl;obtain⟨ZW,-⟩:=b1 1 _ rfl;obtain⟨ZB,-⟩:=b1 2 _ rfl;obtain⟨x6,-⟩:=b1 3 _ rfl;obtain⟨c20,d20⟩:=b2 0 _ rfl;obtain⟨c21,d21⟩:=b2 1 _ rfl;obtain⟨c22,d22⟩:=b2 2 _ rfl;obtain⟨c23,d23⟩:=b2 3 _ rfl;have HZ9:=Qq b2;have HB9:=Qq b3;clear b0 b1 b2 b3;go_wp2_with fail;have e:=yy ((((((HZ9.out)).set 0 (.int .i64 (17))).set 1 (.int .i64 (A8))).set 2 (.int .i64 (0))).set 3 (.int .i64 (0)))
 exact bodyPost_ret (zu Tryz.results45 _ ⟨w.heap.size+1+1,0,none⟩ rfl e) rfl (xd.mk (17) (A8) (0) (0) (zX (by unfold yh;omega) (by omega) (by omega) (by first|(simp[goodB];done)|(simp[goodB,xy];done)|(simp[goodB,xy];omega))) (by unfold yh;omega) (HB9.out.trans (by repeat(first|exact Below.refl _ _|refine Below.setCell ?_ (by simp;omega) _|refine Below.drew ?_|refine below_drewN ?_ _))))
theorem ER (fa:Option Addr)(nf fc:Nat)(ca:Option Addr)(nc cc:Nat)(lk:Int)(ka:Option Addr)(nk kc:Nat)(a0:Option Addr)(n cap:Nat)(o a b c:Int)(w:World)(hk:zC o 23=18)(hb:yh b)(h1:1≤nf∧nf≤100)(h2:nc≤100)(h3:nk≤100)(h4:0≤lk∧lk≤100)(h5:1≤n∧n≤100) :
  Calls Tryz.prog 45 #[pv fa nf fc ca nc cc lk ka nk kc,.slice a0 n cap,.agg #[.int .i64 o,.int .i64 a,.int .i64 b,.int .i64 c]] w fun e w'=>xd nf nc nk lk n w e w':=by
 have ra:=zk a 8 (by omega)
 have rb:=zk b 8 (by omega)
 have rc:=zk c 8 (by omega)
 have HKK:=Qq hk;unfold pv;clear hk;by_cases hz:lk=0
 ·subst hz
  go_enter Tryz.func45,Tryz.ntmps45
  go_wp2_with fail;refine(zx _ _ _ (by omega)).mono ?_
  rintro e w1 ⟨rfl,rfl⟩;rw[HKK.out];go_wp2_with fail;go_quiet ((go_at_call 44;exact Calls.quiet_of_same (zx _ _ _ (by omega))))
  generalize zC a 8=A8 at *;generalize zC b 8=B8 at *;generalize zC c 8=C8 at *;go_wp2_with fail;go_quiet (fail)
  generalize hW9:World.drewN _ _=W9
  have b0:zF W9 w.heap.size [.slice fa nf fc,.slice ca nc cc,.int .i64 0,.slice ka nk kc]:=by rw[←hW9];exact(((zF.mk w [.slice fa nf fc,.slice ca nc cc,.int .i64 0,.slice ka nk kc] _ _ rfl).below (below_alloc1 _ _)).below (below_alloc1 _ _)).below (by repeat(first|exact Below.refl _ _|refine below_drewN ?_ _|refine Below.drew ?_))
  have b1:zF W9 (w.heap.size+1) [.int .i64 18,.int .i64 a,.int .i64 b,.int .i64 c]:=by rw[←hW9];exact((zF.mk (w.alloc (.cells #[.slice fa nf fc,.slice ca nc cc,.int .i64 0,.slice ka nk kc] 26)) [.int .i64 18,.int .i64 a,.int .i64 b,.int .i64 c] 80 (w.heap.size+1) (by simp)).below (below_alloc1 _ _)).below (by repeat(first|exact Below.refl _ _|refine below_drewN ?_ _|refine Below.drew ?_))
  have b2:zF W9 (w.heap.size+1+1) [.int .i64 0,.int .i64 0,.int .i64 0,.int .i64 0]:=by rw[←hW9];exact(zF.mk ((w.alloc (.cells #[.slice fa nf fc,.slice ca nc cc,.int .i64 0,.slice ka nk kc] 26)).alloc (.cells #[.int .i64 18,.int .i64 a,.int .i64 b,.int .i64 c] 80)) [.int .i64 0,.int .i64 0,.int .i64 0,.int .i64 0] 80 (w.heap.size+1+1) (by simp)).below (by repeat(first|exact Below.refl _ _|refine below_drewN ?_ _|refine Below.drew ?_))
  have b3:Below w.heap.size w W9:=by rw[←hW9];repeat(first|exact Below.refl _ _|refine below_drewN ?_ _|refine Below.drew ?_|refine Below.alloc ?_ (by first|(simp;done)|(simp;omega)) _)
  clear hW9;obtain⟨c00,-⟩:=b0 0 _ rfl;obtain⟨c01,-⟩:=b0 1 _ rfl;obtain⟨c02,-⟩:=b0 2 _ rfl;obtain⟨c03,-⟩:=b0 3 _ rfl;obtain⟨c10,-⟩:=b1 0 _ rfl;obtain⟨ZW,-⟩:=b1 1 _ rfl;obtain⟨ZB,-⟩:=b1 2 _ rfl;obtain⟨x6,-⟩:=b1 3 _ rfl;obtain⟨c20,d20⟩:=b2 0 _ rfl;obtain⟨c21,d21⟩:=b2 1 _ rfl;obtain⟨c22,d22⟩:=b2 2 _ rfl;obtain⟨c23,d23⟩:=b2 3 _ rfl;have HZ9:=Qq b2;have HB9:=Qq b3;clear b0 b1 b2 b3;go_wp2_with fail;have e:=yy ((((((HZ9.out)).set 0 (.int .i64 (0))).set 1 (.int .i64 (0))).set 2 (.int .i64 (0))).set 3 (.int .i64 (0)))
  exact bodyPost_ret (zu Tryz.results45 _ ⟨w.heap.size+1+1,0,none⟩ rfl e) rfl (xd.mk (0) (0) (0) (0) (zX (by unfold yh;omega) (by omega) (by omega) (by first|(simp[goodB];done)|(simp[goodB,xy];done)|(simp[goodB,xy];omega))) (by unfold yh;omega) (HB9.out.trans (by repeat(first|exact Below.refl _ _|refine Below.setCell ?_ (by simp;omega) _|refine Below.drew ?_|refine below_drewN ?_ _))))
 ·skip
  have rx:=zk a lk (by omega)
  go_enter Tryz.func45,Tryz.ntmps45
  go_wp2_with fail;refine(zx _ _ _ (by omega)).mono ?_
  rintro e w1 ⟨rfl,rfl⟩;rw[HKK.out];go_wp2_with fail;go_quiet ((go_at_call 44;exact Calls.quiet_of_same (zx _ _ _ (by omega))))
  generalize zC a 8=A8 at *;generalize zC b 8=B8 at *;generalize zC c 8=C8 at *;go_wp2_with fail;go_quiet (fail)
  generalize hW9:World.drewN _ _=W9
  have b0:zF W9 w.heap.size [.slice fa nf fc,.slice ca nc cc,.int .i64 lk,.slice ka nk kc]:=by rw[←hW9];exact(((zF.mk w [.slice fa nf fc,.slice ca nc cc,.int .i64 lk,.slice ka nk kc] _ _ rfl).below (below_alloc1 _ _)).below (below_alloc1 _ _)).below (by repeat(first|exact Below.refl _ _|refine below_drewN ?_ _|refine Below.drew ?_))
  have b1:zF W9 (w.heap.size+1) [.int .i64 18,.int .i64 a,.int .i64 b,.int .i64 c]:=by rw[←hW9];exact((zF.mk (w.alloc (.cells #[.slice fa nf fc,.slice ca nc cc,.int .i64 lk,.slice ka nk kc] 26)) [.int .i64 18,.int .i64 a,.int .i64 b,.int .i64 c] 80 (w.heap.size+1) (by simp)).below (below_alloc1 _ _)).below (by repeat(first|exact Below.refl _ _|refine below_drewN ?_ _|refine Below.drew ?_))
  have b2:zF W9 (w.heap.size+1+1) [.int .i64 0,.int .i64 0,.int .i64 0,.int .i64 0]:=by rw[←hW9];exact(zF.mk ((w.alloc (.cells #[.slice fa nf fc,.slice ca nc cc,.int .i64 lk,.slice ka nk kc] 26)).alloc (.cells #[.int .i64 18,.int .i64 a,.int .i64 b,.int .i64 c] 80)) [.int .i64 0,.int .i64 0,.int .i64 0,.int .i64 0] 80 (w.heap.size+1+1) (by simp)).below (by repeat(first|exact Below.refl _ _|refine below_drewN ?_ _|refine Below.drew ?_))
  have b3:Below w.heap.size w W9:=by rw[←hW9];repeat(first|exact Below.refl _ _|refine below_drewN ?_ _|refine Below.drew ?_|refine Below.alloc ?_ (by first|(simp;done)|(simp;omega)) _)
  clear hW9;obtain⟨c00,-⟩:=b0 0 _ rfl;obtain⟨c01,-⟩:=b0 1 _ rfl;obtain⟨c02,-⟩:=b0 2 _ rfl;obtain⟨c03,-⟩:=b0 3 _ rfl;obtain⟨c10,-⟩:=b1 0 _ rfl;obtain⟨ZW,-⟩:=b1 1 _ rfl;obtain⟨ZB,-⟩:=b1 2 _ rfl;obtain⟨x6,-⟩:=b1 3 _ rfl;obtain⟨c20,d20⟩:=b2 0 _ rfl;obtain⟨c21,d21⟩:=b2 1 _ rfl;obtain⟨c22,d22⟩:=b2 2 _ rfl;obtain⟨c23,d23⟩:=b2 3 _ rfl;have HZ9:=Qq b2;have HB9:=Qq b3;clear b0 b1 b2 b3;go_wp2_with fail;refine wp_region_still_tail 8 (by kernel_rfl) (by kernel_rfl) ?_
  simp only[QX,QV,QQ,QJ];repeat(first|still_step|still_call (zx _ _ _ (by omega)))
  refine wpStill_nil ?_;generalize zC a lk=X at *;go_wp2_with fail;have e:=yy ((((((HZ9.out).below (zg _)).set 0 (.int .i64 (18))).set 1 (.int .i64 (X))).set 2 (.int .i64 (0))).set 3 (.int .i64 (0)))
  exact bodyPost_ret (zu Tryz.results45 _ ⟨w.heap.size+1+1,0,none⟩ rfl e) rfl (xd.mk (18) (X) (0) (0) (zX (by unfold yh;omega) (by omega) (by omega) (by first|(simp[goodB];done)|(simp[goodB,xy];done)|(simp[goodB,xy];omega))) (by unfold yh;omega) (HB9.out.trans (by repeat(first|exact Below.refl _ _|refine Below.setCell ?_ (by simp;omega) _|refine Below.drew ?_|refine below_drewN ?_ _))))
theorem ED (fa:Option Addr)(nf fc:Nat)(ca:Option Addr)(nc cc:Nat)(lk:Int)(ka:Option Addr)(nk kc:Nat)(a0:Option Addr)(n cap:Nat)(o a b c:Int)(w:World)(hk:zC o 23=19)(hb:yh b)(h1:1≤nf∧nf≤100)(h2:nc≤100)(h3:nk≤100)(h4:0≤lk∧lk≤100)(h5:1≤n∧n≤100) :
  Calls Tryz.prog 45 #[pv fa nf fc ca nc cc lk ka nk kc,.slice a0 n cap,.agg #[.int .i64 o,.int .i64 a,.int .i64 b,.int .i64 c]] w fun e w'=>xd nf nc nk lk n w e w':=by
 have ra:=zk a 8 (by omega)
 have rb:=zk b 8 (by omega)
 have rc:=zk c 8 (by omega)
 have HKK:=Qq hk;unfold pv;clear hk;by_cases hz:lk=0
 ·subst hz
  go_enter Tryz.func45,Tryz.ntmps45
  go_wp2_with fail;refine(zx _ _ _ (by omega)).mono ?_
  rintro e w1 ⟨rfl,rfl⟩;rw[HKK.out];go_wp2_with fail;go_quiet ((go_at_call 44;exact Calls.quiet_of_same (zx _ _ _ (by omega))))
  generalize zC a 8=A8 at *;generalize zC b 8=B8 at *;generalize zC c 8=C8 at *;go_wp2_with fail;go_quiet (fail)
  generalize hW9:World.drewN _ _=W9
  have b0:zF W9 w.heap.size [.slice fa nf fc,.slice ca nc cc,.int .i64 0,.slice ka nk kc]:=by rw[←hW9];exact(((zF.mk w [.slice fa nf fc,.slice ca nc cc,.int .i64 0,.slice ka nk kc] _ _ rfl).below (below_alloc1 _ _)).below (below_alloc1 _ _)).below (by repeat(first|exact Below.refl _ _|refine below_drewN ?_ _|refine Below.drew ?_))
  have b1:zF W9 (w.heap.size+1) [.int .i64 19,.int .i64 a,.int .i64 b,.int .i64 c]:=by rw[←hW9];exact((zF.mk (w.alloc (.cells #[.slice fa nf fc,.slice ca nc cc,.int .i64 0,.slice ka nk kc] 26)) [.int .i64 19,.int .i64 a,.int .i64 b,.int .i64 c] 80 (w.heap.size+1) (by simp)).below (below_alloc1 _ _)).below (by repeat(first|exact Below.refl _ _|refine below_drewN ?_ _|refine Below.drew ?_))
  have b2:zF W9 (w.heap.size+1+1) [.int .i64 0,.int .i64 0,.int .i64 0,.int .i64 0]:=by rw[←hW9];exact(zF.mk ((w.alloc (.cells #[.slice fa nf fc,.slice ca nc cc,.int .i64 0,.slice ka nk kc] 26)).alloc (.cells #[.int .i64 19,.int .i64 a,.int .i64 b,.int .i64 c] 80)) [.int .i64 0,.int .i64 0,.int .i64 0,.int .i64 0] 80 (w.heap.size+1+1) (by simp)).below (by repeat(first|exact Below.refl _ _|refine below_drewN ?_ _|refine Below.drew ?_))
  have b3:Below w.heap.size w W9:=by rw[←hW9];repeat(first|exact Below.refl _ _|refine below_drewN ?_ _|refine Below.drew ?_|refine Below.alloc ?_ (by first|(simp;done)|(simp;omega)) _)
  clear hW9;obtain⟨c00,-⟩:=b0 0 _ rfl;obtain⟨c01,-⟩:=b0 1 _ rfl;obtain⟨c02,-⟩:=b0 2 _ rfl;obtain⟨c03,-⟩:=b0 3 _ rfl;obtain⟨c10,-⟩:=b1 0 _ rfl;obtain⟨ZW,-⟩:=b1 1 _ rfl;obtain⟨ZB,-⟩:=b1 2 _ rfl;obtain⟨x6,-⟩:=b1 3 _ rfl;obtain⟨c20,d20⟩:=b2 0 _ rfl;obtain⟨c21,d21⟩:=b2 1 _ rfl;obtain⟨c22,d22⟩:=b2 2 _ rfl;obtain⟨c23,d23⟩:=b2 3 _ rfl;have HZ9:=Qq b2;have HB9:=Qq b3;clear b0 b1 b2 b3;go_wp2_with fail;have e:=yy ((((((HZ9.out)).set 0 (.int .i64 (0))).set 1 (.int .i64 (0))).set 2 (.int .i64 (0))).set 3 (.int .i64 (0)))
  exact bodyPost_ret (zu Tryz.results45 _ ⟨w.heap.size+1+1,0,none⟩ rfl e) rfl (xd.mk (0) (0) (0) (0) (zX (by unfold yh;omega) (by omega) (by omega) (by first|(simp[goodB];done)|(simp[goodB,xy];done)|(simp[goodB,xy];omega))) (by unfold yh;omega) (HB9.out.trans (by repeat(first|exact Below.refl _ _|refine Below.setCell ?_ (by simp;omega) _|refine Below.drew ?_|refine below_drewN ?_ _))))
 ·skip
  have rx:=zk a lk (by omega)
  go_enter Tryz.func45,Tryz.ntmps45
  go_wp2_with fail;refine(zx _ _ _ (by omega)).mono ?_
  rintro e w1 ⟨rfl,rfl⟩;rw[HKK.out];go_wp2_with fail;go_quiet ((go_at_call 44;exact Calls.quiet_of_same (zx _ _ _ (by omega))))
  generalize zC a 8=A8 at *;generalize zC b 8=B8 at *;generalize zC c 8=C8 at *;go_wp2_with fail;go_quiet (fail)
  generalize hW9:World.drewN _ _=W9
  have b0:zF W9 w.heap.size [.slice fa nf fc,.slice ca nc cc,.int .i64 lk,.slice ka nk kc]:=by rw[←hW9];exact(((zF.mk w [.slice fa nf fc,.slice ca nc cc,.int .i64 lk,.slice ka nk kc] _ _ rfl).below (below_alloc1 _ _)).below (below_alloc1 _ _)).below (by repeat(first|exact Below.refl _ _|refine below_drewN ?_ _|refine Below.drew ?_))
  have b1:zF W9 (w.heap.size+1) [.int .i64 19,.int .i64 a,.int .i64 b,.int .i64 c]:=by rw[←hW9];exact((zF.mk (w.alloc (.cells #[.slice fa nf fc,.slice ca nc cc,.int .i64 lk,.slice ka nk kc] 26)) [.int .i64 19,.int .i64 a,.int .i64 b,.int .i64 c] 80 (w.heap.size+1) (by simp)).below (below_alloc1 _ _)).below (by repeat(first|exact Below.refl _ _|refine below_drewN ?_ _|refine Below.drew ?_))
  have b2:zF W9 (w.heap.size+1+1) [.int .i64 0,.int .i64 0,.int .i64 0,.int .i64 0]:=by rw[←hW9];exact(zF.mk ((w.alloc (.cells #[.slice fa nf fc,.slice ca nc cc,.int .i64 lk,.slice ka nk kc] 26)).alloc (.cells #[.int .i64 19,.int .i64 a,.int .i64 b,.int .i64 c] 80)) [.int .i64 0,.int .i64 0,.int .i64 0,.int .i64 0] 80 (w.heap.size+1+1) (by simp)).below (by repeat(first|exact Below.refl _ _|refine below_drewN ?_ _|refine Below.drew ?_))
  have b3:Below w.heap.size w W9:=by rw[←hW9];repeat(first|exact Below.refl _ _|refine below_drewN ?_ _|refine Below.drew ?_|refine Below.alloc ?_ (by first|(simp;done)|(simp;omega)) _)
  clear hW9;obtain⟨c00,-⟩:=b0 0 _ rfl;obtain⟨c01,-⟩:=b0 1 _ rfl;obtain⟨c02,-⟩:=b0 2 _ rfl;obtain⟨c03,-⟩:=b0 3 _ rfl;obtain⟨c10,-⟩:=b1 0 _ rfl;obtain⟨ZW,-⟩:=b1 1 _ rfl;obtain⟨ZB,-⟩:=b1 2 _ rfl;obtain⟨x6,-⟩:=b1 3 _ rfl;obtain⟨c20,d20⟩:=b2 0 _ rfl;obtain⟨c21,d21⟩:=b2 1 _ rfl;obtain⟨c22,d22⟩:=b2 2 _ rfl;obtain⟨c23,d23⟩:=b2 3 _ rfl;have HZ9:=Qq b2;have HB9:=Qq b3;clear b0 b1 b2 b3;go_wp2_with fail;refine wp_region_still_tail 8 (by kernel_rfl) (by kernel_rfl) ?_
  simp only[QX,QV,QQ,QJ];repeat(first|still_step|still_call (zx _ _ _ (by omega)))
  refine wpStill_nil ?_;generalize zC a lk=X at *;go_wp2_with fail;have e:=yy ((((((HZ9.out).below (zg _)).set 0 (.int .i64 (19))).set 1 (.int .i64 (X))).set 2 (.int .i64 (0))).set 3 (.int .i64 (0)))
  exact bodyPost_ret (zu Tryz.results45 _ ⟨w.heap.size+1+1,0,none⟩ rfl e) rfl (xd.mk (19) (X) (0) (0) (zX (by unfold yh;omega) (by omega) (by omega) (by first|(simp[goodB];done)|(simp[goodB,xy];done)|(simp[goodB,xy];omega))) (by unfold yh;omega) (HB9.out.trans (by repeat(first|exact Below.refl _ _|refine Below.setCell ?_ (by simp;omega) _|refine Below.drew ?_|refine below_drewN ?_ _))))
theorem FY (fa:Option Addr)(nf fc:Nat)(ca:Option Addr)(nc cc:Nat)(lk:Int)(ka:Option Addr)(nk kc:Nat)(a0:Option Addr)(n cap:Nat)(o a b c:Int)(w:World)(hk:zC o 23=20)(hb:yh b)(h1:1≤nf∧nf≤100)(h2:nc≤100)(h3:nk≤100)(h4:0≤lk∧lk≤100)(h5:1≤n∧n≤100) :
  Calls Tryz.prog 45 #[pv fa nf fc ca nc cc lk ka nk kc,.slice a0 n cap,.agg #[.int .i64 o,.int .i64 a,.int .i64 b,.int .i64 c]] w fun e w'=>xd nf nc nk lk n w e w':=by
 have ra:=zk a 8 (by omega)
 have rb:=zk b 8 (by omega)
 have rc:=zk c 8 (by omega)
 have HKK:=Qq hk;unfold pv;clear hk;go_enter Tryz.func45,Tryz.ntmps45
 go_wp2_with fail;refine(zx _ _ _ (by omega)).mono ?_
 rintro e w1 ⟨rfl,rfl⟩;rw[HKK.out];go_wp2_with fail;go_quiet ((go_at_call 44;exact Calls.quiet_of_same (zx _ _ _ (by omega))))
 generalize zC a 8=A8 at *;generalize zC b 8=B8 at *;generalize zC c 8=C8 at *;go_wp2_with fail;go_quiet (fail)
 generalize hW9:World.drewN _ _=W9
 have b0:zF W9 w.heap.size [.slice fa nf fc,.slice ca nc cc,.int .i64 lk,.slice ka nk kc]:=by rw[←hW9];exact(((zF.mk w [.slice fa nf fc,.slice ca nc cc,.int .i64 lk,.slice ka nk kc] _ _ rfl).below (below_alloc1 _ _)).below (below_alloc1 _ _)).below (by repeat(first|exact Below.refl _ _|refine below_drewN ?_ _|refine Below.drew ?_))
 have b1:zF W9 (w.heap.size+1) [.int .i64 20,.int .i64 a,.int .i64 b,.int .i64 c]:=by rw[←hW9];exact((zF.mk (w.alloc (.cells #[.slice fa nf fc,.slice ca nc cc,.int .i64 lk,.slice ka nk kc] 26)) [.int .i64 20,.int .i64 a,.int .i64 b,.int .i64 c] 80 (w.heap.size+1) (by simp)).below (below_alloc1 _ _)).below (by repeat(first|exact Below.refl _ _|refine below_drewN ?_ _|refine Below.drew ?_))
 have b2:zF W9 (w.heap.size+1+1) [.int .i64 0,.int .i64 0,.int .i64 0,.int .i64 0]:=by rw[←hW9];exact(zF.mk ((w.alloc (.cells #[.slice fa nf fc,.slice ca nc cc,.int .i64 lk,.slice ka nk kc] 26)).alloc (.cells #[.int .i64 20,.int .i64 a,.int .i64 b,.int .i64 c] 80)) [.int .i64 0,.int .i64 0,.int .i64 0,.int .i64 0] 80 (w.heap.size+1+1) (by simp)).below (by repeat(first|exact Below.refl _ _|refine below_drewN ?_ _|refine Below.drew ?_))
 have b3:Below w.heap.size w W9:=by rw[←hW9];repeat(first|exact Below.refl _ _|refine below_drewN ?_ _|refine Below.drew ?_|refine Below.alloc ?_ (by first|(simp;done)|(simp;omega)) _)
 clear hW9;obtain⟨c00,-⟩:=b0 0 _ rfl;obtain⟨c01,-⟩:=b0 1 _ rfl;obtain⟨c02,-⟩:=b0 2 _ rfl;obtain⟨c03,-⟩:=b0 3 _ rfl;obtain⟨c10,-⟩:=b1 0 _ rfl;obtain⟨ZW,-⟩:=b1 1 _ rfl;obtain⟨ZB,-⟩:=b1 2 _ rfl;obtain⟨x6,-⟩:=b1 3 _ rfl;obtain⟨c20,d20⟩:=b2 0 _ rfl;obtain⟨c21,d21⟩:=b2 1 _ rfl;obtain⟨c22,d22⟩:=b2 2 _ rfl;obtain⟨c23,d23⟩:=b2 3 _ rfl;have HZ9:=Qq b2;have HB9:=Qq b3;clear b0 b1 b2 b3;go_wp2_with fail;have e:=yy ((((((HZ9.out)).set 0 (.int .i64 (20))).set 1 (.int .i64 (A8))).set 2 (.int .i64 (0))).set 3 (.int .i64 (0)))
 exact bodyPost_ret (zu Tryz.results45 _ ⟨w.heap.size+1+1,0,none⟩ rfl e) rfl (xd.mk (20) (A8) (0) (0) (zX (by unfold yh;omega) (by omega) (by omega) (by first|(simp[goodB];done)|(simp[goodB,xy];done)|(simp[goodB,xy];omega))) (by unfold yh;omega) (HB9.out.trans (by repeat(first|exact Below.refl _ _|refine Below.setCell ?_ (by simp;omega) _|refine Below.drew ?_|refine below_drewN ?_ _))))
theorem Ez (fa:Option Addr)(nf fc:Nat)(ca:Option Addr)(nc cc:Nat)(lk:Int)(ka:Option Addr)(nk kc:Nat)(a0:Option Addr)(n cap:Nat)(o a b c:Int)(w:World)(hk:zC o 23=21)(hb:yh b)(h1:1≤nf∧nf≤100)(h2:nc≤100)(h3:nk≤100)(h4:0≤lk∧lk≤100)(h5:1≤n∧n≤100) :
  Calls Tryz.prog 45 #[pv fa nf fc ca nc cc lk ka nk kc,.slice a0 n cap,.agg #[.int .i64 o,.int .i64 a,.int .i64 b,.int .i64 c]] w fun e w'=>xd nf nc nk lk n w e w':=by
 have ra:=zk a 8 (by omega)
 have rb:=zk b 8 (by omega)
 have rc:=zk c 8 (by omega)
 have HKK:=Qq hk;unfold pv;clear hk;have rx:=zk b 1000 (by omega)
 go_enter Tryz.func45,Tryz.ntmps45
 go_wp2_with fail;refine(zx _ _ _ (by omega)).mono ?_
 rintro e w1 ⟨rfl,rfl⟩;rw[HKK.out];go_wp2_with fail;go_quiet ((go_at_call 44;exact Calls.quiet_of_same (zx _ _ _ (by omega))))
 generalize zC a 8=A8 at *;generalize zC b 8=B8 at *;generalize zC c 8=C8 at *;go_wp2_with fail;go_quiet (fail)
 generalize hW9:World.drewN _ _=W9
 have b0:zF W9 w.heap.size [.slice fa nf fc,.slice ca nc cc,.int .i64 lk,.slice ka nk kc]:=by rw[←hW9];exact(((zF.mk w [.slice fa nf fc,.slice ca nc cc,.int .i64 lk,.slice ka nk kc] _ _ rfl).below (below_alloc1 _ _)).below (below_alloc1 _ _)).below (by repeat(first|exact Below.refl _ _|refine below_drewN ?_ _|refine Below.drew ?_))
 have b1:zF W9 (w.heap.size+1) [.int .i64 21,.int .i64 a,.int .i64 b,.int .i64 c]:=by rw[←hW9];exact((zF.mk (w.alloc (.cells #[.slice fa nf fc,.slice ca nc cc,.int .i64 lk,.slice ka nk kc] 26)) [.int .i64 21,.int .i64 a,.int .i64 b,.int .i64 c] 80 (w.heap.size+1) (by simp)).below (below_alloc1 _ _)).below (by repeat(first|exact Below.refl _ _|refine below_drewN ?_ _|refine Below.drew ?_))
 have b2:zF W9 (w.heap.size+1+1) [.int .i64 0,.int .i64 0,.int .i64 0,.int .i64 0]:=by rw[←hW9];exact(zF.mk ((w.alloc (.cells #[.slice fa nf fc,.slice ca nc cc,.int .i64 lk,.slice ka nk kc] 26)).alloc (.cells #[.int .i64 21,.int .i64 a,.int .i64 b,.int .i64 c] 80)) [.int .i64 0,.int .i64 0,.int .i64 0,.int .i64 0] 80 (w.heap.size+1+1) (by simp)).below (by repeat(first|exact Below.refl _ _|refine below_drewN ?_ _|refine Below.drew ?_))
 have b3:Below w.heap.size w W9:=by rw[←hW9];repeat(first|exact Below.refl _ _|refine below_drewN ?_ _|refine Below.drew ?_|refine Below.alloc ?_ (by first|(simp;done)|(simp;omega)) _)
 clear hW9;obtain⟨c00,-⟩:=b0 0 _ rfl;obtain⟨c01,-⟩:=b0 1 _ rfl;obtain⟨c02,-⟩:=b0 2 _ rfl;obtain⟨c03,-⟩:=b0 3 _ rfl;obtain⟨c10,-⟩:=b1 0 _ rfl;obtain⟨ZW,-⟩:=b1 1 _ rfl;obtain⟨ZB,-⟩:=b1 2 _ rfl;obtain⟨x6,-⟩:=b1 3 _ rfl;obtain⟨c20,d20⟩:=b2 0 _ rfl;obtain⟨c21,d21⟩:=b2 1 _ rfl;obtain⟨c22,d22⟩:=b2 2 _ rfl;obtain⟨c23,d23⟩:=b2 3 _ rfl;have HZ9:=Qq b2;have HB9:=Qq b3;clear b0 b1 b2 b3;go_wp2_with fail;refine(zx _ _ _ (by omega)).mono ?_
 rintro e w1 ⟨rfl,rfl⟩;generalize zC b 1000=X at *;go_wp2_with fail;have e:=yy ((((((HZ9.out)).set 0 (.int .i64 (21))).set 1 (.int .i64 (A8))).set 2 (.int .i64 (1+X))).set 3 (.int .i64 (0)))
 exact bodyPost_ret (zu Tryz.results45 _ ⟨w.heap.size+1+1,0,none⟩ rfl e) rfl (xd.mk (21) (A8) (1+X) (0) (zX (by unfold yh;omega) (by omega) (by omega) (by first|(simp[goodB];done)|(simp[goodB,xy];done)|(simp[goodB,xy];omega))) (by unfold yh;omega) (HB9.out.trans (by repeat(first|exact Below.refl _ _|refine Below.setCell ?_ (by simp;omega) _|refine Below.drew ?_|refine below_drewN ?_ _))))
theorem EZ (fa:Option Addr)(nf fc:Nat)(ca:Option Addr)(nc cc:Nat)(lk:Int)(ka:Option Addr)(nk kc:Nat)(a0:Option Addr)(n cap:Nat)(o a b c:Int)(w:World)(hk:zC o 23=22)(hb:yh b)(h1:1≤nf∧nf≤100)(h2:nc≤100)(h3:nk≤100)(h4:0≤lk∧lk≤100)(h5:1≤n∧n≤100) :
  Calls Tryz.prog 45 #[pv fa nf fc ca nc cc lk ka nk kc,.slice a0 n cap,.agg #[.int .i64 o,.int .i64 a,.int .i64 b,.int .i64 c]] w fun e w'=>xd nf nc nk lk n w e w':=by
 have ra:=zk a 8 (by omega)
 have rb:=zk b 8 (by omega)
 have rc:=zk c 8 (by omega)
 have HKK:=Qq hk;unfold pv;clear hk;have rx:=zk a 1000 (by omega)
 go_enter Tryz.func45,Tryz.ntmps45
 go_wp2_with fail;refine(zx _ _ _ (by omega)).mono ?_
 rintro e w1 ⟨rfl,rfl⟩;rw[HKK.out];go_wp2_with fail;go_quiet ((go_at_call 44;exact Calls.quiet_of_same (zx _ _ _ (by omega))))
 generalize zC a 8=A8 at *;generalize zC b 8=B8 at *;generalize zC c 8=C8 at *;go_wp2_with fail;go_quiet (fail)
 generalize hW9:World.drewN _ _=W9
 have b0:zF W9 w.heap.size [.slice fa nf fc,.slice ca nc cc,.int .i64 lk,.slice ka nk kc]:=by rw[←hW9];exact(((zF.mk w [.slice fa nf fc,.slice ca nc cc,.int .i64 lk,.slice ka nk kc] _ _ rfl).below (below_alloc1 _ _)).below (below_alloc1 _ _)).below (by repeat(first|exact Below.refl _ _|refine below_drewN ?_ _|refine Below.drew ?_))
 have b1:zF W9 (w.heap.size+1) [.int .i64 22,.int .i64 a,.int .i64 b,.int .i64 c]:=by rw[←hW9];exact((zF.mk (w.alloc (.cells #[.slice fa nf fc,.slice ca nc cc,.int .i64 lk,.slice ka nk kc] 26)) [.int .i64 22,.int .i64 a,.int .i64 b,.int .i64 c] 80 (w.heap.size+1) (by simp)).below (below_alloc1 _ _)).below (by repeat(first|exact Below.refl _ _|refine below_drewN ?_ _|refine Below.drew ?_))
 have b2:zF W9 (w.heap.size+1+1) [.int .i64 0,.int .i64 0,.int .i64 0,.int .i64 0]:=by rw[←hW9];exact(zF.mk ((w.alloc (.cells #[.slice fa nf fc,.slice ca nc cc,.int .i64 lk,.slice ka nk kc] 26)).alloc (.cells #[.int .i64 22,.int .i64 a,.int .i64 b,.int .i64 c] 80)) [.int .i64 0,.int .i64 0,.int .i64 0,.int .i64 0] 80 (w.heap.size+1+1) (by simp)).below (by repeat(first|exact Below.refl _ _|refine below_drewN ?_ _|refine Below.drew ?_))
 have b3:Below w.heap.size w W9:=by rw[←hW9];repeat(first|exact Below.refl _ _|refine below_drewN ?_ _|refine Below.drew ?_|refine Below.alloc ?_ (by first|(simp;done)|(simp;omega)) _)
 clear hW9;obtain⟨c00,-⟩:=b0 0 _ rfl;obtain⟨c01,-⟩:=b0 1 _ rfl;obtain⟨c02,-⟩:=b0 2 _ rfl;obtain⟨c03,-⟩:=b0 3 _ rfl;obtain⟨c10,-⟩:=b1 0 _ rfl;obtain⟨ZW,-⟩:=b1 1 _ rfl;obtain⟨ZB,-⟩:=b1 2 _ rfl;obtain⟨x6,-⟩:=b1 3 _ rfl;obtain⟨c20,d20⟩:=b2 0 _ rfl;obtain⟨c21,d21⟩:=b2 1 _ rfl;obtain⟨c22,d22⟩:=b2 2 _ rfl;obtain⟨c23,d23⟩:=b2 3 _ rfl;have HZ9:=Qq b2;have HB9:=Qq b3;clear b0 b1 b2 b3;go_wp2_with fail;refine(zx _ _ _ (by omega)).mono ?_
 rintro e w1 ⟨rfl,rfl⟩;generalize zC a 1000=X at *;go_wp2_with fail;have e:=yy ((((((HZ9.out)).set 0 (.int .i64 (22))).set 1 (.int .i64 (X))).set 2 (.int .i64 (0))).set 3 (.int .i64 (0)))
 exact bodyPost_ret (zu Tryz.results45 _ ⟨w.heap.size+1+1,0,none⟩ rfl e) rfl (xd.mk (22) (X) (0) (0) (zX (by unfold yh;omega) (by omega) (by omega) (by first|(simp[goodB];done)|(simp[goodB,xy];done)|(simp[goodB,xy];omega))) (by unfold yh;omega) (HB9.out.trans (by repeat(first|exact Below.refl _ _|refine Below.setCell ?_ (by simp;omega) _|refine Below.drew ?_|refine below_drewN ?_ _))))
def Wi (W:World)(K X:Int)(s0:Nat)(b1 b2:List Value)(s:Value)(wx:World):Prop:=∃q,s=.pointer (some ⟨q,0,none⟩)∧zF wx q [.int .i64 K,.int .i64 X,.int .i64 0,.int .i64 0]∧s0+1+1<q∧zF wx (s0+1) b1∧zF wx (s0+1+1) b2∧Below W.heap.size W wx
theorem Wi.a {W w3:World}{K X:Int}{s0:Nat}{b1 b2:List Value}{t:TypeId}(hs:s0+1+1<W.heap.size)(h1:zF W (s0+1) b1)(h2:zF W (s0+1+1) b2)(bw:Below W.heap.size W w3) :
  Wi W K X s0 b1 b2 (.pointer (some ⟨w3.heap.size,0,none⟩)) (w3.alloc (.cells #[.int .i64 K,.int .i64 X,.int .i64 0,.int .i64 0] t)) :=
 ⟨_,rfl,zF.mk w3 [.int .i64 K,.int .i64 X,.int .i64 0,.int .i64 0] t _ rfl,by have:=bw.size;omega,(h1.below bw).below (below_alloc1 _ _),(h2.below bw).below (below_alloc1 _ _),zA bw (below_alloc1 _ _)⟩
theorem Wi.step {W w3 w4:World}{K X:Int}{s0:Nat}{b1 b2:List Value}{s:Value}(h:Wi W K X s0 b1 b2 s w3)(hb:Below w3.heap.size w3 w4):Wi W K X s0 b1 b2 s w4:=by
 obtain⟨q,h1,h2,h3,h4,h5,h6⟩:=h;exact⟨q,h1,h2.below hb,h3,h4.below hb,h5.below hb,zA h6 hb⟩
theorem Et (fa:Option Addr)(nf fc:Nat)(ca:Option Addr)(nc cc:Nat)(lk:Int)(ka:Option Addr)(nk kc:Nat)(a0:Option Addr)(n cap:Nat)(o a b c:Int)(w:World)(hk:zC o 23=13)(hb:yh b)(h1:1≤nf∧nf≤100)(h2:nc≤100)(h3:nk≤100)(h4:0≤lk∧lk≤100)(h5:1≤n∧n≤100) :
  Calls Tryz.prog 45 #[pv fa nf fc ca nc cc lk ka nk kc,.slice a0 n cap,.agg #[.int .i64 o,.int .i64 a,.int .i64 b,.int .i64 c]] w fun e w'=>xd nf nc nk lk n w e w':=by
 have ra:=zk a 8 (by omega)
 have rb:=zk b 8 (by omega)
 have rc:=zk c 8 (by omega)
 have HKK:=Qq hk;unfold pv;clear hk;by_cases hz:nc=0
 ·subst hz
  go_enter Tryz.func45,Tryz.ntmps45
  go_wp2_with fail;refine(zx _ _ _ (by omega)).mono ?_
  rintro e w1 ⟨rfl,rfl⟩;rw[HKK.out];go_wp2_with fail;go_quiet ((go_at_call 44;exact Calls.quiet_of_same (zx _ _ _ (by omega))))
  generalize zC a 8=A8 at *;generalize zC b 8=B8 at *;generalize zC c 8=C8 at *;go_wp2_with fail;go_quiet (fail)
  generalize hW9:World.drewN _ _=W9
  have b0:zF W9 w.heap.size [.slice fa nf fc,.slice ca 0 cc,.int .i64 lk,.slice ka nk kc]:=by rw[←hW9];exact(((zF.mk w [.slice fa nf fc,.slice ca 0 cc,.int .i64 lk,.slice ka nk kc] _ _ rfl).below (below_alloc1 _ _)).below (below_alloc1 _ _)).below (by repeat(first|exact Below.refl _ _|refine below_drewN ?_ _|refine Below.drew ?_))
  have b1:zF W9 (w.heap.size+1) [.int .i64 13,.int .i64 a,.int .i64 b,.int .i64 c]:=by rw[←hW9];exact((zF.mk (w.alloc (.cells #[.slice fa nf fc,.slice ca 0 cc,.int .i64 lk,.slice ka nk kc] 26)) [.int .i64 13,.int .i64 a,.int .i64 b,.int .i64 c] 80 (w.heap.size+1) (by simp)).below (below_alloc1 _ _)).below (by repeat(first|exact Below.refl _ _|refine below_drewN ?_ _|refine Below.drew ?_))
  have b2:zF W9 (w.heap.size+1+1) [.int .i64 0,.int .i64 0,.int .i64 0,.int .i64 0]:=by rw[←hW9];exact(zF.mk ((w.alloc (.cells #[.slice fa nf fc,.slice ca 0 cc,.int .i64 lk,.slice ka nk kc] 26)).alloc (.cells #[.int .i64 13,.int .i64 a,.int .i64 b,.int .i64 c] 80)) [.int .i64 0,.int .i64 0,.int .i64 0,.int .i64 0] 80 (w.heap.size+1+1) (by simp)).below (by repeat(first|exact Below.refl _ _|refine below_drewN ?_ _|refine Below.drew ?_))
  have b3:Below w.heap.size w W9:=by rw[←hW9];repeat(first|exact Below.refl _ _|refine below_drewN ?_ _|refine Below.drew ?_|refine Below.alloc ?_ (by first|(simp;done)|(simp;omega)) _)
  clear hW9;obtain⟨c00,-⟩:=b0 0 _ rfl;obtain⟨c01,-⟩:=b0 1 _ rfl;obtain⟨c02,-⟩:=b0 2 _ rfl;obtain⟨c03,-⟩:=b0 3 _ rfl;obtain⟨c10,-⟩:=b1 0 _ rfl;obtain⟨ZW,-⟩:=b1 1 _ rfl;obtain⟨ZB,-⟩:=b1 2 _ rfl;obtain⟨x6,-⟩:=b1 3 _ rfl;obtain⟨c20,d20⟩:=b2 0 _ rfl;obtain⟨c21,d21⟩:=b2 1 _ rfl;obtain⟨c22,d22⟩:=b2 2 _ rfl;obtain⟨c23,d23⟩:=b2 3 _ rfl;have HZ9:=Qq b2;have HB9:=Qq b3;clear b0 b1 b2 b3;go_wp2_with fail;have e:=yy ((((((HZ9.out)).set 0 (.int .i64 (0))).set 1 (.int .i64 (0))).set 2 (.int .i64 (0))).set 3 (.int .i64 (0)))
  exact bodyPost_ret (zu Tryz.results45 _ ⟨w.heap.size+1+1,0,none⟩ rfl e) rfl (xd.mk (0) (0) (0) (0) (zX (by unfold yh;omega) (by omega) (by omega) (by first|(simp[goodB];done)|(simp[goodB,xy];done)|(simp[goodB,xy];omega))) (by unfold yh;omega) (HB9.out.trans (by repeat(first|exact Below.refl _ _|refine Below.setCell ?_ (by simp;omega) _|refine Below.drew ?_|refine below_drewN ?_ _))))
 ·skip
  have rx:=zk a nc (by omega)
  have hz2:¬(nc:Int)=0:=by omega
  go_enter Tryz.func45,Tryz.ntmps45
  go_wp2_with fail;refine(zx _ _ _ (by omega)).mono ?_
  rintro e w1 ⟨rfl,rfl⟩;rw[HKK.out];go_wp2_with fail;go_quiet ((go_at_call 44;exact Calls.quiet_of_same (zx _ _ _ (by omega))))
  generalize zC a 8=A8 at *;generalize zC b 8=B8 at *;generalize zC c 8=C8 at *;go_wp2_with fail;go_quiet (fail)
  generalize hW9:World.drewN _ _=W9
  have b0:zF W9 w.heap.size [.slice fa nf fc,.slice ca nc cc,.int .i64 lk,.slice ka nk kc]:=by rw[←hW9];exact(((zF.mk w [.slice fa nf fc,.slice ca nc cc,.int .i64 lk,.slice ka nk kc] _ _ rfl).below (below_alloc1 _ _)).below (below_alloc1 _ _)).below (by repeat(first|exact Below.refl _ _|refine below_drewN ?_ _|refine Below.drew ?_))
  have b1:zF W9 (w.heap.size+1) [.int .i64 13,.int .i64 a,.int .i64 b,.int .i64 c]:=by rw[←hW9];exact((zF.mk (w.alloc (.cells #[.slice fa nf fc,.slice ca nc cc,.int .i64 lk,.slice ka nk kc] 26)) [.int .i64 13,.int .i64 a,.int .i64 b,.int .i64 c] 80 (w.heap.size+1) (by simp)).below (below_alloc1 _ _)).below (by repeat(first|exact Below.refl _ _|refine below_drewN ?_ _|refine Below.drew ?_))
  have b2:zF W9 (w.heap.size+1+1) [.int .i64 0,.int .i64 0,.int .i64 0,.int .i64 0]:=by rw[←hW9];exact(zF.mk ((w.alloc (.cells #[.slice fa nf fc,.slice ca nc cc,.int .i64 lk,.slice ka nk kc] 26)).alloc (.cells #[.int .i64 13,.int .i64 a,.int .i64 b,.int .i64 c] 80)) [.int .i64 0,.int .i64 0,.int .i64 0,.int .i64 0] 80 (w.heap.size+1+1) (by simp)).below (by repeat(first|exact Below.refl _ _|refine below_drewN ?_ _|refine Below.drew ?_))
  have b3:Below w.heap.size w W9:=by rw[←hW9];repeat(first|exact Below.refl _ _|refine below_drewN ?_ _|refine Below.drew ?_|refine Below.alloc ?_ (by first|(simp;done)|(simp;omega)) _)
  clear hW9;obtain⟨c00,-⟩:=b0 0 _ rfl;obtain⟨c01,-⟩:=b0 1 _ rfl;obtain⟨c02,-⟩:=b0 2 _ rfl;obtain⟨c03,-⟩:=b0 3 _ rfl;obtain⟨c10,-⟩:=b1 0 _ rfl;obtain⟨ZW,-⟩:=b1 1 _ rfl;obtain⟨ZB,-⟩:=b1 2 _ rfl;obtain⟨x6,-⟩:=b1 3 _ rfl;obtain⟨c20,d20⟩:=b2 0 _ rfl;obtain⟨c21,d21⟩:=b2 1 _ rfl;obtain⟨c22,d22⟩:=b2 2 _ rfl;obtain⟨c23,d23⟩:=b2 3 _ rfl;have HZ9:=Qq b2;have HB9:=Qq b3;have HB1:=Qq b1;clear b0 b1 b2 b3;go_upto_region 30 with fail
  have hl9:w.heap.size+1+1<W9.heap.size:=World.block_lt_of_cell? W9 _ c20
  go_cut [13] (fun s wx=>Hid (Wi W9 13 (zC a nc) w.heap.size [.int .i64 13,.int .i64 a,.int .i64 b,.int .i64 c] [.int .i64 0,.int .i64 0,.int .i64 0,.int .i64 0] s wx))
  case first =>
   have hp9:∀wx,Below W9.heap.size W9 wx→wx.cell? ⟨w.heap.size+1,0,none⟩=some (.int .i64 13)∧wx.cell? ⟨w.heap.size+1,1,none⟩=some (.int .i64 a):=fun wx hb=>⟨zj c10 hb,zj ZW hb⟩
   have HP9:=Qq hp9;clear hp9;have hl8:w.heap.size+1<W9.heap.size:=World.block_lt_of_cell? W9 _ c10
   go_wp2_with fail;refine yd (fun wx=>wx.cell? ⟨w.heap.size+1,0,none⟩=some (.int .i64 13)∧wx.cell? ⟨w.heap.size+1,1,none⟩=some (.int .i64 a)) 9 (Array.replicate 9 false) (by kernel_rfl) (by kernel_rfl) ?_
   refine zq 0 5 _ (Qj 9 31) 4 (by kernel_rfl) za (HP9.out _ (by repeat(first|exact Below.refl _ _|refine Below.setCell ?_ (by simp) _|refine Below.drew ?_|refine below_drewN ?_ _|refine Below.alloc ?_ (by simp) _))) (by kernel_rfl) ?_
   simp only[QX,QV,QJ];(repeat((first|refine Qx (h:=?_)|refine Qv (h:=?_));simp only[Act.put,QW,QY,QZ]));refine zb ?_;refine yJ 5 7 _ (Qj 9 63) (Qj 9 159) 3 (by kernel_rfl) (fun K hK=>?_) (fun K hK=>?_)
   ·have HK2:=Qq hK
    clear hK;simp only[QQ,QJ];refine zc (by rfl) ?_;go_simp;refine(zx _ _ _ (by omega)).mono ?_
    rintro e w5 ⟨rfl,rfl⟩;refine HK2.out _ _ (HP9.out _ (by repeat(first|exact Below.refl _ _|refine Below.setCell ?_ (by simp) _|refine Below.drew ?_|refine below_drewN ?_ _|refine Below.alloc ?_ (by simp) _))) ?_
    clear HK2 K;refine zq 6 1 _ (Qj 9 127) 2 (by kernel_rfl) za (HP9.out _ (by repeat(first|exact Below.refl _ _|refine Below.setCell ?_ (by simp) _|refine Below.drew ?_|refine below_drewN ?_ _|refine Below.alloc ?_ (by simp) _))) (by kernel_rfl) ?_
    simp only[QX,QV,QQ,QJ];(repeat((first|refine Qx (h:=?_)|refine Qv (h:=?_));simp only[Act.put,QW,QY,QZ]));refine zb ?_;refine zn 7 _ (Qj 9 255) 1 (by kernel_rfl) (fun K hK=>?_)
    have HK2:=Qq hK;clear hK;simp only[QQ,QJ];refine zc (by rfl) ?_;go_simp;refine HK2.out _ _ (HP9.out _ (by repeat(first|exact Below.refl _ _|refine Below.setCell ?_ (by simp) _|refine Below.drew ?_|refine below_drewN ?_ _|refine Below.alloc ?_ (by simp) _))) ?_
    clear HK2 K;refine zn 8 _ (Qj 9 511) 0 (by kernel_rfl) (fun K hK=>?_)
    have HK2:=Qq hK;clear hK;simp only[QQ,QJ];refine zc (by rfl) ?_;go_simp;refine HK2.out _ _ (HP9.out _ (by repeat(first|exact Below.refl _ _|refine Below.setCell ?_ (by simp) _|refine Below.drew ?_|refine below_drewN ?_ _|refine Below.alloc ?_ (by simp) _))) ?_
    clear HK2 K;refine wpAnyH_done (by kernel_rfl) (NoPanic.normal ?_) _
    go_wp2_with fail;go_meet;exact Qq ((Wi.a hl9 HB1.out HZ9.out (Below.refl _ _)).step (zg _))
   ·have HK2:=Qq hK
    clear hK;simp only[QQ,QJ];refine zc (by rfl) ?_;go_simp;refine HK2.out _ _ (HP9.out _ (by repeat(first|exact Below.refl _ _|refine Below.setCell ?_ (by simp) _|refine Below.drew ?_|refine below_drewN ?_ _|refine Below.alloc ?_ (by simp) _))) ?_
    clear HK2 K;refine zn 5 _ (Qj 9 191) 2 (by kernel_rfl) (fun K hK=>?_)
    have HK2:=Qq hK;clear hK;simp only[QQ,QJ];refine zc (by rfl) ?_;go_simp;refine(zx _ _ _ (by omega)).mono ?_
    rintro e w5 ⟨rfl,rfl⟩;refine HK2.out _ _ (HP9.out _ (by repeat(first|exact Below.refl _ _|refine Below.setCell ?_ (by simp) _|refine Below.drew ?_|refine below_drewN ?_ _|refine Below.alloc ?_ (by simp) _))) ?_
    clear HK2 K;refine zq 6 1 _ (Qj 9 255) 1 (by kernel_rfl) za (HP9.out _ (by repeat(first|exact Below.refl _ _|refine Below.setCell ?_ (by simp) _|refine Below.drew ?_|refine below_drewN ?_ _|refine Below.alloc ?_ (by simp) _))) (by kernel_rfl) ?_
    simp only[QX,QV,QQ,QJ];(repeat((first|refine Qx (h:=?_)|refine Qv (h:=?_));simp only[Act.put,QW,QY,QZ]));refine zb ?_;refine zn 8 _ (Qj 9 511) 0 (by kernel_rfl) (fun K hK=>?_)
    have HK2:=Qq hK;clear hK;simp only[QQ,QJ];refine zc (by rfl) ?_;go_simp;refine HK2.out _ _ (HP9.out _ (by repeat(first|exact Below.refl _ _|refine Below.setCell ?_ (by simp) _|refine Below.drew ?_|refine below_drewN ?_ _|refine Below.alloc ?_ (by simp) _))) ?_
    clear HK2 K;refine wpAnyH_done (by kernel_rfl) (NoPanic.normal ?_) _
    go_wp2_with fail;go_meet;exact Qq ((Wi.a hl9 HB1.out HZ9.out (Below.refl _ _)).step (zg _))
  case rest =>
   have hq0:=hcut.out;obtain⟨q,rfl,e0,e1,e2,e3,e4⟩:=hq0;generalize zC a ↑nc=X at *
   obtain⟨p0,u0⟩:=e0 0 _ rfl;obtain⟨p1,u1⟩:=e0 1 _ rfl;obtain⟨p2,u2⟩:=e0 2 _ rfl;obtain⟨p3,u3⟩:=e0 3 _ rfl;obtain⟨x0,-⟩:=e2 0 _ rfl;obtain⟨y0,t0⟩:=e3 0 _ rfl;obtain⟨y1,t1⟩:=e3 1 _ rfl;obtain⟨y2,t2⟩:=e3 2 _ rfl;obtain⟨y3,t3⟩:=e3 3 _ rfl;have hne1:w.heap.size+1≠q:=by omega
   have hne2:w.heap.size+1+1≠q:=by omega
   have E0:=Qq e0;have E3:=Qq e3;have E4:=Qq e4;have HQ:=Qq e1;clear e0 e1 e2 e3 e4 hcut c00 c01 c02 c03 c10 ZW ZB x6 c20 c21 c22 c23 d20 d21 d22 d23 hl9;go_wp2_with fail;have e:=yy ((((E3.out.Zo (k:=2) (v:=.int .i64 (B8)) hne2).set 0 (.int .i64 (13))).set 1 (.int .i64 (X))).set 2 (.int .i64 (B8)) |>.set 3 (.int .i64 (0)))
   exact bodyPost_ret (zu Tryz.results45 _ ⟨w.heap.size+1+1,0,none⟩ rfl e) rfl (xd.mk (13) (X) (B8) (0) (zX (by unfold yh;omega) (by omega) (by omega) (by first|(simp[goodB];done)|(simp[goodB,xy];done)|(simp[goodB,xy];omega))) (by unfold yh;omega) (by repeat(first|exact zA HB9.out E4.out|refine Below.setCell ?_ (by first|(simp;omega)|(have:=HQ.out;simp;omega)) _)))
theorem Dc (fa:Option Addr)(nf fc:Nat)(ca:Option Addr)(nc cc:Nat)(lk:Int)(ka:Option Addr)(nk kc:Nat)(a0:Option Addr)(n cap:Nat)(o a b c:Int)(w:World)(hk:zC o 23=14)(hb:yh b)(h1:1≤nf∧nf≤100)(h2:nc≤100)(h3:nk≤100)(h4:0≤lk∧lk≤100)(h5:1≤n∧n≤100) :
  Calls Tryz.prog 45 #[pv fa nf fc ca nc cc lk ka nk kc,.slice a0 n cap,.agg #[.int .i64 o,.int .i64 a,.int .i64 b,.int .i64 c]] w fun e w'=>xd nf nc nk lk n w e w':=by
 have ra:=zk a 8 (by omega)
 have rb:=zk b 8 (by omega)
 have rc:=zk c 8 (by omega)
 have HKK:=Qq hk;unfold pv;clear hk;by_cases hz:nc=0
 ·subst hz
  go_enter Tryz.func45,Tryz.ntmps45
  go_wp2_with fail;refine(zx _ _ _ (by omega)).mono ?_
  rintro e w1 ⟨rfl,rfl⟩;rw[HKK.out];go_wp2_with fail;go_quiet ((go_at_call 44;exact Calls.quiet_of_same (zx _ _ _ (by omega))))
  generalize zC a 8=A8 at *;generalize zC b 8=B8 at *;generalize zC c 8=C8 at *;go_wp2_with fail;go_quiet (fail)
  generalize hW9:World.drewN _ _=W9
  have b0:zF W9 w.heap.size [.slice fa nf fc,.slice ca 0 cc,.int .i64 lk,.slice ka nk kc]:=by rw[←hW9];exact(((zF.mk w [.slice fa nf fc,.slice ca 0 cc,.int .i64 lk,.slice ka nk kc] _ _ rfl).below (below_alloc1 _ _)).below (below_alloc1 _ _)).below (by repeat(first|exact Below.refl _ _|refine below_drewN ?_ _|refine Below.drew ?_))
  have b1:zF W9 (w.heap.size+1) [.int .i64 14,.int .i64 a,.int .i64 b,.int .i64 c]:=by rw[←hW9];exact((zF.mk (w.alloc (.cells #[.slice fa nf fc,.slice ca 0 cc,.int .i64 lk,.slice ka nk kc] 26)) [.int .i64 14,.int .i64 a,.int .i64 b,.int .i64 c] 80 (w.heap.size+1) (by simp)).below (below_alloc1 _ _)).below (by repeat(first|exact Below.refl _ _|refine below_drewN ?_ _|refine Below.drew ?_))
  have b2:zF W9 (w.heap.size+1+1) [.int .i64 0,.int .i64 0,.int .i64 0,.int .i64 0]:=by rw[←hW9];exact(zF.mk ((w.alloc (.cells #[.slice fa nf fc,.slice ca 0 cc,.int .i64 lk,.slice ka nk kc] 26)).alloc (.cells #[.int .i64 14,.int .i64 a,.int .i64 b,.int .i64 c] 80)) [.int .i64 0,.int .i64 0,.int .i64 0,.int .i64 0] 80 (w.heap.size+1+1) (by simp)).below (by repeat(first|exact Below.refl _ _|refine below_drewN ?_ _|refine Below.drew ?_))
  have b3:Below w.heap.size w W9:=by rw[←hW9];repeat(first|exact Below.refl _ _|refine below_drewN ?_ _|refine Below.drew ?_|refine Below.alloc ?_ (by first|(simp;done)|(simp;omega)) _)
  clear hW9;obtain⟨c00,-⟩:=b0 0 _ rfl;obtain⟨c01,-⟩:=b0 1 _ rfl;obtain⟨c02,-⟩:=b0 2 _ rfl;obtain⟨c03,-⟩:=b0 3 _ rfl;obtain⟨c10,-⟩:=b1 0 _ rfl;obtain⟨ZW,-⟩:=b1 1 _ rfl;obtain⟨ZB,-⟩:=b1 2 _ rfl;obtain⟨x6,-⟩:=b1 3 _ rfl;obtain⟨c20,d20⟩:=b2 0 _ rfl;obtain⟨c21,d21⟩:=b2 1 _ rfl;obtain⟨c22,d22⟩:=b2 2 _ rfl;obtain⟨c23,d23⟩:=b2 3 _ rfl;have HZ9:=Qq b2;have HB9:=Qq b3;clear b0 b1 b2 b3;go_wp2_with fail;have e:=yy ((((((HZ9.out)).set 0 (.int .i64 (0))).set 1 (.int .i64 (0))).set 2 (.int .i64 (0))).set 3 (.int .i64 (0)))
  exact bodyPost_ret (zu Tryz.results45 _ ⟨w.heap.size+1+1,0,none⟩ rfl e) rfl (xd.mk (0) (0) (0) (0) (zX (by unfold yh;omega) (by omega) (by omega) (by first|(simp[goodB];done)|(simp[goodB,xy];done)|(simp[goodB,xy];omega))) (by unfold yh;omega) (HB9.out.trans (by repeat(first|exact Below.refl _ _|refine Below.setCell ?_ (by simp;omega) _|refine Below.drew ?_|refine below_drewN ?_ _))))
 ·skip
  have rx:=zk a nc (by omega)
  have hz2:¬(nc:Int)=0:=by omega
  go_enter Tryz.func45,Tryz.ntmps45
  go_wp2_with fail;refine(zx _ _ _ (by omega)).mono ?_
  rintro e w1 ⟨rfl,rfl⟩;rw[HKK.out];go_wp2_with fail;go_quiet ((go_at_call 44;exact Calls.quiet_of_same (zx _ _ _ (by omega))))
  generalize zC a 8=A8 at *;generalize zC b 8=B8 at *;generalize zC c 8=C8 at *;go_wp2_with fail;go_quiet (fail)
  generalize hW9:World.drewN _ _=W9
  have b0:zF W9 w.heap.size [.slice fa nf fc,.slice ca nc cc,.int .i64 lk,.slice ka nk kc]:=by rw[←hW9];exact(((zF.mk w [.slice fa nf fc,.slice ca nc cc,.int .i64 lk,.slice ka nk kc] _ _ rfl).below (below_alloc1 _ _)).below (below_alloc1 _ _)).below (by repeat(first|exact Below.refl _ _|refine below_drewN ?_ _|refine Below.drew ?_))
  have b1:zF W9 (w.heap.size+1) [.int .i64 14,.int .i64 a,.int .i64 b,.int .i64 c]:=by rw[←hW9];exact((zF.mk (w.alloc (.cells #[.slice fa nf fc,.slice ca nc cc,.int .i64 lk,.slice ka nk kc] 26)) [.int .i64 14,.int .i64 a,.int .i64 b,.int .i64 c] 80 (w.heap.size+1) (by simp)).below (below_alloc1 _ _)).below (by repeat(first|exact Below.refl _ _|refine below_drewN ?_ _|refine Below.drew ?_))
  have b2:zF W9 (w.heap.size+1+1) [.int .i64 0,.int .i64 0,.int .i64 0,.int .i64 0]:=by rw[←hW9];exact(zF.mk ((w.alloc (.cells #[.slice fa nf fc,.slice ca nc cc,.int .i64 lk,.slice ka nk kc] 26)).alloc (.cells #[.int .i64 14,.int .i64 a,.int .i64 b,.int .i64 c] 80)) [.int .i64 0,.int .i64 0,.int .i64 0,.int .i64 0] 80 (w.heap.size+1+1) (by simp)).below (by repeat(first|exact Below.refl _ _|refine below_drewN ?_ _|refine Below.drew ?_))
  have b3:Below w.heap.size w W9:=by rw[←hW9];repeat(first|exact Below.refl _ _|refine below_drewN ?_ _|refine Below.drew ?_|refine Below.alloc ?_ (by first|(simp;done)|(simp;omega)) _)
  clear hW9;obtain⟨c00,-⟩:=b0 0 _ rfl;obtain⟨c01,-⟩:=b0 1 _ rfl;obtain⟨c02,-⟩:=b0 2 _ rfl;obtain⟨c03,-⟩:=b0 3 _ rfl;obtain⟨c10,-⟩:=b1 0 _ rfl;obtain⟨ZW,-⟩:=b1 1 _ rfl;obtain⟨ZB,-⟩:=b1 2 _ rfl;obtain⟨x6,-⟩:=b1 3 _ rfl;obtain⟨c20,d20⟩:=b2 0 _ rfl;obtain⟨c21,d21⟩:=b2 1 _ rfl;obtain⟨c22,d22⟩:=b2 2 _ rfl;obtain⟨c23,d23⟩:=b2 3 _ rfl;have HZ9:=Qq b2;have HB9:=Qq b3;have HB1:=Qq b1;clear b0 b1 b2 b3;go_upto_region 30 with fail
  have hl9:w.heap.size+1+1<W9.heap.size:=World.block_lt_of_cell? W9 _ c20
  go_cut [13] (fun s wx=>Hid (Wi W9 14 (zC a nc) w.heap.size [.int .i64 14,.int .i64 a,.int .i64 b,.int .i64 c] [.int .i64 0,.int .i64 0,.int .i64 0,.int .i64 0] s wx))
  case first =>
   have hp9:∀wx,Below W9.heap.size W9 wx→wx.cell? ⟨w.heap.size+1,0,none⟩=some (.int .i64 14)∧wx.cell? ⟨w.heap.size+1,1,none⟩=some (.int .i64 a):=fun wx hb=>⟨zj c10 hb,zj ZW hb⟩
   have HP9:=Qq hp9;clear hp9;have hl8:w.heap.size+1<W9.heap.size:=World.block_lt_of_cell? W9 _ c10
   go_wp2_with fail;refine yd (fun wx=>wx.cell? ⟨w.heap.size+1,0,none⟩=some (.int .i64 14)∧wx.cell? ⟨w.heap.size+1,1,none⟩=some (.int .i64 a)) 9 (Array.replicate 9 false) (by kernel_rfl) (by kernel_rfl) ?_
   refine zq 0 5 _ (Qj 9 31) 4 (by kernel_rfl) za (HP9.out _ (by repeat(first|exact Below.refl _ _|refine Below.setCell ?_ (by simp) _|refine Below.drew ?_|refine below_drewN ?_ _|refine Below.alloc ?_ (by simp) _))) (by kernel_rfl) ?_
   simp only[QX,QV,QJ];(repeat((first|refine Qx (h:=?_)|refine Qv (h:=?_));simp only[Act.put,QW,QY,QZ]));refine zb ?_;refine yJ 5 7 _ (Qj 9 63) (Qj 9 159) 3 (by kernel_rfl) (fun K hK=>?_) (fun K hK=>?_)
   ·have HK2:=Qq hK
    clear hK;simp only[QQ,QJ];refine zc (by rfl) ?_;go_simp;refine(zx _ _ _ (by omega)).mono ?_
    rintro e w5 ⟨rfl,rfl⟩;refine HK2.out _ _ (HP9.out _ (by repeat(first|exact Below.refl _ _|refine Below.setCell ?_ (by simp) _|refine Below.drew ?_|refine below_drewN ?_ _|refine Below.alloc ?_ (by simp) _))) ?_
    clear HK2 K;refine zq 6 1 _ (Qj 9 127) 2 (by kernel_rfl) za (HP9.out _ (by repeat(first|exact Below.refl _ _|refine Below.setCell ?_ (by simp) _|refine Below.drew ?_|refine below_drewN ?_ _|refine Below.alloc ?_ (by simp) _))) (by kernel_rfl) ?_
    simp only[QX,QV,QQ,QJ];(repeat((first|refine Qx (h:=?_)|refine Qv (h:=?_));simp only[Act.put,QW,QY,QZ]));refine zb ?_;refine zn 7 _ (Qj 9 255) 1 (by kernel_rfl) (fun K hK=>?_)
    have HK2:=Qq hK;clear hK;simp only[QQ,QJ];refine zc (by rfl) ?_;go_simp;refine HK2.out _ _ (HP9.out _ (by repeat(first|exact Below.refl _ _|refine Below.setCell ?_ (by simp) _|refine Below.drew ?_|refine below_drewN ?_ _|refine Below.alloc ?_ (by simp) _))) ?_
    clear HK2 K;refine zn 8 _ (Qj 9 511) 0 (by kernel_rfl) (fun K hK=>?_)
    have HK2:=Qq hK;clear hK;simp only[QQ,QJ];refine zc (by rfl) ?_;go_simp;refine HK2.out _ _ (HP9.out _ (by repeat(first|exact Below.refl _ _|refine Below.setCell ?_ (by simp) _|refine Below.drew ?_|refine below_drewN ?_ _|refine Below.alloc ?_ (by simp) _))) ?_
    clear HK2 K;refine wpAnyH_done (by kernel_rfl) (NoPanic.normal ?_) _
    go_wp2_with fail;go_meet;exact Qq ((Wi.a hl9 HB1.out HZ9.out (Below.refl _ _)).step (zg _))
   ·have HK2:=Qq hK
    clear hK;simp only[QQ,QJ];refine zc (by rfl) ?_;go_simp;refine HK2.out _ _ (HP9.out _ (by repeat(first|exact Below.refl _ _|refine Below.setCell ?_ (by simp) _|refine Below.drew ?_|refine below_drewN ?_ _|refine Below.alloc ?_ (by simp) _))) ?_
    clear HK2 K;refine zn 5 _ (Qj 9 191) 2 (by kernel_rfl) (fun K hK=>?_)
    have HK2:=Qq hK;clear hK;simp only[QQ,QJ];refine zc (by rfl) ?_;go_simp;refine(zx _ _ _ (by omega)).mono ?_
    rintro e w5 ⟨rfl,rfl⟩;refine HK2.out _ _ (HP9.out _ (by repeat(first|exact Below.refl _ _|refine Below.setCell ?_ (by simp) _|refine Below.drew ?_|refine below_drewN ?_ _|refine Below.alloc ?_ (by simp) _))) ?_
    clear HK2 K;refine zq 6 1 _ (Qj 9 255) 1 (by kernel_rfl) za (HP9.out _ (by repeat(first|exact Below.refl _ _|refine Below.setCell ?_ (by simp) _|refine Below.drew ?_|refine below_drewN ?_ _|refine Below.alloc ?_ (by simp) _))) (by kernel_rfl) ?_
    simp only[QX,QV,QQ,QJ];(repeat((first|refine Qx (h:=?_)|refine Qv (h:=?_));simp only[Act.put,QW,QY,QZ]));refine zb ?_;refine zn 8 _ (Qj 9 511) 0 (by kernel_rfl) (fun K hK=>?_)
    have HK2:=Qq hK;clear hK;simp only[QQ,QJ];refine zc (by rfl) ?_;go_simp;refine HK2.out _ _ (HP9.out _ (by repeat(first|exact Below.refl _ _|refine Below.setCell ?_ (by simp) _|refine Below.drew ?_|refine below_drewN ?_ _|refine Below.alloc ?_ (by simp) _))) ?_
    clear HK2 K;refine wpAnyH_done (by kernel_rfl) (NoPanic.normal ?_) _
    go_wp2_with fail;go_meet;exact Qq ((Wi.a hl9 HB1.out HZ9.out (Below.refl _ _)).step (zg _))
  case rest =>
   have hq0:=hcut.out;obtain⟨q,rfl,e0,e1,e2,e3,e4⟩:=hq0;generalize zC a ↑nc=X at *
   obtain⟨p0,u0⟩:=e0 0 _ rfl;obtain⟨p1,u1⟩:=e0 1 _ rfl;obtain⟨p2,u2⟩:=e0 2 _ rfl;obtain⟨p3,u3⟩:=e0 3 _ rfl;obtain⟨x0,-⟩:=e2 0 _ rfl;obtain⟨y0,t0⟩:=e3 0 _ rfl;obtain⟨y1,t1⟩:=e3 1 _ rfl;obtain⟨y2,t2⟩:=e3 2 _ rfl;obtain⟨y3,t3⟩:=e3 3 _ rfl;have hne1:w.heap.size+1≠q:=by omega
   have hne2:w.heap.size+1+1≠q:=by omega
   have E0:=Qq e0;have E3:=Qq e3;have E4:=Qq e4;have HQ:=Qq e1;clear e0 e1 e2 e3 e4 hcut c00 c01 c02 c03 c10 ZW ZB x6 c20 c21 c22 c23 d20 d21 d22 d23 hl9;go_wp2_with fail;have e:=yy (((((E3.out.Zo (k:=2) (v:=.int .i64 (B8)) hne2).Zo (k:=3) (v:=.int .i64 (C8)) hne2).set 0 (.int .i64 (14))).set 1 (.int .i64 (X))).set 2 (.int .i64 (B8)) |>.set 3 (.int .i64 (C8)))
   exact bodyPost_ret (zu Tryz.results45 _ ⟨w.heap.size+1+1,0,none⟩ rfl e) rfl (xd.mk (14) (X) (B8) (C8) (zX (by unfold yh;omega) (by omega) (by omega) (by first|(simp[goodB];done)|(simp[goodB,xy];done)|(simp[goodB,xy];omega))) (by unfold yh;omega) (by repeat(first|exact zA HB9.out E4.out|refine Below.setCell ?_ (by first|(simp;omega)|(have:=HQ.out;simp;omega)) _)))
theorem Dz (fa:Option Addr)(nf fc:Nat)(ca:Option Addr)(nc cc:Nat)(lk:Int)(ka:Option Addr)(nk kc:Nat)(a0:Option Addr)(n cap:Nat)(o a b c:Int)(w:World)(hk:zC o 23=15)(hb:yh b)(h1:1≤nf∧nf≤100)(h2:nc≤100)(h3:nk≤100)(h4:0≤lk∧lk≤100)(h5:1≤n∧n≤100) :
  Calls Tryz.prog 45 #[pv fa nf fc ca nc cc lk ka nk kc,.slice a0 n cap,.agg #[.int .i64 o,.int .i64 a,.int .i64 b,.int .i64 c]] w fun e w'=>xd nf nc nk lk n w e w':=by
 have ra:=zk a 8 (by omega)
 have rb:=zk b 8 (by omega)
 have rc:=zk c 8 (by omega)
 have HKK:=Qq hk;unfold pv;clear hk;by_cases hz:nc=0
 ·subst hz
  go_enter Tryz.func45,Tryz.ntmps45
  go_wp2_with fail;refine(zx _ _ _ (by omega)).mono ?_
  rintro e w1 ⟨rfl,rfl⟩;rw[HKK.out];go_wp2_with fail;go_quiet ((go_at_call 44;exact Calls.quiet_of_same (zx _ _ _ (by omega))))
  generalize zC a 8=A8 at *;generalize zC b 8=B8 at *;generalize zC c 8=C8 at *;go_wp2_with fail;go_quiet (fail)
  generalize hW9:World.drewN _ _=W9
  have b0:zF W9 w.heap.size [.slice fa nf fc,.slice ca 0 cc,.int .i64 lk,.slice ka nk kc]:=by rw[←hW9];exact(((zF.mk w [.slice fa nf fc,.slice ca 0 cc,.int .i64 lk,.slice ka nk kc] _ _ rfl).below (below_alloc1 _ _)).below (below_alloc1 _ _)).below (by repeat(first|exact Below.refl _ _|refine below_drewN ?_ _|refine Below.drew ?_))
  have b1:zF W9 (w.heap.size+1) [.int .i64 15,.int .i64 a,.int .i64 b,.int .i64 c]:=by rw[←hW9];exact((zF.mk (w.alloc (.cells #[.slice fa nf fc,.slice ca 0 cc,.int .i64 lk,.slice ka nk kc] 26)) [.int .i64 15,.int .i64 a,.int .i64 b,.int .i64 c] 80 (w.heap.size+1) (by simp)).below (below_alloc1 _ _)).below (by repeat(first|exact Below.refl _ _|refine below_drewN ?_ _|refine Below.drew ?_))
  have b2:zF W9 (w.heap.size+1+1) [.int .i64 0,.int .i64 0,.int .i64 0,.int .i64 0]:=by rw[←hW9];exact(zF.mk ((w.alloc (.cells #[.slice fa nf fc,.slice ca 0 cc,.int .i64 lk,.slice ka nk kc] 26)).alloc (.cells #[.int .i64 15,.int .i64 a,.int .i64 b,.int .i64 c] 80)) [.int .i64 0,.int .i64 0,.int .i64 0,.int .i64 0] 80 (w.heap.size+1+1) (by simp)).below (by repeat(first|exact Below.refl _ _|refine below_drewN ?_ _|refine Below.drew ?_))
  have b3:Below w.heap.size w W9:=by rw[←hW9];repeat(first|exact Below.refl _ _|refine below_drewN ?_ _|refine Below.drew ?_|refine Below.alloc ?_ (by first|(simp;done)|(simp;omega)) _)
  clear hW9;obtain⟨c00,-⟩:=b0 0 _ rfl;obtain⟨c01,-⟩:=b0 1 _ rfl;obtain⟨c02,-⟩:=b0 2 _ rfl;obtain⟨c03,-⟩:=b0 3 _ rfl;obtain⟨c10,-⟩:=b1 0 _ rfl;obtain⟨ZW,-⟩:=b1 1 _ rfl;obtain⟨ZB,-⟩:=b1 2 _ rfl;obtain⟨x6,-⟩:=b1 3 _ rfl;obtain⟨c20,d20⟩:=b2 0 _ rfl;obtain⟨c21,d21⟩:=b2 1 _ rfl;obtain⟨c22,d22⟩:=b2 2 _ rfl;obtain⟨c23,d23⟩:=b2 3 _ rfl;have HZ9:=Qq b2;have HB9:=Qq b3;clear b0 b1 b2 b3;go_wp2_with fail;have e:=yy ((((((HZ9.out)).set 0 (.int .i64 (0))).set 1 (.int .i64 (0))).set 2 (.int .i64 (0))).set 3 (.int .i64 (0)))
  exact bodyPost_ret (zu Tryz.results45 _ ⟨w.heap.size+1+1,0,none⟩ rfl e) rfl (xd.mk (0) (0) (0) (0) (zX (by unfold yh;omega) (by omega) (by omega) (by first|(simp[goodB];done)|(simp[goodB,xy];done)|(simp[goodB,xy];omega))) (by unfold yh;omega) (HB9.out.trans (by repeat(first|exact Below.refl _ _|refine Below.setCell ?_ (by simp;omega) _|refine Below.drew ?_|refine below_drewN ?_ _))))
 ·skip
  have rx:=zk a nc (by omega)
  have hz2:¬(nc:Int)=0:=by omega
  go_enter Tryz.func45,Tryz.ntmps45
  go_wp2_with fail;refine(zx _ _ _ (by omega)).mono ?_
  rintro e w1 ⟨rfl,rfl⟩;rw[HKK.out];go_wp2_with fail;go_quiet ((go_at_call 44;exact Calls.quiet_of_same (zx _ _ _ (by omega))))
  generalize zC a 8=A8 at *;generalize zC b 8=B8 at *;generalize zC c 8=C8 at *;go_wp2_with fail;go_quiet (fail)
  generalize hW9:World.drewN _ _=W9
  have b0:zF W9 w.heap.size [.slice fa nf fc,.slice ca nc cc,.int .i64 lk,.slice ka nk kc]:=by rw[←hW9];exact(((zF.mk w [.slice fa nf fc,.slice ca nc cc,.int .i64 lk,.slice ka nk kc] _ _ rfl).below (below_alloc1 _ _)).below (below_alloc1 _ _)).below (by repeat(first|exact Below.refl _ _|refine below_drewN ?_ _|refine Below.drew ?_))
  have b1:zF W9 (w.heap.size+1) [.int .i64 15,.int .i64 a,.int .i64 b,.int .i64 c]:=by rw[←hW9];exact((zF.mk (w.alloc (.cells #[.slice fa nf fc,.slice ca nc cc,.int .i64 lk,.slice ka nk kc] 26)) [.int .i64 15,.int .i64 a,.int .i64 b,.int .i64 c] 80 (w.heap.size+1) (by simp)).below (below_alloc1 _ _)).below (by repeat(first|exact Below.refl _ _|refine below_drewN ?_ _|refine Below.drew ?_))
  have b2:zF W9 (w.heap.size+1+1) [.int .i64 0,.int .i64 0,.int .i64 0,.int .i64 0]:=by rw[←hW9];exact(zF.mk ((w.alloc (.cells #[.slice fa nf fc,.slice ca nc cc,.int .i64 lk,.slice ka nk kc] 26)).alloc (.cells #[.int .i64 15,.int .i64 a,.int .i64 b,.int .i64 c] 80)) [.int .i64 0,.int .i64 0,.int .i64 0,.int .i64 0] 80 (w.heap.size+1+1) (by simp)).below (by repeat(first|exact Below.refl _ _|refine below_drewN ?_ _|refine Below.drew ?_))
  have b3:Below w.heap.size w W9:=by rw[←hW9];repeat(first|exact Below.refl _ _|refine below_drewN ?_ _|refine Below.drew ?_|refine Below.alloc ?_ (by first|(simp;done)|(simp;omega)) _)
  clear hW9;obtain⟨c00,-⟩:=b0 0 _ rfl;obtain⟨c01,-⟩:=b0 1 _ rfl;obtain⟨c02,-⟩:=b0 2 _ rfl;obtain⟨c03,-⟩:=b0 3 _ rfl;obtain⟨c10,-⟩:=b1 0 _ rfl;obtain⟨ZW,-⟩:=b1 1 _ rfl;obtain⟨ZB,-⟩:=b1 2 _ rfl;obtain⟨x6,-⟩:=b1 3 _ rfl;obtain⟨c20,d20⟩:=b2 0 _ rfl;obtain⟨c21,d21⟩:=b2 1 _ rfl;obtain⟨c22,d22⟩:=b2 2 _ rfl;obtain⟨c23,d23⟩:=b2 3 _ rfl;have HZ9:=Qq b2;have HB9:=Qq b3;have HB1:=Qq b1;clear b0 b1 b2 b3;go_upto_region 30 with fail
  have hl9:w.heap.size+1+1<W9.heap.size:=World.block_lt_of_cell? W9 _ c20
  go_cut [13] (fun s wx=>Hid (Wi W9 15 (zC a nc) w.heap.size [.int .i64 15,.int .i64 a,.int .i64 b,.int .i64 c] [.int .i64 0,.int .i64 0,.int .i64 0,.int .i64 0] s wx))
  case first =>
   have hp9:∀wx,Below W9.heap.size W9 wx→wx.cell? ⟨w.heap.size+1,0,none⟩=some (.int .i64 15)∧wx.cell? ⟨w.heap.size+1,1,none⟩=some (.int .i64 a):=fun wx hb=>⟨zj c10 hb,zj ZW hb⟩
   have HP9:=Qq hp9;clear hp9;have hl8:w.heap.size+1<W9.heap.size:=World.block_lt_of_cell? W9 _ c10
   go_wp2_with fail;refine yd (fun wx=>wx.cell? ⟨w.heap.size+1,0,none⟩=some (.int .i64 15)∧wx.cell? ⟨w.heap.size+1,1,none⟩=some (.int .i64 a)) 9 (Array.replicate 9 false) (by kernel_rfl) (by kernel_rfl) ?_
   refine zq 0 5 _ (Qj 9 31) 4 (by kernel_rfl) za (HP9.out _ (by repeat(first|exact Below.refl _ _|refine Below.setCell ?_ (by simp) _|refine Below.drew ?_|refine below_drewN ?_ _|refine Below.alloc ?_ (by simp) _))) (by kernel_rfl) ?_
   simp only[QX,QV,QJ];(repeat((first|refine Qx (h:=?_)|refine Qv (h:=?_));simp only[Act.put,QW,QY,QZ]));refine zb ?_;refine yJ 5 7 _ (Qj 9 63) (Qj 9 159) 3 (by kernel_rfl) (fun K hK=>?_) (fun K hK=>?_)
   ·have HK2:=Qq hK
    clear hK;simp only[QQ,QJ];refine zc (by rfl) ?_;go_simp;refine(zx _ _ _ (by omega)).mono ?_
    rintro e w5 ⟨rfl,rfl⟩;refine HK2.out _ _ (HP9.out _ (by repeat(first|exact Below.refl _ _|refine Below.setCell ?_ (by simp) _|refine Below.drew ?_|refine below_drewN ?_ _|refine Below.alloc ?_ (by simp) _))) ?_
    clear HK2 K;refine zq 6 1 _ (Qj 9 127) 2 (by kernel_rfl) za (HP9.out _ (by repeat(first|exact Below.refl _ _|refine Below.setCell ?_ (by simp) _|refine Below.drew ?_|refine below_drewN ?_ _|refine Below.alloc ?_ (by simp) _))) (by kernel_rfl) ?_
    simp only[QX,QV,QQ,QJ];(repeat((first|refine Qx (h:=?_)|refine Qv (h:=?_));simp only[Act.put,QW,QY,QZ]));refine zb ?_;refine zn 7 _ (Qj 9 255) 1 (by kernel_rfl) (fun K hK=>?_)
    have HK2:=Qq hK;clear hK;simp only[QQ,QJ];refine zc (by rfl) ?_;go_simp;refine HK2.out _ _ (HP9.out _ (by repeat(first|exact Below.refl _ _|refine Below.setCell ?_ (by simp) _|refine Below.drew ?_|refine below_drewN ?_ _|refine Below.alloc ?_ (by simp) _))) ?_
    clear HK2 K;refine zn 8 _ (Qj 9 511) 0 (by kernel_rfl) (fun K hK=>?_)
    have HK2:=Qq hK;clear hK;simp only[QQ,QJ];refine zc (by rfl) ?_;go_simp;refine HK2.out _ _ (HP9.out _ (by repeat(first|exact Below.refl _ _|refine Below.setCell ?_ (by simp) _|refine Below.drew ?_|refine below_drewN ?_ _|refine Below.alloc ?_ (by simp) _))) ?_
    clear HK2 K;refine wpAnyH_done (by kernel_rfl) (NoPanic.normal ?_) _
    go_wp2_with fail;go_meet;exact Qq ((Wi.a hl9 HB1.out HZ9.out (Below.refl _ _)).step (zg _))
   ·have HK2:=Qq hK
    clear hK;simp only[QQ,QJ];refine zc (by rfl) ?_;go_simp;refine HK2.out _ _ (HP9.out _ (by repeat(first|exact Below.refl _ _|refine Below.setCell ?_ (by simp) _|refine Below.drew ?_|refine below_drewN ?_ _|refine Below.alloc ?_ (by simp) _))) ?_
    clear HK2 K;refine zn 5 _ (Qj 9 191) 2 (by kernel_rfl) (fun K hK=>?_)
    have HK2:=Qq hK;clear hK;simp only[QQ,QJ];refine zc (by rfl) ?_;go_simp;refine(zx _ _ _ (by omega)).mono ?_
    rintro e w5 ⟨rfl,rfl⟩;refine HK2.out _ _ (HP9.out _ (by repeat(first|exact Below.refl _ _|refine Below.setCell ?_ (by simp) _|refine Below.drew ?_|refine below_drewN ?_ _|refine Below.alloc ?_ (by simp) _))) ?_
    clear HK2 K;refine zq 6 1 _ (Qj 9 255) 1 (by kernel_rfl) za (HP9.out _ (by repeat(first|exact Below.refl _ _|refine Below.setCell ?_ (by simp) _|refine Below.drew ?_|refine below_drewN ?_ _|refine Below.alloc ?_ (by simp) _))) (by kernel_rfl) ?_
    simp only[QX,QV,QQ,QJ];(repeat((first|refine Qx (h:=?_)|refine Qv (h:=?_));simp only[Act.put,QW,QY,QZ]));refine zb ?_;refine zn 8 _ (Qj 9 511) 0 (by kernel_rfl) (fun K hK=>?_)
    have HK2:=Qq hK;clear hK;simp only[QQ,QJ];refine zc (by rfl) ?_;go_simp;refine HK2.out _ _ (HP9.out _ (by repeat(first|exact Below.refl _ _|refine Below.setCell ?_ (by simp) _|refine Below.drew ?_|refine below_drewN ?_ _|refine Below.alloc ?_ (by simp) _))) ?_
    clear HK2 K;refine wpAnyH_done (by kernel_rfl) (NoPanic.normal ?_) _
    go_wp2_with fail;go_meet;exact Qq ((Wi.a hl9 HB1.out HZ9.out (Below.refl _ _)).step (zg _))
  case rest =>
   have hq0:=hcut.out;obtain⟨q,rfl,e0,e1,e2,e3,e4⟩:=hq0;generalize zC a ↑nc=X at *
   obtain⟨p0,u0⟩:=e0 0 _ rfl;obtain⟨p1,u1⟩:=e0 1 _ rfl;obtain⟨p2,u2⟩:=e0 2 _ rfl;obtain⟨p3,u3⟩:=e0 3 _ rfl;obtain⟨x0,-⟩:=e2 0 _ rfl;obtain⟨y0,t0⟩:=e3 0 _ rfl;obtain⟨y1,t1⟩:=e3 1 _ rfl;obtain⟨y2,t2⟩:=e3 2 _ rfl;obtain⟨y3,t3⟩:=e3 3 _ rfl;have hne1:w.heap.size+1≠q:=by omega
   have hne2:w.heap.size+1+1≠q:=by omega
   have E0:=Qq e0;have E3:=Qq e3;have E4:=Qq e4;have HQ:=Qq e1;clear e0 e1 e2 e3 e4 hcut c00 c01 c02 c03 c10 ZW ZB x6 c20 c21 c22 c23 d20 d21 d22 d23 hl9;go_wp2_with fail;have e:=yy (w:=_) (((E3.out.set 0 (.int .i64 (15))).set 1 (.int .i64 (X))).set 2 (.int .i64 (0)) |>.set 3 (.int .i64 (0)))
   exact bodyPost_ret (zu Tryz.results45 _ ⟨w.heap.size+1+1,0,none⟩ rfl e) rfl (xd.mk (15) (X) (0) (0) (zX (by unfold yh;omega) (by omega) (by omega) (by first|(simp[goodB];done)|(simp[goodB,xy];done)|(simp[goodB,xy];omega))) (by unfold yh;omega) (by repeat(first|exact zA HB9.out E4.out|refine Below.setCell ?_ (by first|(simp;omega)|(have:=HQ.out;simp;omega)) _)))
theorem IZ (fa:Option Addr)(nf fc:Nat)(ca:Option Addr)(nc cc:Nat)(lk:Int)(ka:Option Addr)(nk kc:Nat)(a0:Option Addr)(n cap:Nat)(o a b c:Int)(w:World)(hb:yh b)(h1:1≤nf∧nf≤100)(h2:nc≤100)(h3:nk≤100)(h4:0≤lk∧lk≤100)(h5:1≤n∧n≤100) :
  Calls Tryz.prog 45 #[pv fa nf fc ca nc cc lk ka nk kc,.slice a0 n cap,.agg #[.int .i64 o,.int .i64 a,.int .i64 b,.int .i64 c]] w fun e w'=>xd nf nc nk lk n w e w':=by
 have r:=zk o 23 (by omega)
 have hc:zC o 23=0∨zC o 23=1∨zC o 23=2∨zC o 23=3∨zC o 23=4∨zC o 23=5∨zC o 23=6∨zC o 23=7∨zC o 23=8∨zC o 23=9∨zC o 23=10∨zC o 23=11∨zC o 23=12∨zC o 23=13∨zC o 23=14∨zC o 23=15∨zC o 23=16∨zC o 23=17∨zC o 23=18∨zC o 23=19∨zC o 23=20∨zC o 23=21∨zC o 23=22:=by omega
 rcases hc with h|h|h|h|h|h|h|h|h|h|h|h|h|h|h|h|h|h|h|h|h|h|h
 ·exact Cu fa nf fc ca nc cc lk ka nk kc a0 n cap o a b c w h hb h1 h2 h3 h4 h5
 ·exact D8 fa nf fc ca nc cc lk ka nk kc a0 n cap o a b c w h hb h1 h2 h3 h4 h5
 ·exact Cq fa nf fc ca nc cc lk ka nk kc a0 n cap o a b c w h hb h1 h2 h3 h4 h5
 ·exact DO fa nf fc ca nc cc lk ka nk kc a0 n cap o a b c w h hb h1 h2 h3 h4 h5
 ·exact Co fa nf fc ca nc cc lk ka nk kc a0 n cap o a b c w h hb h1 h2 h3 h4 h5
 ·exact DK fa nf fc ca nc cc lk ka nk kc a0 n cap o a b c w h hb h1 h2 h3 h4 h5
 ·exact DL fa nf fc ca nc cc lk ka nk kc a0 n cap o a b c w h hb h1 h2 h3 h4 h5
 ·exact DI fa nf fc ca nc cc lk ka nk kc a0 n cap o a b c w h hb h1 h2 h3 h4 h5
 ·exact Cf fa nf fc ca nc cc lk ka nk kc a0 n cap o a b c w h hb h1 h2 h3 h4 h5
 ·exact Cj fa nf fc ca nc cc lk ka nk kc a0 n cap o a b c w h hb h1 h2 h3 h4 h5
 ·exact EY fa nf fc ca nc cc lk ka nk kc a0 n cap o a b c w h hb h1 h2 h3 h4 h5
 ·exact Ei fa nf fc ca nc cc lk ka nk kc a0 n cap o a b c w h hb h1 h2 h3 h4 h5
 ·exact EW fa nf fc ca nc cc lk ka nk kc a0 n cap o a b c w h hb h1 h2 h3 h4 h5
 ·exact Et fa nf fc ca nc cc lk ka nk kc a0 n cap o a b c w h hb h1 h2 h3 h4 h5
 ·exact Dc fa nf fc ca nc cc lk ka nk kc a0 n cap o a b c w h hb h1 h2 h3 h4 h5
 ·exact Dz fa nf fc ca nc cc lk ka nk kc a0 n cap o a b c w h hb h1 h2 h3 h4 h5
 ·exact EN fa nf fc ca nc cc lk ka nk kc a0 n cap o a b c w h hb h1 h2 h3 h4 h5
 ·exact Db fa nf fc ca nc cc lk ka nk kc a0 n cap o a b c w h hb h1 h2 h3 h4 h5
 ·exact ER fa nf fc ca nc cc lk ka nk kc a0 n cap o a b c w h hb h1 h2 h3 h4 h5
 ·exact ED fa nf fc ca nc cc lk ka nk kc a0 n cap o a b c w h hb h1 h2 h3 h4 h5
 ·exact FY fa nf fc ca nc cc lk ka nk kc a0 n cap o a b c w h hb h1 h2 h3 h4 h5
 ·exact Ez fa nf fc ca nc cc lk ka nk kc a0 n cap o a b c w h hb h1 h2 h3 h4 h5
 ·exact EZ fa nf fc ca nc cc lk ka nk kc a0 n cap o a b c w h hb h1 h2 h3 h4 h5
theorem GO:(Tryz.prog.info? 128).map (fun i=>(i.zero,i.size,i.bytes))=some (some (.agg #[.int .i64 0,.int .i64 0,.int .i64 0]),3,24):=by kernel_rfl
theorem Hw:(Tryz.prog.info? 80).map (fun i=>(i.zero,i.size,i.bytes))=some (some (.agg #[.int .i64 0,.int .i64 0,.int .i64 0,.int .i64 0]),4,32):=by kernel_rfl
theorem J8:(Tryz.prog.info? 78).map (fun i=>(i.zero,i.size,i.bytes))=some (some (.slice none 0 0),1,24):=by kernel_rfl
theorem Oo:∀w,(sizeOf (Tryz.prog.elem 22)).run Tryz.prog w=.ok 1 w:=by intro w;kernel_rfl
theorem Od:∀w,(sizeOf (Tryz.prog.elem 78)).run Tryz.prog w=.ok 4 w:=by intro w;kernel_rfl
def NA (w:World)(a:Option Addr)(l:List (List zS)):Prop:=∀i (h:i<l.length),∃b off a' c',a=some ⟨b,off,none⟩∧w.cell? ⟨b,off+i,none⟩=some (.slice a' l[i].length c')∧l[i].length≤c'∧c'≤maxLen∧xB w a' l[i]
theorem NA.below {w w':World}{a:Option Addr}{l:List (List zS)}(h:NA w a l)(hb:Below w.heap.size w w'):NA w' a l:=fun i hi=>by
 obtain⟨b,off,a',c',rfl,h1,h2,h3,h4⟩:=h i hi;exact⟨b,off,a',c',rfl,zj h1 hb,h2,h3,h4.below hb⟩
def Ge (n:Nat)(k:Sx):Prop:=Lj n k=true∧0≤k.2.1∧0≤k.2.2∧k.2.2<8
def FR (w:World)(r:Ending)(w':World):Prop :=
 ∃fa fc rs ca cc cs ka kc ks lk,r=.returned (.agg #[.slice fa (List.length rs) fc,.slice ca (List.length cs) cc,.int .i64 lk,.slice ka (List.length ks) kc])∧(1≤rs.length∧rs.length≤5)∧L1 cs lk ks∧(∀k∈ks,Ge cs.length k)∧(∀r:Fr,r∈rs→EL rs.length cs.length ks.length lk r.l) ∧
  Own w w' (zd 1 fa fc rs.length (Xy rs)::zd 1 ca cc cs.length (zr cs)::zd 3 ka kc ks.length (ZU ks)::fns rs)
def CH (w wr:World)(s0 s1 ob:Nat)(A0 A1:List Value)(lk:Int)(i:Nat):Prop :=
 ∃a1 c1 cs,cs.length=i∧(∀c∈cs,0≤c∧c≤3)∧Own w wr [zf ob [.slice none 0 0,.slice a1 i c1,.int .i64 lk,.slice none 0 0],zd 1 a1 c1 i (zr cs),zf s1 A1,zf s0 A0]
def CL (w wr:World)(s0 s1 ob:Nat)(A0 A1:List Value)(lk:Int)(a1:Option Addr)(c1:Nat)(cs:List Int)(n j:Nat):Prop :=
 ∃a2 c2 ks,ks.length=j∧(∀k∈ks,Ge n k)∧Own w wr [zf ob [.slice none 0 0,.slice a1 n c1,.int .i64 lk,.slice a2 j c2],zd 3 a2 c2 j (ZU ks),zd 1 a1 c1 n (zr cs),zf s1 A1,zf s0 A0]
theorem Mp {w:World}{b:Nat}{fa:Option Addr}{nf fc:Nat}{ca:Option Addr}{nc cc:Nat}{lk:Int}{ka:Option Addr}{nk kc:Nat}(h:zF w b [.slice fa nf fc,.slice ca nc cc,.int .i64 lk,.slice ka nk kc]):(loadVar 26 ⟨b,0,none⟩).run Tryz.prog w=.ok (.agg #[.slice fa nf fc,.slice ca nc cc,.int .i64 lk,.slice ka nk kc]) w:=by
 have e0:=(h 0 _ rfl).1
 have e1:=(h 1 _ rfl).1
 have e2:=(h 2 _ rfl).1
 have e3:=(h 3 _ rfl).1
 simp[go_sem,e0,e1,e2,e3]
theorem Own.FD {w0 w:World}{R:List zy}(h:Own w0 w R):∀n:Nat,Own w0 w (fns (List.replicate n ⟨none,0,[]⟩)++R)
 | 0=>h
 | n+1=>(Own.FD h n).add (Below.refl _ _) (A:=zd 4 none 0 0 (inc [])) (F:=[]) ⟨rfl,zU.nil 4 _⟩ (by simp)
theorem Gw (n:Nat):(madeCells #[Value.slice none 0 0] (n*1)).toList=Xy (List.replicate n ⟨none,0,[]⟩):=by
 rw[Nat.mul_one,toList_madeCells_one];unfold Xy JV;simp
theorem GH (w:World)(n:Nat)(hn:n≤1000000):∃w1 a c,(Instr.makeSlice 22 (.int .i64 (n:Int)) (.int .i64 (n:Int))).run Tryz.prog w=.ok (.slice a n c) w1∧zU 1 w1 a c n (Xy (List.replicate n ⟨none,0,[]⟩))∧(∀x∈yf a,w.heap.size≤x)∧Below w.heap.size w w1:=by
 obtain⟨i0,hi,hz0,hz1,hz2⟩:=info_parts J8;obtain⟨w1,h1,h2,h3⟩:=run_make_full (P:=Tryz.prog) w w.heap.size 22 78 i0 _ 1 Tryz.underlying22 hi hz0 hz1 .i64 .i64 n (by rw[hz2];omega) (by unfold maxLen;omega) (Nat.le_refl _)
 obtain⟨a,cap,e,hr,hb⟩:=zU.xO h2;simp only[Value.slice.injEq] at e;obtain⟨e1,e2,e3⟩:=e;subst e1;rw[←e3] at hr;rw[show(Value.slice none 0 0).cells=#[Value.slice none 0 0] from rfl,Gw] at hr
 exact⟨w1,_,_,h1,hr,hb,(yF h3).YB⟩
def Df (w:World)(X:List zy)(ga:Option Addr)(gl:List (List zS)):Prop:=∀q (h:q<gl.length),∃b off a' c',ga=some ⟨b,off,none⟩∧gl[q].length≤c'∧c'≤maxLen∧∀wy L,Own w wy (L++X)→wy.cell? ⟨b,off+q,none⟩=some (.slice a' gl[q].length c')∧xB wy a' gl[q]
def CF (w wr:World)(ob gn nc nk:Nat)(lk:Int)(sa:Option Addr)(sc:Nat)(i:Nat)(L:List zy):Prop :=
 ∃rs:List Fr,rs.length=gn∧(∀k r,k<i→rs[k]?=some r→EL gn nc nk lk r.l)∧Own w wr (fns rs++zd 1 sa sc gn (Xy rs)::L)
theorem N8 (fa:Option Addr)(fc:Nat)(ca:Option Addr)(cc:Nat)(ka:Option Addr)(kc:Nat)(d:PD)(w:World)(hf:NA w fa d.fs)(hc:yR w ca d.cs)(hk:Z4 w ka d.ks)(hfit:Fits d)(hl1:d.fs.length≤fc)(hl2:fc≤maxLen)(hl3:d.cs.length≤9223372036854775807)(hl4:d.ks.length≤9223372036854775807) :
  Calls Tryz.prog 22 #[.agg #[.slice fa d.fs.length fc,.slice ca d.cs.length cc,.int .i64 d.lk,.slice ka d.ks.length kc]] w fun r w'=>FR w r w':=by
 obtain⟨fs,cs0,lk0,ks0⟩:=d;simp only at hf hc hk hl1 hl3 hl4 hfit ⊢
 unfold maxLen at hl2;obtain⟨nf,hnf⟩:∃n,fs.length=n:=⟨_,rfl⟩
 obtain⟨nc,hn⟩:∃n,cs0.length=n:=⟨_,rfl⟩
 obtain⟨nk,hm⟩:∃n,ks0.length=n:=⟨_,rfl⟩
 rw[hnf] at hl1 ⊢;rw[hn] at hl3 ⊢;rw[hm] at hl4 ⊢;have HNF:=Qq hnf;have HN:=Qq hn;have HM:=Qq hm;have HF:=Qq hf;have HC:=Qq hc;have HK:=Qq hk;have HFIT:=Qq hfit;obtain⟨s0,hs0⟩:∃s0,s0=w.heap.size:=⟨_,rfl⟩
 have HW:=Qq hs0;have hO:Own w ((w.alloc (.cells #[.slice fa nf fc,.slice ca nc cc,.int .i64 lk0,.slice ka nk kc] 26)).alloc (.cells #[.slice none 0 0,.slice none 0 0,.int .i64 0,.slice none 0 0] 26)) [zf (s0+1) [.slice none 0 0,.slice none 0 0,.int .i64 0,.slice none 0 0],zf s0 [.slice fa nf fc,.slice ca nc cc,.int .i64 lk0,.slice ka nk kc]] :=
  ((Own.nil (Below.refl _ _)).alloc [.slice fa nf fc,.slice ca nc cc,.int .i64 lk0,.slice ka nk kc] _ hs0).alloc [.slice none 0 0,.slice none 0 0,.int .i64 0,.slice none 0 0] _ (by simp[hs0])
 have HO:=Qq hO;clear hO hf hc hk hnf hn hm hfit;obtain⟨r0,hi0,hz0,hz1,hz2⟩:=info_parts GO;have Ri:=Qq hi0;clear hi0
 have Rz0:=Qq hz0;clear hz0
 have Rz1:=Qq hz1;clear hz1
 have Rz2:=Qq hz2;clear hz2
 obtain⟨q0,hi0,hz0,hz1,hz2⟩:=info_parts Hw;have Qi:=Qq hi0;clear hi0
 have Qz0:=Qq hz0;clear hz0
 have Qz1:=Qq hz1;clear hz1
 have Qz2:=Qq hz2;clear hz2
 obtain⟨n0,hi0,hz0,hz1,hz2⟩:=info_parts OT;have Ni:=Qq hi0;clear hi0
 have Nz0:=Qq hz0;clear hz0
 have Nz1:=Qq hz1;clear hz1
 have Nz2:=Qq hz2;clear hz2
 go_enter Tryz.func22,Tryz.ntmps22
 go_upto_region 1 with fail
 rw[←hs0];clear hs0;generalize ((w.alloc (.cells #[.slice fa nf fc,.slice ca nc cc,.int .i64 lk0,.slice ka nk kc] 26)).alloc (.cells #[.slice none 0 0,.slice none 0 0,.int .i64 0,.slice none 0 0] 26))=W at *
 obtain⟨p2,-⟩:=HO.out.zo 1 rfl 2 _ rfl;go_wp2_with fail;refine(zx lk0 4 W (by omega)).mono ?_
 rintro r W ⟨rfl,rfl⟩;obtain⟨lk,hlk⟩:∃lk,lk=zC lk0 4:=⟨_,rfl⟩
 have hlkr:0≤lk∧lk≤3:=by have:=zk lk0 4 (by omega);omega
 rw[←hlk];clear hlk p2;obtain⟨ob,hob⟩:∃ob,ob=W.heap.size:=⟨_,rfl⟩
 have hO1:=HO.out.alloc [.slice none 0 0,.slice none 0 0,.int .i64 lk,.slice none 0 0] 26 hob
 have hst:CH w (W.alloc (.cells #[.slice none 0 0,.slice none 0 0,.int .i64 lk,.slice none 0 0] 26)) s0 (s0+1) ob [.slice fa nf fc,.slice ca nc cc,.int .i64 lk0,.slice ka nk kc] [.slice none 0 0,.slice none 0 0,.int .i64 0,.slice none 0 0] lk 0 :=
  ⟨none,0,[],rfl,by simp,(hO1.add (Below.refl _ _) (A:=zd 1 none 0 0 (zr [])) (F:=[]) ⟨rfl,zU.nil 1 _⟩ (by simp)).pick 1 rfl⟩
 have HST:=Qq hst;clear hO1 hst HO;go_wp2_with fail;rw[←hob];clear hob;go_loopw [4] (fun s wr=>∃i:Nat,i≤nc∧i≤4∧s=.int .i64 i∧Hid (CH w wr s0 (s0+1) ob [.slice fa nf fc,.slice ca nc cc,.int .i64 lk0,.slice ka nk kc] [.slice none 0 0,.slice none 0 0,.int .i64 0,.slice none 0 0] lk i)) (fun s _=>4-(intOf s).toNat)
 case atStart=>exact⟨0,by omega,by omega,rfl,HST⟩
 case round =>
  obtain⟨i,hi1,hi2,rfl,hr⟩:=hrel;clear HST;by_cases hlt:i<nc∧i<4
  ·obtain⟨a1,c1,cs,h1,h2,ho⟩:=hr.out
   obtain⟨p1,-⟩:=ho.zo 3 rfl 1 _ rfl;obtain⟨z1,z2⟩:=hlt;have hil:i<cs0.length:=by rw[HN.out];exact z1
   obtain⟨b,off,rfl,e0⟩:=HC.out i hil;obtain⟨x,hx⟩:∃x,x=cs0[i]:=⟨_,rfl⟩
   rw[←hx] at e0;have z1':(i:Int)<(nc:Int):=by omega
   have z2':(i:Int)<4:=by omega
   have SCB:∀{wx:World} {A:zy},Own w wx [zf ob [.slice none 0 0,.slice a1 i c1,.int .i64 lk,.slice none 0 0],A,zf (s0+1) [.slice none 0 0,.slice none 0 0,.int .i64 0,.slice none 0 0],zf s0 [.slice fa nf fc,.slice (some ⟨b,off,none⟩) nc cc,.int .i64 lk0,.slice ka nk kc]]→(wx.cell? ⟨ob,1,none⟩=some (.slice a1 i c1)∧wx.cell? ⟨s0,1,none⟩=some (.slice (some ⟨b,off,none⟩) nc cc)∧wx.cell? ⟨b,off+i,none⟩=some (.int .i64 x)) :=
    fun h=>⟨(h.zo 0 rfl 1 _ rfl).1,(h.zo 3 rfl 1 _ rfl).1,zj e0 h.bel⟩
   obtain⟨y,hyr,hmod⟩:∃y,(0≤y∧y≤3)∧∀w',Calls Tryz.prog 44 #[.int .i64 x,.int .i64 4] w' fun e w''=>e=.returned (.int .i64 y)∧w''=w':=⟨zC x 4,by have:=zk x 4 (by omega);omega,fun w'=>zx x 4 w' (by omega)⟩
   have HMOD:=Qq hmod;have HYR:=Qq hyr;have HO:=Qq ho;have HH:=Qq (And.intro h1 h2)
   clear hmod hyr;clear hr ho h1 h2 hx hil;go_upto_region 5 with fail
   have o1:=HO.out.step (zg wr)
   refine xY (fun wx=>wx.cell? ⟨ob,1,none⟩=some (.slice a1 i c1)∧wx.cell? ⟨s0,1,none⟩=some (.slice (some ⟨b,off,none⟩) nc cc)∧wx.cell? ⟨b,off+i,none⟩=some (.int .i64 x)) 12 (Array.replicate 12 false) (by kernel_rfl) (by kernel_rfl) ?_
   refine zY 0 7 _ (Qj 12 127) 5 (by kernel_rfl) za (SCB o1) (by kernel_rfl) ?_
   simp only[QX,QV,QJ];(repeat((first|refine Qx (h:=?_)|refine Qv (h:=?_));simp only[Act.put,QW,QY,QZ]));refine zb ?_;refine yq 7 _ (Qj 12 255) 4 (by kernel_rfl) (fun K hK=>?_)
   have HKK:=Qq hK;clear hK;simp only[QQ,QJ];refine zc (by rfl) ?_;go_simp;refine(HMOD.out wr.drew).mono ?_
   rintro r w7 ⟨rfl,rfl⟩;refine HKK.out _ _ (SCB o1) ?_
   clear HKK K;have o2:=(HO.out.step (below_alloc1 wr (.cells #[.int .i64 y] 3))).step (zg _)
   refine yq 8 _ (Qj 12 511) 3 (by kernel_rfl) (fun K hK=>?_)
   have HKK:=Qq hK;clear hK;simp only[QQ,QJ];refine zc (by rfl) ?_;go_simp;refine HKK.out _ _ (SCB o2) ?_
   clear HKK K;refine yq 9 _ (Qj 12 1023) 2 (by kernel_rfl) (fun K hK=>?_)
   have HKK:=Qq hK;clear hK;simp only[QQ,QJ];refine zc (by rfl) ?_;refine yP (n:=i) (m:=1) (cs:=zr cs) (ds:=zr [y]) _ _ 23 (by rfl) 3 n0 _ Tryz.underlying23 Ni.out Nz0.out Nz1.out Nz2.out rfl (by omega) (by omega) (by rfl) (by rfl) (o2.yZ 1 rfl) ((zt.new wr (zr [y]) _ rfl).below (zg _)) rfl (ZQ _) (by omega) ?_
   intro a9 c9 w9 k9 ch9 f9;have o3:Own w w9 [zf ob [.slice none 0 0,.slice a1 i c1,.int .i64 lk,.slice none 0 0],zd 1 a9 c9 (i+1) (zr cs++zr [y]),zf (s0+1) [.slice none 0 0,.slice none 0 0,.int .i64 0,.slice none 0 0],zf s0 [.slice fa nf fc,.slice (some ⟨b,off,none⟩) nc cc,.int .i64 lk0,.slice ka nk kc]]:=(Own.xj (o2.pick 1 rfl) k9 ch9 f9).pick 1 rfl
   refine HKK.out _ _ (SCB o3) ?_
   clear HKK K;refine zY 10 1 _ (Qj 12 2047) 1 (by kernel_rfl) za (SCB o3) (by kernel_rfl) ?_
   simp only[QX,QV,QQ,QJ];(repeat((first|refine Qx (h:=?_)|refine Qv (h:=?_));simp only[Act.put,QW,QY,QZ]));refine zb ?_;obtain⟨y1,g1⟩:=o3.zo 0 rfl 1 _ rfl;have hfin:=o3.setAt 0 rfl 1 (.slice a9 (i+1) c9)
   have HR:Hid (CH w (w9.setCell ⟨ob,1,none⟩ (.slice a9 (i+1) c9)) s0 (s0+1) ob [.slice fa nf fc,.slice (some ⟨b,off,none⟩) nc cc,.int .i64 lk0,.slice ka nk kc] [.slice none 0 0,.slice none 0 0,.int .i64 0,.slice none 0 0] lk (i+1)):=Qq ⟨a9,c9,cs++[y],by simp[HH.out.1],fun c hc=>by
    rcases List.mem_append.1 hc with h|h
    ·exact HH.out.2 c h
    ·obtain rfl:=by simpa using h
     exact HYR.out,by rw[show zr (cs++[y])=zr cs++zr [y] by unfold zr;simp];exact hfin⟩
   clear hfin k9 ch9 f9 o1 o2 o3 SCB HO HH;refine xl 11 _ (Qj 12 4095) (by kernel_rfl) (fun K hK=>?_)
   have HKK:=Qq hK;clear hK;simp only[QQ,QJ];refine zc (by rfl) ?_;go_simp;refine HKK.out _ _ (NoPanic.normal ?_)
   clear HKK K;go_wp2;exact⟨⟨i+1,by omega,by omega,by go_num,HR⟩,by simp[intOf];omega⟩
  ·have hcase:(i<nc∧¬i<4)∨¬i<nc:=by omega
   obtain⟨a1,c1,cs,h1,h2,ho⟩:=hr.out;obtain⟨p1,-⟩:=ho.zo 3 rfl 1 _ rfl;have hst:CL w wr s0 (s0+1) ob [.slice fa nf fc,.slice ca nc cc,.int .i64 lk0,.slice ka nk kc] [.slice none 0 0,.slice none 0 0,.int .i64 0,.slice none 0 0] lk a1 c1 cs i 0 :=
    ⟨none,0,[],rfl,by simp,(ho.add (Below.refl _ _) (A:=zd 3 none 0 0 (ZU [])) (F:=[]) ⟨rfl,zU.nil 3 _⟩ (by simp)).pick 1 rfl⟩
   have HST:=Qq hst;have HH:=Qq (And.intro h1 h2)
   clear hr h1 h2 ho hst;go_upto_region 3 with fail
   go_cut [26] (fun s wx=>s=.bool false∧wx=wr)
   case first =>
    rcases hcase with⟨z1,z2⟩|z1
    case' inl=>have z1:(i:Int)<(nc:Int):=by omega
    case' inl=>have z2:¬(i:Int)<4:=by omega
    case' inr=>have z1:¬(i:Int)<(nc:Int):=by omega
    all_goals
     go_wp2_with fail;go_meet;exact⟨rfl,rfl⟩
   case rest =>
    obtain⟨rfl,hwc⟩:=hcut;have hwc:=hwc.symm;subst hwc;clear hcase p1 hlt;go_wp2_with fail;go_loopw [5] (fun s wr=>∃j:Nat,j≤nk∧j≤8∧s=.int .i64 j∧Hid (CL w wr s0 (s0+1) ob [.slice fa nf fc,.slice ca nc cc,.int .i64 lk0,.slice ka nk kc] [.slice none 0 0,.slice none 0 0,.int .i64 0,.slice none 0 0] lk a1 c1 cs i j)) (fun s _=>8-(intOf s).toNat)
    case atStart=>exact⟨0,by omega,by omega,rfl,HST⟩
    case round =>
     obtain⟨j,hj1,hj2,rfl,hr⟩:=hrel;clear HST;by_cases hlt:j<nk∧j<8
     ·obtain⟨a2,c2,ks,h1,h2,ho⟩:=hr.out
      obtain⟨p1,-⟩:=ho.zo 4 rfl 3 _ rfl;obtain⟨z1,z2⟩:=hlt;have hjl:j<ks0.length:=by rw[HM.out];exact z1
      obtain⟨b,off,rfl,e0,e1,e2⟩:=(HK.out.below ho.bel) j hjl
      obtain⟨x,hx⟩:∃x,x=ks0[j]:=⟨_,rfl⟩
      rw[←hx] at e0 e1 e2;obtain⟨x0,x1,x2⟩:=x;simp only at e0 e1 e2
      have z1':(j:Int)<(nk:Int):=by omega
      have z2':(j:Int)<8:=by omega
      obtain⟨cb,hcb⟩:∃cb,cb=wr.heap.size:=⟨_,rfl⟩
      have hO:=ho.alloc [.int .i64 x0,.int .i64 x1,.int .i64 x2] 128 hcb
      have HO:=Qq hO;have HH2:=Qq (And.intro h1 h2)
      obtain⟨y0,hy0,hm0⟩:∃y,(0≤y∧y≤2)∧∀w',Calls Tryz.prog 44 #[.int .i64 x0,.int .i64 3] w' fun e w''=>e=.returned (.int .i64 y)∧w''=w':=⟨zC x0 3,by have:=zk x0 3 (by omega);omega,fun w'=>zx x0 3 w' (by omega)⟩
      obtain⟨y1,hy1,hm1⟩:∃y:Int,(1≤i→0≤y∧y<i)∧∀w',Calls Tryz.prog 44 #[.int .i64 x1,.int .i64 (i:Int)] w' fun e w''=>e=.returned (.int .i64 y)∧w''=w':=⟨zC x1 i,fun h=>zk x1 i (by omega),fun w'=>zx x1 i w' (by omega)⟩
      obtain⟨y2,hy2,hm2⟩:∃y,(0≤y∧y≤7)∧∀w',Calls Tryz.prog 44 #[.int .i64 x2,.int .i64 8] w' fun e w''=>e=.returned (.int .i64 y)∧w''=w':=⟨zC x2 8,by have:=zk x2 8 (by omega);omega,fun w'=>zx x2 8 w' (by omega)⟩
      have HM0:=Qq hm0;have HM1:=Qq hm1;have HM2:=Qq hm2;have HY:=Qq (And.intro hy0 (And.intro hy1 hy2))
      clear hr ho h1 h2 hx hjl hO hy0 hy1 hy2 hm0 hm1 hm2;go_upto_region 10 with fail
      rw[←hcb];generalize wr.alloc (.cells #[.int .i64 x0,.int .i64 x1,.int .i64 x2] 128)=W at *
      clear hcb p1 e0 e1 e2;obtain⟨b7,hb7⟩:∃b7,b7=W.heap.size:=⟨_,rfl⟩
      have SCB:∀{wx:World},Below W.heap.size W wx→(wx.cell? ⟨cb,0,none⟩=some (.int .i64 x0)∧wx.cell? ⟨cb,1,none⟩=some (.int .i64 x1)∧wx.cell? ⟨cb,2,none⟩=some (.int .i64 x2)∧wx.cell? ⟨ob,1,none⟩=some (.slice a1 i c1)) :=
       fun h=>⟨zj (HO.out.zo 0 rfl 0 _ rfl).1 h,zj (HO.out.zo 0 rfl 1 _ rfl).1 h,zj (HO.out.zo 0 rfl 2 _ rfl).1 h,zj (HO.out.zo 1 rfl 1 _ rfl).1 h⟩
      go_cut [7] (fun s wx=>s=.pointer (some ⟨b7,0,none⟩)∧wx=(W.alloc (.cells #[.int .i64 y0,.int .i64 y1,.int .i64 y2] 128)).drew)
      case first =>
       have o1:=zg W;have oA:=zA (below_alloc1 W (.cells #[.int .i64 0,.int .i64 0,.int .i64 0] 128)) (zg _)
       refine xY (fun wx=>wx.cell? ⟨cb,0,none⟩=some (.int .i64 x0)∧wx.cell? ⟨cb,1,none⟩=some (.int .i64 x1)∧wx.cell? ⟨cb,2,none⟩=some (.int .i64 x2)∧wx.cell? ⟨ob,1,none⟩=some (.slice a1 i c1)) 15 (Array.replicate 15 false) (by kernel_rfl) (by kernel_rfl) ?_
       refine zY 0 2 _ (Qj 15 3) 13 (by kernel_rfl) za (SCB o1) (by kernel_rfl) ?_
       simp only[QX,QV,QJ];(repeat((first|refine Qx (h:=?_)|refine Qv (h:=?_));simp only[Act.put,QW,QY,QZ]));refine zb ?_;refine zY 3 5 _ (Qj 15 251) 8 (by kernel_rfl) za (SCB o1) (by kernel_rfl) ?_
       simp only[QX,QV,QQ,QJ];(repeat((first|refine Qx (h:=?_)|refine Qv (h:=?_));simp only[Act.put,QW,QY,QZ]));refine zb ?_;refine zY 9 2 _ (Qj 15 1787) 6 (by kernel_rfl) za (SCB o1) (by kernel_rfl) ?_
       simp only[QX,QV,QQ,QJ];(repeat((first|refine Qx (h:=?_)|refine Qv (h:=?_));simp only[Act.put,QW,QY,QZ]));refine zb ?_;refine Zl 2 13 _ (Qj 15 1791) (Qj 15 9979) 5 (by kernel_rfl) (fun K hK=>?_) (fun K hK=>?_)
       ·skip
        have HKK:=Qq hK;clear hK;simp only[QQ,QJ];refine zc (by rfl) ?_;go_simp;refine(HM0.out W.drew).mono ?_
        rintro r w7 ⟨rfl,rfl⟩;refine HKK.out _ _ (SCB o1) ?_
        clear HKK K;refine Zl 8 13 _ (Qj 15 2047) (Qj 15 9983) 4 (by kernel_rfl) (fun K hK=>?_) (fun K hK=>?_)
        ·skip
         have HKK:=Qq hK;clear hK;simp only[QQ,QJ];refine zc (by rfl) ?_;go_simp;refine(HM1.out W.drew).mono ?_
         rintro r w7 ⟨rfl,rfl⟩;refine HKK.out _ _ (SCB o1) ?_
         clear HKK K;refine Zl 11 13 _ (Qj 15 4095) (Qj 15 10239) 3 (by kernel_rfl) (fun K hK=>?_) (fun K hK=>?_)
         ·skip
          have HKK:=Qq hK;clear hK;simp only[QQ,QJ];refine zc (by rfl) ?_;go_simp;refine(HM2.out W.drew).mono ?_
          rintro r w7 ⟨rfl,rfl⟩;refine HKK.out _ _ (SCB o1) ?_
          clear HKK K;refine zY 12 1 _ (Qj 15 8191) 2 (by kernel_rfl) za (SCB o1) (by kernel_rfl) ?_
          simp only[QX,QV,QQ,QJ];(repeat((first|refine Qx (h:=?_)|refine Qv (h:=?_));simp only[Act.put,QW,QY,QZ]));refine zb ?_;refine yq 13 _ (Qj 15 16383) 1 (by kernel_rfl) (fun K hK=>?_)
          have HKK:=Qq hK;clear hK;simp only[QQ,QJ];refine zc (by rfl) ?_;go_simp;refine HKK.out _ _ (SCB oA) ?_
          clear HKK K;refine xl 14 _ (Qj 15 32767) (by kernel_rfl) (fun K hK=>?_)
          have HKK:=Qq hK;clear hK;simp only[QQ,QJ];refine zc (by rfl) ?_;go_simp;refine HKK.out _ _ (NoPanic.normal ?_)
          clear HKK K;go_wp2_with fail;go_meet;exact⟨by rw[hb7],rfl⟩
         ·skip
          have HKK:=Qq hK;clear hK;simp only[QQ,QJ];refine zc (by rfl) ?_;go_simp;refine HKK.out _ _ (SCB oA) ?_
          clear HKK K;refine yq 11 _ (Qj 15 12287) 2 (by kernel_rfl) (fun K hK=>?_)
          have HKK:=Qq hK;clear hK;simp only[QQ,QJ];refine zc (by rfl) ?_;go_simp;refine(HM2.out (W.alloc (.cells #[.int .i64 0,.int .i64 0,.int .i64 0] 128)).drew).mono ?_
          rintro r w7 ⟨rfl,rfl⟩;refine HKK.out _ _ (SCB oA) ?_
          clear HKK K;refine zY 12 1 _ (Qj 15 16383) 1 (by kernel_rfl) za (SCB oA) (by kernel_rfl) ?_
          simp only[QX,QV,QQ,QJ];(repeat((first|refine Qx (h:=?_)|refine Qv (h:=?_));simp only[Act.put,QW,QY,QZ]));refine zb ?_;refine xl 14 _ (Qj 15 32767) (by kernel_rfl) (fun K hK=>?_)
          have HKK:=Qq hK;clear hK;simp only[QQ,QJ];refine zc (by rfl) ?_;go_simp;refine HKK.out _ _ (NoPanic.normal ?_)
          clear HKK K;go_wp2_with fail;go_meet;exact⟨by rw[hb7],rfl⟩
        ·skip
         have HKK:=Qq hK;clear hK;simp only[QQ,QJ];refine zc (by rfl) ?_;go_simp;refine HKK.out _ _ (SCB oA) ?_
         clear HKK K;refine yq 8 _ (Qj 15 10239) 3 (by kernel_rfl) (fun K hK=>?_)
         have HKK:=Qq hK;clear hK;simp only[QQ,QJ];refine zc (by rfl) ?_;go_simp;refine(HM1.out (W.alloc (.cells #[.int .i64 0,.int .i64 0,.int .i64 0] 128)).drew).mono ?_
         rintro r w7 ⟨rfl,rfl⟩;refine HKK.out _ _ (SCB oA) ?_
         clear HKK K;refine yq 11 _ (Qj 15 12287) 2 (by kernel_rfl) (fun K hK=>?_)
         have HKK:=Qq hK;clear hK;simp only[QQ,QJ];refine zc (by rfl) ?_;go_simp;refine(HM2.out (W.alloc (.cells #[.int .i64 0,.int .i64 0,.int .i64 0] 128)).drew).mono ?_
         rintro r w7 ⟨rfl,rfl⟩;refine HKK.out _ _ (SCB oA) ?_
         clear HKK K;refine zY 12 1 _ (Qj 15 16383) 1 (by kernel_rfl) za (SCB oA) (by kernel_rfl) ?_
         simp only[QX,QV,QQ,QJ];(repeat((first|refine Qx (h:=?_)|refine Qv (h:=?_));simp only[Act.put,QW,QY,QZ]));refine zb ?_;refine xl 14 _ (Qj 15 32767) (by kernel_rfl) (fun K hK=>?_)
         have HKK:=Qq hK;clear hK;simp only[QQ,QJ];refine zc (by rfl) ?_;go_simp;refine HKK.out _ _ (NoPanic.normal ?_)
         clear HKK K;go_wp2_with fail;go_meet;exact⟨by rw[hb7],rfl⟩
       ·skip
        have HKK:=Qq hK;clear hK;simp only[QQ,QJ];refine zc (by rfl) ?_;go_simp;refine HKK.out _ _ (SCB oA) ?_
        clear HKK K;refine yq 2 _ (Qj 15 9983) 4 (by kernel_rfl) (fun K hK=>?_)
        have HKK:=Qq hK;clear hK;simp only[QQ,QJ];refine zc (by rfl) ?_;go_simp;refine(HM0.out (W.alloc (.cells #[.int .i64 0,.int .i64 0,.int .i64 0] 128)).drew).mono ?_
        rintro r w7 ⟨rfl,rfl⟩;refine HKK.out _ _ (SCB oA) ?_
        clear HKK K;refine yq 8 _ (Qj 15 10239) 3 (by kernel_rfl) (fun K hK=>?_)
        have HKK:=Qq hK;clear hK;simp only[QQ,QJ];refine zc (by rfl) ?_;go_simp;refine(HM1.out (W.alloc (.cells #[.int .i64 0,.int .i64 0,.int .i64 0] 128)).drew).mono ?_
        rintro r w7 ⟨rfl,rfl⟩;refine HKK.out _ _ (SCB oA) ?_
        clear HKK K;refine yq 11 _ (Qj 15 12287) 2 (by kernel_rfl) (fun K hK=>?_)
        have HKK:=Qq hK;clear hK;simp only[QQ,QJ];refine zc (by rfl) ?_;go_simp;refine(HM2.out (W.alloc (.cells #[.int .i64 0,.int .i64 0,.int .i64 0] 128)).drew).mono ?_
        rintro r w7 ⟨rfl,rfl⟩;refine HKK.out _ _ (SCB oA) ?_
        clear HKK K;refine zY 12 1 _ (Qj 15 16383) 1 (by kernel_rfl) za (SCB oA) (by kernel_rfl) ?_
        simp only[QX,QV,QQ,QJ];(repeat((first|refine Qx (h:=?_)|refine Qv (h:=?_));simp only[Act.put,QW,QY,QZ]));refine zb ?_;refine xl 14 _ (Qj 15 32767) (by kernel_rfl) (fun K hK=>?_)
        have HKK:=Qq hK;clear hK;simp only[QQ,QJ];refine zc (by rfl) ?_;go_simp;refine HKK.out _ _ (NoPanic.normal ?_)
        clear HKK K;go_wp2_with fail;go_meet;exact⟨by rw[hb7],rfl⟩
      case rest =>
       obtain⟨rfl,rfl⟩:=hcut;have h7:Own w ((W.alloc (.cells #[.int .i64 y0,.int .i64 y1,.int .i64 y2] 128)).drew) [zf b7 [.int .i64 y0,.int .i64 y1,.int .i64 y2],zf cb [.int .i64 x0,.int .i64 x1,.int .i64 x2],zf ob [.slice none 0 0,.slice a1 i c1,.int .i64 lk,.slice a2 j c2],zd 3 a2 c2 j (ZU ks),zd 1 a1 c1 i (zr cs),zf (s0+1) [.slice none 0 0,.slice none 0 0,.int .i64 0,.slice none 0 0],zf s0 [.slice fa nf fc,.slice ca nc cc,.int .i64 lk0,.slice (some ⟨b,off,none⟩) nk kc]]:=(HO.out.alloc [.int .i64 y0,.int .i64 y1,.int .i64 y2] _ hb7).step (zg _)
       have H7:=Qq h7;clear h7 SCB HO hb7;generalize (W.alloc (.cells #[.int .i64 y0,.int .i64 y1,.int .i64 y2] 128)).drew=Wb at *
       obtain⟨q1,-⟩:=H7.out.zo 2 rfl 1 _ rfl;go_upto_if 72 with fail
       go_cut [7] (fun s wx=>s=.pointer (some ⟨b7,0,none⟩)∧∃z0 z1 z2,Ge i (z0,z1,z2)∧Own w wx [zf b7 [.int .i64 z0,.int .i64 z1,.int .i64 z2],zf cb [.int .i64 x0,.int .i64 x1,.int .i64 x2],zf ob [.slice none 0 0,.slice a1 i c1,.int .i64 lk,.slice a2 j c2],zd 3 a2 c2 j (ZU ks),zd 1 a1 c1 i (zr cs),zf (s0+1) [.slice none 0 0,.slice none 0 0,.int .i64 0,.slice none 0 0],zf s0 [.slice fa nf fc,.slice ca nc cc,.int .i64 lk0,.slice (some ⟨b,off,none⟩) nk kc]])
       case first =>
        by_cases hi0:i=0
        ·have hi0':(i:Int)=0:=by omega
         obtain⟨f0,g0⟩:=H7.out.zo 0 rfl 0 _ rfl;obtain⟨f1,g1⟩:=H7.out.zo 0 rfl 1 _ rfl;obtain⟨f2,g2⟩:=H7.out.zo 0 rfl 2 _ rfl;have h8:=Qq (((H7.out.set 0 (.int .i64 2)).set 1 (.int .i64 0)).set 2 (.int .i64 0))
         go_wp2_with fail;go_meet;exact⟨rfl,2,0,0,⟨by unfold Lj;simp,by simp⟩,h8.out⟩
        ·have hi0':¬(i:Int)=0:=by omega
         go_wp2_with fail;go_meet;refine⟨rfl,y0,y1,y2,⟨?_,?_⟩,H7.out⟩
         rotate_left
         ·obtain⟨k0,k1,k2⟩:=HY.out
          have k1:=k1 (by omega)
          simp only
          omega
         obtain⟨k0,k1,k2⟩:=HY.out;have k1:=k1 (by omega)
         unfold Lj;split
         ·simp only[Lo,Bool.and_eq_true,decide_eq_true_eq];omega
         ·simp only at *;simp;omega
       case rest =>
        obtain⟨rfl,v0,v1,v2,hz,h7⟩:=hcut;clear H7 q1;obtain⟨f0,-⟩:=h7.zo 0 rfl 0 _ rfl;obtain⟨f1,-⟩:=h7.zo 0 rfl 1 _ rfl;obtain⟨f2,-⟩:=h7.zo 0 rfl 2 _ rfl;obtain⟨f3,-⟩:=h7.zo 2 rfl 3 _ rfl;have O7:=Qq (h7.step (below_alloc1 wc (.cells #[.int .i64 v0,.int .i64 v1,.int .i64 v2] 128)))
        have HZ:=Qq hz;clear h7 hz;go_wp2_with (at_builtin;refine yr (n:=j) (m:=1) (cs:=ZU ks) (ds:=ZU [(v0,v1,v2)]) rfl _ _ 24 rfl 128 r0 _ Tryz.underlying24 Ri.out Rz0.out Rz1.out Rz2.out rfl (by omega) (by omega) rfl rfl (O7.out.yZ 3 rfl) (zt.new wc (ZU [(v0,v1,v2)]) _ (by first|rfl|simp)) rfl (Hk _) (by omega) ?_)
        intro a9 c9 w9 k9 ch9 f9;have o9:Own w w9 [zd 3 a9 c9 (j+1) (ZU ks++ZU [(v0,v1,v2)]),zf b7 [.int .i64 v0,.int .i64 v1,.int .i64 v2],zf cb [.int .i64 x0,.int .i64 x1,.int .i64 x2],zf ob [.slice none 0 0,.slice a1 i c1,.int .i64 lk,.slice a2 j c2],zd 1 a1 c1 i (zr cs),zf (s0+1) [.slice none 0 0,.slice none 0 0,.int .i64 0,.slice none 0 0],zf s0 [.slice fa nf fc,.slice ca nc cc,.int .i64 lk0,.slice (some ⟨b,off,none⟩) nk kc]]:=Own.xj (O7.out.pick 3 rfl) k9 ch9 (fun x hx=>by have:=f9 x hx;simpa using this)
        obtain⟨d0,e0⟩:=o9.zo 3 rfl 3 _ rfl;have h10:=((o9.setAt 3 rfl 3 (.slice a9 (j+1) c9)).pick 3 rfl)
        have HR:Hid (CL w (w9.setCell ⟨ob,3,none⟩ (.slice a9 (j+1) c9)) s0 (s0+1) ob [.slice fa nf fc,.slice ca nc cc,.int .i64 lk0,.slice (some ⟨b,off,none⟩) nk kc] [.slice none 0 0,.slice none 0 0,.int .i64 0,.slice none 0 0] lk a1 c1 cs i (j+1)):=Qq ⟨a9,c9,ks++[(v0,v1,v2)],by simp[HH2.out.1],fun k hk=>by
         rcases List.mem_append.1 hk with h|h
         ·exact HH2.out.2 k h
         ·obtain rfl:=by simpa using h
          exact HZ.out,by rw[Ou];exact((h10.pick 2 rfl).drop.pick 2 rfl).drop⟩
        clear o9 h10 k9 ch9 f9 O7 f0 f1 f2 f3;go_wp2;exact⟨⟨j+1,by omega,by omega,by go_num,HR⟩,by simp[intOf];omega⟩
     ·have hcase:(j<nk∧¬j<8)∨¬j<nk:=by omega
      obtain⟨a2,c2,ks,h1,h2,ho⟩:=hr.out;obtain⟨p3,-⟩:=ho.zo 4 rfl 3 _ rfl;have HO:=Qq ho;have HH2:=Qq (And.intro h1 h2)
      clear hr h1 h2 ho;go_upto_region 7 with fail
      go_cut [48] (fun s wx=>s=.bool false∧wx=wr)
      case first =>
       rcases hcase with⟨z1,z2⟩|z1
       case' inl=>have z1:(j:Int)<(nk:Int):=by omega
       case' inl=>have z2:¬(j:Int)<8:=by omega
       case' inr=>have z1:¬(j:Int)<(nk:Int):=by omega
       all_goals
        go_wp2_with fail;go_meet;exact⟨rfl,rfl⟩
      case rest =>
       obtain⟨rfl,hwc⟩:=hcut;have hwc:=hwc.symm;subst hwc;clear hcase p3 hlt;obtain⟨p0,-⟩:=HO.out.zo 4 rfl 0 _ rfl;obtain⟨m,hm5⟩:∃m:Nat,m=min nf 5:=⟨_,rfl⟩
       have hm1:m≤5∧m≤nf:=by omega
       go_upto_region 14 with fail
       go_cut [8] (fun s wx=>s=.slice fa m fc∧wx=wr)
       case first =>
        by_cases h5:nf≤5
        ·have h5':(nf:Int)≤5:=by omega
         obtain rfl:m=nf:=by omega
         have hsl:∀w',(Instr.slice 22 (.slice fa m fc) none (some (.int .i64 (m:Int))) none).run Tryz.prog w'=.ok (.slice fa m fc) w':=fun w'=>xS w' Tryz.underlying22 Oo fa m fc m (by omega)
         clear hm5;go_wp2_with fail;go_meet;exact⟨rfl,rfl⟩
        ·have h5':¬(nf:Int)≤5:=by omega
         obtain rfl:m=5:=by omega
         have hsl:∀w',(Instr.slice 22 (.slice fa nf fc) none (some (.int .i64 5)) none).run Tryz.prog w'=.ok (.slice fa 5 fc) w':=fun w'=>xS w' Tryz.underlying22 Oo fa nf fc 5 (by omega)
         clear hm5;go_wp2_with fail;go_meet;exact⟨rfl,rfl⟩
       case rest =>
       obtain⟨rfl,hwc⟩:=hcut;have hwc:=hwc.symm;subst hwc;clear hm5 p0;go_upto_if 89 with fail
       go_cut [8] (fun s wx=>∃ga gc,∃gl:List (List zS),∃X:List zy,s=.slice ga gl.length gc∧1≤gl.length∧gl.length≤5∧Hid (Df w X ga gl∧(∀f∈gl,∀x∈f,yh x.2.2.1)∧Own w wx (zf ob [.slice none 0 0,.slice a1 i c1,.int .i64 lk,.slice a2 j c2]::zd 3 a2 c2 j (ZU ks)::zd 1 a1 c1 i (zr cs)::zf (s0+1) [.slice none 0 0,.slice none 0 0,.int .i64 0,.slice none 0 0]::zf s0 [.slice fa nf fc,.slice ca nc cc,.int .i64 lk0,.slice ka nk kc]::X)))
       case first =>
        by_cases hm0:m=0
        ·have hm0':(m:Int)=0:=by omega
         have ho1:=HO.out.alloc [.int .i64 0,.int .i64 0,.int .i64 0,.int .i64 0] 80 (b:=wr.heap.size) rfl
         have ho2:=ho1.alloc [.slice (some ⟨wr.heap.size,0,none⟩) 1 1] 78 (b:=wr.heap.size+1) (by simp)
         have ho3:=ho2.perm (List.perm_append_comm (l₁:=[zf (wr.heap.size+1) [.slice (some ⟨wr.heap.size,0,none⟩) 1 1],zf wr.heap.size [.int .i64 0,.int .i64 0,.int .i64 0,.int .i64 0]]))
         have hown:=Qq ho3;obtain⟨S,hS⟩:∃S,S=wr.heap.size:=⟨_,rfl⟩
         have hfin:Hid (Df w [zf (S+1) [.slice (some ⟨S,0,none⟩) 1 1],zf S [.int .i64 0,.int .i64 0,.int .i64 0,.int .i64 0]] (some ⟨S+1,0,none⟩) [[(0,0,0,0)]]):=Qq fun q hq=>by
          obtain rfl:q=0:=by simpa using hq
          refine⟨_,0,some ⟨S,0,none⟩,1,rfl,by simp,by unfold maxLen;omega,fun wy L h=>?_⟩
          have hb1:=h.Ze.zo 0 rfl;have hb2:=h.Ze.zo 1 rfl;refine⟨(hb1 0 _ rfl).1,fun u hu=>?_⟩
          obtain rfl:u=0:=by simpa using hu
          exact⟨_,0,rfl,(hb2 0 _ rfl).1,(hb2 1 _ rfl).1,(hb2 2 _ rfl).1,(hb2 3 _ rfl).1⟩
         rw[hS] at hfin;clear ho1 ho2 ho3 hS;go_wp2_with fail;go_meet;exact⟨_,1,[[(0,0,0,0)]],_,rfl,by simp,by simp,Qq ⟨hfin.out,fun f hf x hx=>by
          obtain rfl:=by simpa using hf
          obtain rfl:=by simpa using hx
          unfold yh;simp,hown.out⟩⟩
        ·have hm0':¬(m:Int)=0:=by omega
         have hlm:(fs.take m).length=m:=by rw[List.length_take,HNF.out];omega
         have hfin:=Qq (show Df w [] fa (fs.take m) from fun q hq=>by
          have hq2:q<m:=by omega
          obtain⟨b,off,a',c',e1,e2,e3,e4,e5⟩:=HF.out q (by rw[HNF.out];omega)
          have e6:(fs.take m)[q]=fs[q]'(by rw[HNF.out];omega):=by simp
          rw[e6];exact⟨b,off,a',c',e1,e3,e4,fun wy L h=>⟨zj e2 h.bel,e5.below h.bel⟩⟩)
         go_wp2_with fail;go_meet;exact⟨fa,fc,fs.take m,[],by rw[hlm],by omega,by omega,Qq ⟨hfin.out,fun f hf=>HFIT.out f (List.mem_of_mem_take hf),HO.out⟩⟩
       case rest =>
        obtain⟨ga,gc,gl,X,rfl,hg1,hg2,hg⟩:=hcut;clear HO hm1 HF HNF HFIT;obtain⟨gn,hgn⟩:∃n,gl.length=n:=⟨_,rfl⟩
        rw[hgn] at hg1 hg2 ⊢;have HGN:=Qq hgn;obtain⟨hgf,hgi,hgo⟩:=hg.out;have HGF:=Qq hgf;have HGI:=Qq hgi;obtain⟨wm,sa,sc,hmk,hrow,hge,hbw⟩:=GH wc gn (by omega)
        obtain⟨sb,so,rfl,-⟩:=hrow.cells 0 _ (TL (r:=⟨none,0,[]⟩) (by rw[List.getElem?_replicate,if_pos (by omega)]))
        have hgo2:=(hgo.add hbw (A:=zd 1 (some ⟨sb,so,none⟩) sc gn (Xy (List.replicate gn ⟨none,0,[]⟩))) (F:=yf (some ⟨sb,so,none⟩)) ⟨rfl,hrow⟩ hge).pick 1 rfl
        obtain⟨y0,g0⟩:=hgo2.zo 0 rfl 0 _ rfl;have hgo3:=(hgo2.set 0 (.slice (some ⟨sb,so,none⟩) gn sc)).pick 1 rfl
        have HGO:Hid (CF w (wm.setCell ⟨ob,0,none⟩ (.slice (some ⟨sb,so,none⟩) gn sc)) ob gn i j lk (some ⟨sb,so,none⟩) sc 0 (zf ob [.slice (some ⟨sb,so,none⟩) gn sc,.slice a1 i c1,.int .i64 lk,.slice a2 j c2]::zd 3 a2 c2 j (ZU ks)::zd 1 a1 c1 i (zr cs)::zf (s0+1) [.slice none 0 0,.slice none 0 0,.int .i64 0,.slice none 0 0]::zf s0 [.slice fa nf fc,.slice ca nc cc,.int .i64 lk0,.slice ka nk kc]::X)):=Qq ⟨List.replicate gn ⟨none,0,[]⟩,by simp,fun k r hk=>by omega,hgo3.FD gn⟩
        clear hgn hg hgf hgi hgo hgo2 hgo3 hrow hge hbw;go_wp2_with fail;go_loopw [99] (fun s wr=>∃e:Nat,e≤gn∧s=.int .i64 e∧Hid (CF w wr ob gn i j lk (some ⟨sb,so,none⟩) sc e (zf ob [.slice (some ⟨sb,so,none⟩) gn sc,.slice a1 i c1,.int .i64 lk,.slice a2 j c2]::zd 3 a2 c2 j (ZU ks)::zd 1 a1 c1 i (zr cs)::zf (s0+1) [.slice none 0 0,.slice none 0 0,.int .i64 0,.slice none 0 0]::zf s0 [.slice fa nf fc,.slice ca nc cc,.int .i64 lk0,.slice ka nk kc]::X))) (fun s _=>gn-(intOf s).toNat)
        case atStart=>exact⟨0,by omega,rfl,HGO⟩
        case round =>
         obtain⟨e,he1,rfl,hr⟩:=hrel;clear HGO;obtain⟨rs,hrs1,hrs2,hro⟩:=hr.out;by_cases hlt:e<gn
         ·have hlt':(e:Int)<(gn:Int):=by omega
          obtain⟨b,off,ha,hc,hga,e1,e2,hx⟩:=HGF.out e (by rw[HGN.out];exact hlt)
          subst hga;obtain⟨f,hf⟩:∃f,f=gl[e]'(by rw[HGN.out];exact hlt):=⟨_,rfl⟩
          rw[←hf] at e1;simp only[←hf] at hx
          obtain⟨e0,-⟩:=hx wr _ (show Own w wr ([_,_,_,_,_,_]++X) from hro.Ze)
          have HX:=Qq hx;have HFB:=Qq (show ∀x∈f,yh x.2.2.1 from HGI.out f (by rw[hf];exact List.getElem_mem _))
          have HRO:=Qq hro;have HR12:=Qq (And.intro hrs1 hrs2)
          obtain⟨fl,hfl⟩:∃n,f.length=n:=⟨_,rfl⟩
          rw[hfl] at e0 e1;have HFL:=Qq hfl;obtain⟨m2,hm2⟩:∃m2:Nat,m2=min fl 20:=⟨_,rfl⟩
          unfold maxLen at e2;clear hr hro hrs1 hrs2 hx hfl hf;go_upto_region 21 with fail
          go_cut [10] (fun s wx=>s=.slice ha m2 hc∧wx=wr)
          case first =>
           by_cases h5:fl≤20
           ·have h5':(fl:Int)≤20:=by omega
            obtain rfl:m2=fl:=by omega
            have hsl:∀w',(Instr.slice 78 (.slice ha m2 hc) none (some (.int .i64 (m2:Int))) none).run Tryz.prog w'=.ok (.slice ha m2 hc) w':=fun w'=>xS w' Tryz.underlying78 Od ha m2 hc m2 (by omega)
            clear hm2;go_wp2_with fail;go_meet;exact⟨rfl,rfl⟩
           ·have h5':¬(fl:Int)≤20:=by omega
            obtain rfl:m2=20:=by omega
            have hsl:∀w',(Instr.slice 78 (.slice ha fl hc) none (some (.int .i64 20)) none).run Tryz.prog w'=.ok (.slice ha 20 hc) w':=fun w'=>xS w' Tryz.underlying78 Od ha fl hc 20 (by omega)
            clear hm2;go_wp2_with fail;go_meet;exact⟨rfl,rfl⟩
          case rest =>
           obtain⟨rfl,hwc⟩:=hcut;have hwc:=hwc.symm;subst hwc;have hm3:m2≤20∧m2≤fl:=by omega
           clear e0 hm2;go_upto_if 111 with fail
           go_cut [10] (fun s wx=>∃hx hy,∃hl:List zS,∃Y:List zy,s=.slice hx hl.length hy∧1≤hl.length∧hl.length≤20∧Hid ((∀wy R rs',Own w wy (R::(Y++(fns rs'++zd 1 (some ⟨sb,so,none⟩) sc gn (Xy rs')::zf ob [.slice (some ⟨sb,so,none⟩) gn sc,.slice a1 i c1,.int .i64 lk,.slice a2 j c2]::zd 3 a2 c2 j (ZU ks)::zd 1 a1 c1 i (zr cs)::zf (s0+1) [.slice none 0 0,.slice none 0 0,.int .i64 0,.slice none 0 0]::zf s0 [.slice fa nf fc,.slice ca nc cc,.int .i64 lk0,.slice ka nk kc]::X)))→xB wy hx hl)∧(∀x∈hl,yh x.2.2.1)∧Own w wx (Y++(fns rs++zd 1 (some ⟨sb,so,none⟩) sc gn (Xy rs)::zf ob [.slice (some ⟨sb,so,none⟩) gn sc,.slice a1 i c1,.int .i64 lk,.slice a2 j c2]::zd 3 a2 c2 j (ZU ks)::zd 1 a1 c1 i (zr cs)::zf (s0+1) [.slice none 0 0,.slice none 0 0,.int .i64 0,.slice none 0 0]::zf s0 [.slice fa nf fc,.slice ca nc cc,.int .i64 lk0,.slice ka nk kc]::X))))
           case first =>
            by_cases hm0:m2=0
            ·have hm0':(m2:Int)=0:=by omega
             have hown:=Qq (HRO.out.alloc [.int .i64 0,.int .i64 0,.int .i64 0,.int .i64 0] 80 (b:=wr.heap.size) rfl)
             have hfin:Hid (∀wy R rs',Own w wy (R::([zf wr.heap.size [.int .i64 0,.int .i64 0,.int .i64 0,.int .i64 0]]++(fns rs'++zd 1 (some ⟨sb,so,none⟩) sc gn (Xy rs')::zf ob [.slice (some ⟨sb,so,none⟩) gn sc,.slice a1 i c1,.int .i64 lk,.slice a2 j c2]::zd 3 a2 c2 j (ZU ks)::zd 1 a1 c1 i (zr cs)::zf (s0+1) [.slice none 0 0,.slice none 0 0,.int .i64 0,.slice none 0 0]::zf s0 [.slice fa nf fc,.slice ca nc cc,.int .i64 lk0,.slice ka nk kc]::X)))→xB wy (some ⟨wr.heap.size,0,none⟩) [(0,0,0,0)]):=Qq fun wy R rs' h u hu=>by
              have hb2:=h.zo 1 rfl;obtain rfl:u=0:=by simpa using hu
              exact⟨_,0,rfl,(hb2 0 _ rfl).1,(hb2 1 _ rfl).1,(hb2 2 _ rfl).1,(hb2 3 _ rfl).1⟩
             go_wp2_with fail;go_meet;exact⟨_,1,[(0,0,0,0)],_,rfl,by simp,by simp,Qq ⟨hfin.out,fun x hx=>by
              obtain rfl:=by simpa using hx
              unfold yh;simp,hown.out⟩⟩
            ·have hm0':¬(m2:Int)=0:=by omega
             have hlm:(f.take m2).length=m2:=by rw[List.length_take,HFL.out];omega
             have hfin:Hid (∀wy R rs',Own w wy (R::([]++(fns rs'++zd 1 (some ⟨sb,so,none⟩) sc gn (Xy rs')::zf ob [.slice (some ⟨sb,so,none⟩) gn sc,.slice a1 i c1,.int .i64 lk,.slice a2 j c2]::zd 3 a2 c2 j (ZU ks)::zd 1 a1 c1 i (zr cs)::zf (s0+1) [.slice none 0 0,.slice none 0 0,.int .i64 0,.slice none 0 0]::zf s0 [.slice fa nf fc,.slice ca nc cc,.int .i64 lk0,.slice ka nk kc]::X)))→xB wy ha (f.take m2)):=Qq fun wy R rs' h =>
              (HX.out wy _ (show Own w wy ([_,_,_,_,_,_]++X) from Own.Ze (As:=fns rs') h.drop)).2.take m2
             go_wp2_with fail;go_meet;exact⟨ha,hc,f.take m2,[],by rw[hlm],by omega,by omega,Qq ⟨hfin.out,fun x hx=>HFB.out x (List.mem_of_mem_take hx),HRO.out⟩⟩
           case rest =>
            obtain⟨hx,hy,hl,Y,rfl,q1,q2,hq⟩:=hcut;clear HRO HFB HX HFL hm3 e1 e2;obtain⟨hn,hhn⟩:∃n,hl.length=n:=⟨_,rfl⟩
            rw[hhn] at q1 q2 ⊢;have HHN:=Qq hhn;obtain⟨hq1,hq2,hq3⟩:=hq.out;have HQ1:=Qq hq1;have HQ2:=Qq hq2;have hol:=hq3.add (below_alloc1 wc (.cells #[] 80)) (A:=zd 4 (some ⟨wc.heap.size,0,none⟩) 0 0 (inc [])) (F:=[wc.heap.size]) ⟨rfl,zU.zero (by simp)⟩ (fun x hx=>by simp at hx;omega)
            have HOL:=Qq (show([]:List zS).length=0∧Vl gn i j lk hn []∧Own w (wc.alloc (.cells #[] 80)) (zd 4 (some ⟨wc.heap.size,0,none⟩) 0 0 (inc [])::(Y++(fns rs++zd 1 (some ⟨sb,so,none⟩) sc gn (Xy rs)::zf ob [.slice (some ⟨sb,so,none⟩) gn sc,.slice a1 i c1,.int .i64 lk,.slice a2 j c2]::zd 3 a2 c2 j (ZU ks)::zd 1 a1 c1 i (zr cs)::zf (s0+1) [.slice none 0 0,.slice none 0 0,.int .i64 0,.slice none 0 0]::zf s0 [.slice fa nf fc,.slice ca nc cc,.int .i64 lk0,.slice ka nk kc]::X))) from⟨rfl,fun x hx=>by simp at hx,hol⟩)
            have HFT:=Qq (fun(o xa xb xc:Int) (hb:yh xb) (w':World)=>IZ (some ⟨sb,so,none⟩) gn sc a1 i c1 lk a2 j c2 hx hn hy o xa xb xc w' hb (by omega) (by omega) (by omega) (by omega) (by omega))
            unfold pv at HFT;clear hhn hq hq1 hq2 hq3 hol;go_wp2_with fail;go_loopw [11,117] (fun s11 s117 wx=>∃k a6 c6,∃l':List zS,k≤hn∧s117=.int .i64 ((k:Nat):Int)∧s11=.slice a6 k c6∧Hid (l'.length=k∧Vl gn i j lk hn l'∧Own w wx (zd 4 a6 c6 k (inc l')::(Y++(fns rs++zd 1 (some ⟨sb,so,none⟩) sc gn (Xy rs)::zf ob [.slice (some ⟨sb,so,none⟩) gn sc,.slice a1 i c1,.int .i64 lk,.slice a2 j c2]::zd 3 a2 c2 j (ZU ks)::zd 1 a1 c1 i (zr cs)::zf (s0+1) [.slice none 0 0,.slice none 0 0,.int .i64 0,.slice none 0 0]::zf s0 [.slice fa nf fc,.slice ca nc cc,.int .i64 lk0,.slice ka nk kc]::X))))) (fun _ s117 _=>hn-(intOf s117).toNat)
            case atStart=>exact⟨0,_,0,[],by omega,rfl,rfl,HOL⟩
            case round =>
             obtain⟨k,a6,c6,l',hk1,rfl,rfl,hv⟩:=hrel;clear HOL;obtain⟨v1,v2,v3⟩:=hv.out;by_cases hkn:k<hn
             ·have hkn':(k:Int)<(hn:Int):=by omega
              have hkl:k<hl.length:=by rw[HHN.out];exact hkn
              obtain⟨b2,off2,rfl,e0,e1,e2,e3⟩:=HQ1.out _ _ rs v3 k hkl;obtain⟨x,hxe⟩:∃x,x=hl[k]:=⟨_,rfl⟩
              have hxb:=HQ2.out x (by rw[hxe];exact List.getElem_mem hkl)
              rw[←hxe] at e0 e1 e2 e3;obtain⟨o,xa,xb,xc⟩:=x;simp only at e0 e1 e2 e3 hxb
              have HFC:=Qq (HFT.out o xa xb xc hxb)
              have HV:=Qq (And.intro v1 v2)
              obtain⟨tb,htb⟩:∃tb,tb=wr.heap.size:=⟨_,rfl⟩
              have O3:=Qq (v3.alloc [.int .i64 o,.int .i64 xa,.int .i64 xb,.int .i64 xc] 80 htb)
              clear hv v1 v2 v3 hxe hxb hkl;go_upto_region 28 with fail
              rw[←htb];generalize wr.alloc (.cells #[.int .i64 o,.int .i64 xa,.int .i64 xb,.int .i64 xc] 80)=W4 at *
              clear htb e0 e1 e2 e3;have hob:=(Own.Ze (As:=fns rs) (Own.Ze (As:=zf tb [.int .i64 o,.int .i64 xa,.int .i64 xb,.int .i64 xc]::zd 4 a6 c6 k (inc l')::Y) O3.out)).zo 1 rfl
              obtain⟨f0,-⟩:=hob 0 _ rfl;obtain⟨f1,-⟩:=hob 1 _ rfl;obtain⟨f2,-⟩:=hob 2 _ rfl;obtain⟨f3,-⟩:=hob 3 _ rfl;have htc:=O3.out.zo 0 rfl;obtain⟨e0,-⟩:=htc 0 _ rfl;obtain⟨e1,-⟩:=htc 1 _ rfl;obtain⟨e2,-⟩:=htc 2 _ rfl;obtain⟨e3,-⟩:=htc 3 _ rfl;clear hob htc;go_wp2_with fail;refine(HFC.out _).mono ?_
              rintro r w5 ⟨y,rfl,hy1,hy2,b5⟩;obtain⟨yo,ya,yb,yc⟩:=y;simp only at hy2 ⊢
              have O5:=Qq ((O3.out.step b5).step (below_alloc1 w5 (.cells #[.int .i64 yo,.int .i64 ya,.int .i64 yb,.int .i64 yc] 80)))
              have HY12:=Qq (And.intro hy1 hy2)
              clear b5 hy1 hy2 HFC O3;go_wp2_with (at_builtin;refine yr (n:=k) (m:=1) (cs:=inc l') (ds:=inc [(yo,ya,yb,yc)]) rfl _ _ 78 rfl 80 q0 _ Tryz.underlying78 Qi.out Qz0.out Qz1.out Qz2.out rfl (by omega) (by omega) rfl rfl (O5.out.yZ 1 rfl) (zt.new w5 (inc [(yo,ya,yb,yc)]) _ (by first|rfl|simp)) rfl (GY _) (by omega) ?_)
              intro a9 c9 w9 k9 ch9 f9;have o9:=((Own.xj (O5.out.pick 1 rfl) k9 ch9 (fun x hx=>by have:=f9 x hx;simpa using this)).pick 1 rfl).drop
              rw[←ON] at o9;clear f0 f1 f2 f3 e0 e1 e2 e3;have HR:=Qq (show(l'++[(yo,ya,yb,yc)]).length=k+1∧Vl gn i j lk hn (l'++[(yo,ya,yb,yc)])∧Own w w9 (zd 4 a9 c9 (k+1) (inc (l'++[(yo,ya,yb,yc)]))::(Y++(fns rs++zd 1 (some ⟨sb,so,none⟩) sc gn (Xy rs)::zf ob [.slice (some ⟨sb,so,none⟩) gn sc,.slice a1 i c1,.int .i64 lk,.slice a2 j c2]::zd 3 a2 c2 j (ZU ks)::zd 1 a1 c1 i (zr cs)::zf (s0+1) [.slice none 0 0,.slice none 0 0,.int .i64 0,.slice none 0 0]::zf s0 [.slice fa nf fc,.slice ca nc cc,.int .i64 lk0,.slice ka nk kc]::X))) from⟨by simp[HV.out.1],fun x hx=>by
               rcases List.mem_append.1 hx with h|h
               ·exact HV.out.2 x h
               ·obtain rfl:=by simpa using h
                exact HY12.out,o9⟩)
              clear o9 k9 ch9 f9 O5;go_wp2;exact⟨⟨k+1,a9,c9,_,by omega,by go_num,by simp,HR⟩,by simp[intOf];omega⟩
             ·obtain rfl:k=hn:=by omega
              have h6:=v3.J6;have h7:=Own.Ze (As:=zd 4 a6 c6 k (inc l')::fns rs) h6
              obtain⟨f0,-⟩:=h7.zo 1 rfl 0 _ rfl;have hrg:=h7.yZ 0 rfl;obtain⟨z,s1,t1⟩:=hrg.spot e (by have:=hrg.2.1;omega)
              have h8:Own w wr (Oc ⟨a6,c6,l'⟩::(fns rs++zd 1 (some ⟨sb,so,none⟩) sc gn (Xy rs)::zf ob [.slice (some ⟨sb,so,none⟩) gn sc,.slice a1 i c1,.int .i64 lk,.slice a2 j c2]::zd 3 a2 c2 j (ZU ks)::zd 1 a1 c1 i (zr cs)::zf (s0+1) [.slice none 0 0,.slice none 0 0,.int .i64 0,.slice none 0 0]::zf s0 [.slice fa nf fc,.slice ca nc cc,.int .i64 lk0,.slice ka nk kc]::X)):=by unfold Oc;rw[v1];exact h6
              have h9:=h8.Hv (i:=e) (by rw[HR12.out.1];exact hlt)
              rw[show JV ⟨a6,c6,l'⟩=.slice a6 k c6 by unfold JV;rw[v1]] at h9
              have HR:Hid (CF w (wr.setCell ⟨sb,so+e,none⟩ (.slice a6 k c6)) ob gn i j lk (some ⟨sb,so,none⟩) sc (e+1) (zf ob [.slice (some ⟨sb,so,none⟩) gn sc,.slice a1 i c1,.int .i64 lk,.slice a2 j c2]::zd 3 a2 c2 j (ZU ks)::zd 1 a1 c1 i (zr cs)::zf (s0+1) [.slice none 0 0,.slice none 0 0,.int .i64 0,.slice none 0 0]::zf s0 [.slice fa nf fc,.slice ca nc cc,.int .i64 lk0,.slice ka nk kc]::X)):=Qq ⟨rs.set e ⟨a6,c6,l'⟩,by rw[List.length_set];exact HR12.out.1,fun q r hq hr=>by
               by_cases hqe:q=e
               ·subst hqe
                rw[List.getElem?_set_self (by rw[HR12.out.1];exact hlt)] at hr
                obtain rfl:=by simpa using hr
                exact⟨by simp only;omega,by simp only;omega,by simp only;rw[v1];exact v2⟩
               ·rw[List.getElem?_set_ne (by omega)] at hr
                exact HR12.out.2 q r (by omega) hr,h9⟩
              clear h6 h7 h8 h9 hrg hv v1 v2 v3;go_wp2;exact⟨⟨e+1,by omega,by go_num,HR⟩,by simp[intOf];omega⟩
         ·obtain rfl:e=gn:=by omega
          have hrot:=hro.perm List.perm_append_comm;have hob:=hrot.zo 1 rfl;obtain⟨f0,-⟩:=hob 0 _ rfl;obtain⟨f1,-⟩:=hob 1 _ rfl;obtain⟨f2,-⟩:=hob 2 _ rfl;obtain⟨f3,-⟩:=hob 3 _ rfl;have hsc:=hrot.zo 4 rfl;obtain⟨x0,g0⟩:=hsc 0 _ rfl;obtain⟨x1,g1⟩:=hsc 1 _ rfl;obtain⟨x2,g2⟩:=hsc 2 _ rfl;obtain⟨x3,g3⟩:=hsc 3 _ rfl;have hq3:=(((hrot.setAt 4 rfl 0 (.slice (some ⟨sb,so,none⟩) e sc)).setAt 4 rfl 1 (.slice a1 i c1)).setAt 4 rfl 2 (.int .i64 lk)).setAt 4 rfl 3 (.slice a2 j c2)
          have HQ:=Qq hq3;have HRR:=Qq (And.intro hrs1 hrs2)
          clear hq3 hr hro hrot hob hsc hrs1 hrs2;go_wp2_with fail;have ee:=Mp (HQ.out.zo 4 rfl)
          have q1:=((((HQ.out.pick 1 rfl).drop).pick 3 rfl).drop.pick 3 rfl).drop
          have q2:=(show Own w _ ([zd 1 (some ⟨sb,so,none⟩) sc e (Xy rs),zd 3 a2 c2 j (ZU ks),zd 1 a1 c1 i (zr cs)]++(X++fns rs)) from q1).perm (List.perm_append_comm_assoc _ _ _)
          have q3:=q2.Ze.perm ((List.Perm.swap (zd 1 a1 c1 i (zr cs)) (zd 3 a2 c2 j (ZU ks)) (fns rs)).cons (zd 1 (some ⟨sb,so,none⟩) sc e (Xy rs)))
          refine bodyPost_ret (zu Tryz.results22 _ ⟨s0+1,0,none⟩ rfl ee) rfl ⟨some ⟨sb,so,none⟩,sc,rs,a1,c1,cs,a2,c2,ks,lk,?_,?_,?_,?_,?_,?_⟩
          ·rw[HRR.out.1,HH.out.1,HH2.out.1]
          ·rw[HRR.out.1];exact⟨hg1,hg2⟩
          ·refine⟨by rw[HH.out.1];exact hi2,by rw[HH2.out.1];exact hj2,hlkr.1,hlkr.2,HH.out.2,fun k hk=>?_⟩
           rw[HH.out.1];exact(HH2.out.2 k hk).1
          ·intro k hk
           rw[HH.out.1];exact HH2.out.2 k hk
          ·intro r hr
           obtain⟨k,hk,hkr⟩:=List.mem_iff_getElem.1 hr;rw[HRR.out.1,HH.out.1,HH2.out.1];exact HRR.out.2 k r (by have:=HRR.out.1;omega) (by rw[List.getElem?_eq_getElem hk,hkr])
          ·rw[HRR.out.1,HH.out.1,HH2.out.1];exact q3
section
variable {w0 w:World} {b sp:Nat} {L:Sl} {X:Sd} {R:List zy}
end
theorem Ph {w:World}{a:Option Addr}{l:List Int}(h:yR w a l):zt w a (zr l):=fun j v hj=>by
 simp[zr] at hj
 obtain⟨x,hx,rfl⟩:=hj;obtain⟨hl,rfl⟩:=List.getElem?_eq_some_iff.1 hx
 exact h j hl
end Go.Proofs.YtlkjheheofgdgaaGreat
open Go Go.RowKit
namespace Go.Proofs.YtlkjheheofgdgaaGreat
theorem Nv {w:World}{a:Option Addr}{l:List zS}(h:xB w a l):zt w a (Po l):=fun j v hj=>by
 have hlen:(Po l).length=l.length*4:=ZP DE 4 (fun _=>rfl) l
 have hjl:j<(Po l).length:=(List.getElem?_eq_some_iff.1 hj).1
 have hi:j / 4<l.length:=by omega
 have hat:=Zx DE 4 (fun _=>rfl) l (j / 4) (j%4) hi (by omega)
 rw[show j / 4*4+j%4=j by omega] at hat
 unfold Po at hj;rw[hat] at hj;obtain⟨b,off,rfl,h0,h1,h2,h3⟩:=h (j / 4) hi
 refine⟨b,off,rfl,?_⟩
 generalize l[j / 4]=x at *
 have hk:j%4=0∨j%4=1∨j%4=2∨j%4=3:=by omega
 rcases hk with e|e|e|e
 ·rw[e] at hj;rw[show off+j=off+j / 4*4 by omega,h0];exact hj
 ·rw[e] at hj;rw[show off+j=off+j / 4*4+1 by omega,h1];exact hj
 ·rw[e] at hj;rw[show off+j=off+j / 4*4+2 by omega,h2];exact hj
 ·rw[e] at hj;rw[show off+j=off+j / 4*4+3 by omega,h3];exact hj
theorem NZ {w:World}{a:Option Addr}{l:List Sx}(h:Z4 w a l):zt w a (WN l):=fun j v hj=>by
 have hlen:(WN l).length=l.length*3:=ZP CC 3 (fun _=>rfl) l
 have hjl:j<(WN l).length:=(List.getElem?_eq_some_iff.1 hj).1
 have hi:j / 3<l.length:=by omega
 have hat:=Zx CC 3 (fun _=>rfl) l (j / 3) (j%3) hi (by omega)
 rw[show j / 3*3+j%3=j by omega] at hat
 unfold WN at hj;rw[hat] at hj;obtain⟨b,off,rfl,h0,h1,h2⟩:=h (j / 3) hi
 refine⟨b,off,rfl,?_⟩
 generalize l[j / 3]=x at *
 have hk:j%3=0∨j%3=1∨j%3=2:=by omega
 rcases hk with e|e|e
 ·rw[e] at hj;rw[show off+j=off+j / 3*3 by omega,h0];exact hj
 ·rw[e] at hj;rw[show off+j=off+j / 3*3+1 by omega,h1];exact hj
 ·rw[e] at hj;rw[show off+j=off+j / 3*3+2 by omega,h2];exact hj
theorem DA:∀(fr:List (Option Addr×Nat)) (fs:List (List zS)) (j:Nat) (v:Value),(Ot fr fs)[j]?=some v→∃r l,fr[j]?=some r∧fs[j]?=some l∧v=.slice r.1 l.length r.2:=fun fr fs j v h=>by
 unfold Ot at h;rw[List.getElem?_zipWith] at h
 cases e1:fr[j]? with
 | none=>rw[e1] at h;simp at h
 | some r =>
  cases e2:fs[j]? with
  | none=>rw[e1,e2] at h;simp at h
  | some l =>
   rw[e1,e2] at h;simp at h
   exact⟨r,l,rfl,rfl,h.symm⟩
theorem Nk {w:World}{fa ca ka:Option Addr}{kc:Nat}{d:PD}(h:FG w fa ca ka d)(hk0:ka=none→kc=0)(hne:∀l∈d.fs,1≤l.length∧l.length≤1000)(h1:d.fs.length≤1000)(h2:d.cs.length≤1000)(h3:d.ks.length≤1000):∃fr,YU w fa fr d.fs ca d.cs ka kc d.ks:=by
 obtain⟨hf,hc,hk⟩:=h;have hf':∀i:Fin d.fs.length,∃r:Option Addr×Nat,∃b off,fa=some ⟨b,off,none⟩∧w.cell? ⟨b,off+i.val,none⟩=some (.slice r.1 d.fs[i.val].length r.2)∧xB w r.1 d.fs[i.val]:=fun i=>by
  obtain⟨b,off,a',c',e,g1,g2⟩:=hf i.val i.isLt;exact⟨(a',c'),b,off,e,g1,g2⟩
 refine⟨List.ofFn fun i=>Classical.choose (hf' i),⟨fun j v hj=>?_,by simp,fun i r l hr hl=>?_,Ph hc,NZ hk,hk0,h3,h1,h2⟩⟩
 ·obtain⟨r,l,hr,hl,rfl⟩:=DA _ _ _ _ hj
  have hjl:j<d.fs.length:=(List.getElem?_eq_some_iff.1 hl).1
  rw[List.getElem?_ofFn,dif_pos hjl] at hr
  have hr:=Option.some.inj hr;obtain⟨b,off,e,g1,-⟩:=Classical.choose_spec (hf' ⟨j,hjl⟩)
  rw[hr] at g1;have hl':d.fs[j]=l:=(List.getElem?_eq_some_iff.1 hl).2
  rw[←hl']
  exact⟨b,off,e,g1⟩
 ·have hjl:i<d.fs.length:=(List.getElem?_eq_some_iff.1 hl).1
  rw[List.getElem?_ofFn,dif_pos hjl] at hr
  have hr:=Option.some.inj hr;obtain⟨b,off,e,-,g2⟩:=Classical.choose_spec (hf' ⟨i,hjl⟩)
  rw[hr] at g2;have hl':d.fs[i]=l:=(List.getElem?_eq_some_iff.1 hl).2
  have g2:xB w r.1 l:=by rw[←hl'];exact g2
  have hn:=hne l (by rw[←hl'];exact List.getElem_mem _)
  refine⟨Nv g2,fun e0=>?_,by omega⟩
  obtain⟨b',off',e',-⟩:=g2 0 (by omega)
  rw[e0] at e'
  cases e'
theorem I8 {nf nc nk:Nat}{lk:Int}{n:Nat}{x:zS}(h:US nf nc nk lk n x=0):0≤x.1∧x.1≤22:=by
 unfold US at h;split at h
 ·rename_i hw;simpa [Lo] using hw
 ·exact absurd h (by decide)
theorem DS {fs:List (List zS)}{cs:List Int}{lk:Nat}{ks:List Sx}(h1:1≤fs.length∧fs.length≤5)(hp:L1 cs (lk:Int) ks)(hj:∀k∈ks,Ge cs.length k)(hf:∀l∈fs,EL fs.length cs.length ks.length (lk:Int) l):PW fs ks cs.length lk:=by
 obtain⟨p1,p2,p3,p4,p5,p6⟩:=hp;refine⟨by omega,fun l hl=>?_,fun l hl x hx=>?_,by omega,fun k hk=>?_,by omega,by omega⟩
 ·have:=(hf l hl).2.1;omega
 ·obtain⟨q1,q2⟩:=(hf l hl).2.2 x hx
  have ho:=I8 q1;obtain⟨o,a,b,c⟩:=x;obtain⟨g,hg,hi⟩:=U9 fs.length cs.length ks.length (lk:Int) l.length o a b c q2 ho (by omega)
  refine⟨ho.1,?_⟩
  rw[hg];rw[hi] at q1;cases g
  ·exact absurd q1 (by decide)
  ·rfl
 ·obtain⟨q1,q2,q3,q4⟩:=hj k hk
  unfold Lj at q1;split at q1
  ·rename_i hw
   simp only[Lo,Bool.and_eq_true,decide_eq_true_eq] at q1;exact⟨by rcases hw with h|h<;>simp[h],q2,fun _=>by omega,q3,q4⟩
  ·have e:k.1=2:=by simpa using q1
   exact⟨.inr (.inr e),q2,fun hn=>absurd e hn,q3,q4⟩
def Pc (w:World)(fa:Option Addr)(nf fc:Nat)(ca:Option Addr)(nc cc:Nat)(lk:Int)(ka:Option Addr)(nk kc:Nat)(d:PD):Prop :=
 d.fs.length=nf∧d.cs.length=nc∧d.ks.length=nk∧d.lk=lk∧(nf≤fc∧fc≤maxLen)∧nc≤maxLen∧nk≤maxLen∧NA w fa d.fs∧yR w ca d.cs∧Z4 w ka d.ks∧Fits d
theorem Pc.below {w w':World}{fa:Option Addr}{nf fc:Nat}{ca:Option Addr}{nc cc:Nat}{lk:Int}{ka:Option Addr}{nk kc:Nat}{d:PD}(h:Pc w fa nf fc ca nc cc lk ka nk kc d)(hb:Below w.heap.size w w'):Pc w' fa nf fc ca nc cc lk ka nk kc d:=by
 obtain⟨h1,h2,h3,h4,h5,h6,h7,h8,h9,h10,h11⟩:=h;exact⟨h1,h2,h3,h4,h5,h6,h7,h8.below hb,h9.below hb,h10.below hb,h11⟩
def Be (P:List Value)(gs ch lo:Value):List Value:=P++[gs,.int .u64 0,ch,lo,.slice none 0 0,.int .u64 0,.slice none 0 0,.int .i64 0,.int .i64 0,.slice none 0 0]
def OG (fa ca ka:Option Addr)(nf fc nc cc nk kc lk:Nat):List Value:=[.slice fa nf fc,.slice ca nc cc,.int .i64 (lk:Int),.slice ka nk kc]
end Go.Proofs.YtlkjheheofgdgaaGreat


open Go Go.RowKit
namespace Go.Proofs.YtlkjheheofgdgaaGreat
theorem LO (a b V:Value):(#[a,b]++(Array.replicate 14 undef).setIfInBounds 4 V)=#[a,b,undef,undef,undef,undef,V,undef,undef,undef,undef,undef,undef,undef,undef,undef]:=rfl
theorem QO (p q:Addr)(w:World) :
  CallsD Tryz.prog 55 #[.pointer (some p),.pointer (some q)] .returning w fun e u' w'=>e=.returned (.tuple #[])∧u'=.returning∧w'=w:=by
 refine callsD_of_wpS Tryz.func55 rfl fun c₀ cs hu=>?_
 apply wpS_seq
 apply wpS_region
 simp[wpOpsS,go_sem,recoverD,hu,Tryz.ntmps55,Exit.thenS]
 rw[LO];refine wpS_of_wp ?_;go_wp2;cases c₀
 simp_all [bodyPostS,results,Tryz.results55]
theorem Ee (w:World):(Instr.typeAssert (.iface 153 (.agg #[])) 20 153 true).run Tryz.prog w=.ok (.tuple #[.agg #[],.bool true]) w:=by kernel_rfl
theorem DT (v:Value)(w:World):(Instr.typeAssert (.iface 95 v) 20 153 true).run Tryz.prog w=.ok (.tuple #[.agg #[],.bool false]) w:=by kernel_rfl
theorem MS (v:Value)(w:World):(Instr.typeAssert (.iface 95 v) 20 95 true).run Tryz.prog w=.ok (.tuple #[v,.bool true]) w:=by kernel_rfl
def uz:List Value:=[.int .i64 0,.int .i64 0,.int .i64 0,.int .i64 0,.int .u64 0]
def uv (a0 a1 a2 a3 a4:Int):List Value:=[.int .i64 a0,.int .i64 a1,.int .i64 a2,.int .i64 a3,.int .u64 a4]
theorem Mx {w0 w:World}{R:List zy}{p q:Nat}{x:Value}(h:Own w0 w (zf p [x]::zf q uz::R))(older:List PanicEntry) :
  CallsD Tryz.prog 55 #[.pointer (some ⟨p,0,none⟩),.pointer (some ⟨q,0,none⟩)] (.panicking ({ v:=.iface 153 (.agg #[]),recovered:=false }::older)) w fun e u' w' =>
   e=.returned (.tuple #[])∧u'=.panicking ({ v:=.iface 153 (.agg #[]),recovered:=true }::older)∧Own w0 w' (zf p [.int .i64 1]::zf q uz::R):=by
 have h1:=Ee;obtain⟨g0,f0⟩:=h.zo 0 rfl 0 _ rfl;have hpl:=World.block_lt_of_cell? w _ g0
 have H:=Qq ((h.set 0 (.int .i64 1)).step (below_alloc1 _ (.cells #[] 153)))
 clear h;refine callsD_of_wpS Tryz.func55 rfl fun c₀ cs hu=>?_
 apply wpS_seq
 apply wpS_region
 simp[wpOpsS,go_sem,recoverD,hu,Tryz.ntmps55,Exit.thenS]
 rw[LO];refine wpS_of_wp ?_;go_wp2;refine⟨rfl,_,rfl,.tuple #[],by simp[results,Tryz.results55],rfl,rfl,H.out⟩
theorem Sg {w0 w:World}{R:List zy}{p q:Nat}{x:Value}(a0 a1 a2 a3 a4:Int)(h:Own w0 w (zf p [x]::zf q uz::R))(older:List PanicEntry) :
  CallsD Tryz.prog 55 #[.pointer (some ⟨p,0,none⟩),.pointer (some ⟨q,0,none⟩)] (.panicking ({ v:=.iface 95 (.agg (uv a0 a1 a2 a3 a4).toArray),recovered:=false }::older)) w fun e u' w' =>
   e=.returned (.tuple #[])∧u'=.panicking ({ v:=.iface 95 (.agg (uv a0 a1 a2 a3 a4).toArray),recovered:=true }::older)∧Own w0 w' (zf p [.int .i64 2]::zf q (uv a0 a1 a2 a3 a4)::R):=by
 have h1:=fun w=>DT (.agg (uv a0 a1 a2 a3 a4).toArray) w
 have h2:=fun w=>MS (.agg (uv a0 a1 a2 a3 a4).toArray) w
 have h3:∀w:World,(binOp .eql 20 (.iface 95 (.agg (uv a0 a1 a2 a3 a4).toArray)) .nilIface).run Tryz.prog w=.ok (.bool false) w:=fun w=>rfl
 have h4:∀w:World,(eqGuard .eql 20 (.tmp 6) (.const .nilIface) (.iface 95 (.agg (uv a0 a1 a2 a3 a4).toArray)) .nilIface).run Tryz.prog w=.ok () w:=fun w=>rfl
 generalize Value.iface 95 (.agg (uv a0 a1 a2 a3 a4).toArray)=V at *
 unfold uv at h2;unfold uz at h;unfold uv;obtain⟨g0,f0⟩:=h.zo 0 rfl 0 _ rfl;have hpl:=World.block_lt_of_cell? w _ g0
 have H:=Qq h;clear h;refine callsD_of_wpS Tryz.func55 rfl fun c₀ cs hu=>?_
 apply wpS_seq
 apply wpS_region
 simp[wpOpsS,go_sem,recoverD,hu,Tryz.ntmps55,Exit.thenS]
 rw[LO];refine wpS_of_wp ?_;go_upto_region 10 with fail
 obtain⟨q0,e0⟩:=H.out.zo 1 rfl 0 _ rfl;obtain⟨q1,e1⟩:=H.out.zo 1 rfl 1 _ rfl;obtain⟨q2,e2⟩:=H.out.zo 1 rfl 2 _ rfl;obtain⟨q3,e3⟩:=H.out.zo 1 rfl 3 _ rfl;obtain⟨q4,e4⟩:=H.out.zo 1 rfl 4 _ rfl;have hql:=World.block_lt_of_cell? w _ q0
 have hpq:p≠q:=by
  obtain⟨_,F,⟨F1,F2,rfl,⟨rfl,_,_⟩,hd,⟨F3,F4,rfl,⟨rfl,_,_⟩,_,_⟩⟩,_⟩:=H.out;intro he;subst he;exact hd p (by simp) (by simp)
 go_region
 have h5:=((H.out.set 0 (.int .i64 2)).pick 1 rfl)
 have h6:=((((((h5.set 0 (.int .i64 a0)).set 1 (.int .i64 a1)).set 2 (.int .i64 a2)).set 3 (.int .i64 a3)).set 4 (.int .u64 a4)).pick 1 rfl).step (below_alloc1 _ (.cells #[.int .i64 a0,.int .i64 a1,.int .i64 a2,.int .i64 a3,.int .u64 a4] 95))
 exact⟨rfl,_,rfl,.tuple #[],by simp[results,Tryz.results55],rfl,rfl,h6.step (zg _)⟩
def Vh (r:Ending)(k:Int)(u:List Value):Prop :=
 (r=.returned (.tuple #[])∧k=0∧u=uz)∨(r=Fy∧k=1∧u=uz)∨∃i kd n x,r=Yk i kd n x∧k=2∧u=uv (i:Int) kd (n:Int) x.1 (x.2:Int)
theorem CJ {u:List Value}{r:Ending}{k:Int}(h:Vh r k u):∃a0 a1 a2 a3 a4,u=uv a0 a1 a2 a3 a4:=by
 rcases h with⟨_,_,rfl⟩|⟨_,_,rfl⟩|⟨i,kd,n,x,_,_,rfl⟩
 ·exact⟨_,_,_,_,_,rfl⟩
 ·exact⟨_,_,_,_,_,rfl⟩
 ·exact⟨_,_,_,_,_,rfl⟩
theorem Dj {w0 w:World}{R:List zy}{p q:Nat}{x y:List Value}(h:Own w0 w (zf p x::zf q y::R)):p≠q:=by
 obtain⟨_,F,⟨F1,F2,rfl,⟨rfl,_,_⟩,hd,⟨F3,F4,rfl,⟨rfl,_,_⟩,_,_⟩⟩,_⟩:=h;intro he;subst he;exact hd p (by simp) (by simp)
theorem Ys {w0 w:World}{R:List zy}{g g':Nat}{k a0 a1 a2 a3 a4:Int}(h:Own w0 w (zf g [.int .i64 k]::zf g' (uv a0 a1 a2 a3 a4)::R))(tmps:Array Value)(h2:tmps.getD 2 undef=.pointer (some ⟨g,0,none⟩))(h3:tmps.getD 3 undef=.pointer (some ⟨g',0,none⟩)) :
  (results Tryz.f30 tmps).run Tryz.prog w=.ok (.tuple #[.int .i64 k,.agg (uv a0 a1 a2 a3 a4).toArray]) w:=by
 unfold uv at *;obtain⟨g0,-⟩:=h.zo 0 rfl 0 _ rfl;obtain⟨q0,-⟩:=h.zo 1 rfl 0 _ rfl;obtain⟨q1,-⟩:=h.zo 1 rfl 1 _ rfl;obtain⟨q2,-⟩:=h.zo 1 rfl 2 _ rfl;obtain⟨q3,-⟩:=h.zo 1 rfl 3 _ rfl;obtain⟨q4,-⟩:=h.zo 1 rfl 4 _ rfl;have h2':tmps[2]?.getD undef=.pointer (some ⟨g,0,none⟩):=by simpa using h2
 have h3':tmps[3]?.getD undef=.pointer (some ⟨g',0,none⟩):=by simpa using h3
 simp[results,Tryz.results30,go_sem,h2',h3',asAddr,g0,q0,q1,q2,q3,q4]
theorem Mi {w0 w:World}{R:List zy}(h:Own w0 w R)(F:Nat)(cap:Array Value)(en:∀(args:Array Value) (w:World),(callFunc F args).run Tryz.prog w=.ok (.enter F args) w)(Qr:Ending→List zy→Prop)
  (hrun:∀w1 g,Own w0 w1 (zf g [.int .i64 0]::zf (g+1) uz::R)→Calls Tryz.prog F cap w1 fun r w2=>∃R' k u,Own w0 w2 (zf g [.int .i64 0]::zf (g+1) uz::R')∧Qr r R'∧Vh r k u) :
  Calls Tryz.prog 30 #[.func (.func F) #[] cap] w fun e w'=>∃r R' k u,Own w0 w' R'∧Qr r R'∧Vh r k u∧e=.returned (.tuple #[.int .i64 k,.agg u.toArray]):=by
 have hmf:∀(fn:Fn) (first cap:Array Value) (w:World),(Instr.makeFunc fn first cap).run Tryz.prog w=.ok (.func fn first cap) w:=fun _ _ _ _=>rfl
 have hA:=((h.alloc [.int .i64 0] 3 (b:=w.heap.size) rfl).alloc uz 95 (b:=w.heap.size+1) (by simp)).pick 1 rfl
 have hC:=hrun _ _ hA;have HC:=Qq hC;clear hrun hA hC h;unfold uz at HC;go_enter_defers Tryz.func30,Tryz.ntmps30
 go_wp2_with fail;refine HC.out.mono ?_
 rintro r w2 ⟨R',k,u,ho,hq,he⟩;clear HC;generalize w.heap.size=g at *;rcases he with⟨rfl,rfl,rfl⟩|⟨rfl,rfl,rfl⟩|⟨i,kd,n,x,rfl,rfl,rfl⟩
 ·have HO:=Qq ho
  have hpq:=Dj ho;have h5:=((ho.set 0 (.int .i64 0)).pick 1 rfl)
  have h6:=(((((h5.set 0 (.int .i64 0)).set 1 (.int .i64 0)).set 2 (.int .i64 0)).set 3 (.int .i64 0)).set 4 (.int .u64 0)).pick 1 rfl
  have H6:=Qq h6;have HQ:=Qq hq;obtain⟨g0,f0⟩:=ho.zo 0 rfl 0 _ rfl;obtain⟨q0,e0⟩:=ho.zo 1 rfl 0 _ rfl;obtain⟨q1,e1⟩:=ho.zo 1 rfl 1 _ rfl;obtain⟨q2,e2⟩:=ho.zo 1 rfl 2 _ rfl;obtain⟨q3,e3⟩:=ho.zo 1 rfl 3 _ rfl;obtain⟨q4,e4⟩:=ho.zo 1 rfl 4 _ rfl;clear ho h5 h6 hq;go_wp2;refine leaves_cons (f:=55) (args:=#[.pointer (some ⟨g,0,none⟩),.pointer (some ⟨g+1,0,none⟩)]) (by simp) (by simp[go_sem]) ?_
  refine(QO _ _ _).mono ?_
  rintro e u' w'' ⟨rfl,rfl,rfl⟩;exact⟨_,Ys (H6.out) _ rfl rfl,.returned (.tuple #[]),R',0,uz,(H6.out).drop.drop,HQ.out,.inl ⟨rfl,rfl,rfl⟩,rfl⟩
 ·refine leaves_cons (f:=55) (args:=#[.pointer (some ⟨g,0,none⟩),.pointer (some ⟨g+1,0,none⟩)]) (by simp) (by simp[go_sem]) ?_
  refine(Mx ho _).mono ?_
  rintro e u' w'' ⟨rfl,rfl,ho2⟩;refine⟨_,Ys (ho2) _ rfl rfl,Fy,R',1,uz,ho2.drop.drop,hq,.inr (.inl ⟨rfl,rfl,rfl⟩),rfl⟩
 ·refine leaves_cons (f:=55) (args:=#[.pointer (some ⟨g,0,none⟩),.pointer (some ⟨g+1,0,none⟩)]) (by simp) (by simp[go_sem]) ?_
  refine(Sg _ _ _ _ _ ho _).mono ?_
  rintro e u' w'' ⟨rfl,rfl,ho2⟩;refine⟨_,Ys (ho2) _ rfl rfl,_,R',2,_,ho2.drop.drop,hq,.inr (.inr ⟨i,kd,n,x,rfl,rfl,rfl⟩),rfl⟩
end Go.Proofs.YtlkjheheofgdgaaGreat

open Go Go.RowKit
namespace Go.Proofs.YtlkjheheofgdgaaGreat
theorem Pc.Cn {w:World}{fa:Option Addr}{nf fc:Nat}{ca:Option Addr}{nc cc:Nat}{lk:Int}{ka:Option Addr}{nk kc:Nat}{d:PD}(h:Pc w fa nf fc ca nc cc lk ka nk kc d) :
  Calls Tryz.prog 22 #[.agg #[.slice fa nf fc,.slice ca nc cc,.int .i64 lk,.slice ka nk kc]] w fun r w'=>FR w r w':=by
 obtain⟨h1,h2,h3,h4,h5,h6,h7,h8,h9,h10,h11⟩:=h;unfold maxLen at h6 h7;have:=N8 fa fc ca cc ka kc d w h8 h9 h10 h11 (by rw[h1];exact h5.1) h5.2 (by omega) (by omega)
 rw[h1,h2,h3,h4] at this;exact this
theorem Own.Cm {w0 w w':World}{As Bs:List zy}(h:Own w0 w As)(k:Own w w' Bs):Own w0 w' (Bs++As):=by
 obtain⟨hb,G,hG,hG2⟩:=h;obtain⟨kb,F,hF,hF2⟩:=k;refine⟨hb.trans (kb.mono hb.size),F++G,Sep.app hF (Sep.yC (zI.zK (F:=[]) kb) hG (fun _ _=>by simp)) (fun x hx hg=>?_),fun x hx=>?_⟩
 ·have:=hG.lt x hg;have:=hF2 x hx;omega
 ·rcases List.mem_append.1 hx with h|h
  ·exact Nat.le_trans hb.size (hF2 x h)
  ·exact hG2 x h
def CR (fa:Option Addr)(fc:Nat)(ca:Option Addr)(cc:Nat)(ka:Option Addr)(kc:Nat)(rs:List Fr)(cs:List Int)(ks:List Sx):List zy:=zd 1 fa fc rs.length (Xy rs)::zd 1 ca cc cs.length (zr cs)::zd 3 ka kc ks.length (ZU ks)::fns rs
def LX (rs:List Fr)(cs:List Int)(lk:Nat)(ks:List Sx):PD:=⟨rs.map (·.l),cs,(lk:Int),ks⟩
theorem VP:∀(l:List Int) (X:Sd) (i:Nat),(ym X i l).W=X.W
 | [],X,i=>rfl
 | g::t,X,i=>VP t _ i
theorem Gr (X:Sd)(i:Nat):(nearM X i).1.W=X.W:=by
 unfold nearM;split
 ·rfl
 ·split<;>rfl
theorem Qh (X:Sd)(i v:Nat):(zz X i v).1.W=X.W:=by
 have h:(nearM (yN X i) i).1.W=X.W:=Gr _ _
 unfold zz;simp only
 split
 ·exact h
 ·split
  ·split<;>exact h
  ·exact h
theorem Oq (X:Sd)(m v:Nat):(yG X m v).1.W=X.W:=by
 unfold yG;simp only
 split
 ·rfl
 ·split<;>exact Qh _ _ _
theorem Oa (X:Sd)(m:Nat):(holdM X m).1.W=X.W:=by
 unfold holdM;split<;>rfl
theorem Jh (X:Sd)(m:Nat)(v:Int):(runM X m v).1.W=(zG X.W (X.m m).G v).1:=by
 have h:=VP (zG X.W (X.m m).G v).2.2 { X with W:=(zG X.W (X.m m).G v).1 } (X.m m).P.toNat
 unfold runM;simp only
 split<;>exact h
theorem PO (X:Sd)(m:Nat)(v:Int):(ZC X m v).1.W=X.W∨(ZC X m v).1.W=(yO X.W).1∨(m≠X.ms.length∧(X.m m).G ≠ -1∧(ZC X m v).1.W=(zG X.W (X.m m).G v).1):=by
 unfold ZC zZ;split
 ·exact .inr (.inl rfl)
 ·rename_i hm
  split
  ·exact .inl (Oa X m)
  ·split
   ·exact .inl (Oq X m _)
   ·rename_i hG
    exact .inr (.inr ⟨hm,hG,Jh X m v⟩)
def Kq (Y:Sd)(m:Nat)(v:Int):Prop:=xC Y=0∧m≤Y.ms.length∧∀kd n,Zd Y m=some (kd,n)→0≤v∧v<n
inductive OB (X:Sd):Nat→Sd→Prop
 | here:OB X 0 X
 | step {k:Nat} {Y:Sd} {m:Nat} {v:Int}:OB X k Y→Kq Y m v→OB X (k+1) (ZC Y m v).1
theorem Sc {X:Sd}(h:xC X=0)(h2:X.W.en=0∨X.W.en=1∨X.W.en=2):X.W.en=0:=by
 unfold xC at h;rcases h2 with e|e|e
 ·exact e
 ·rw[if_pos e] at h;cases h
 ·rw[if_neg (by omega),if_pos e] at h;cases h
theorem Kf {sp:Nat}{D:UR sp}{s s':D.T}{Y:Sd}{m:Nat}{v:Int}(hov:xC Y=0)(hm:m≤Y.ms.length)(h:Fit D s (Zd Y m) v s'):Kq Y m v:=by
 refine⟨hov,hm,fun kd n e=>?_⟩
 rcases h with⟨h1,-,-⟩|⟨k,n',h1,h2,-⟩
 ·rw[e] at h1;cases h1
 ·rw[e] at h1;cases h1;exact h2
def SQ (w0:World)(b sp bm bx most:Nat)(X0:Sd)(Z:List zy)(D:UR sp)(r:Ending)(w':World):Prop:=∃(k:Nat) (Y:Sd) (s:D.T) (kk:Int) (u:List Value),OB X0 k Y∧k≤most∧Vh r kk u ∧
   Own w0 w' (yx b sp Y::(D.A s++(zf bx [.pointer (some ⟨b,0,none⟩)]::zf bm [.int .i64 (most:Int)]::Z)))
theorem SQ.mk {w0:World}{b sp bm bx most:Nat}{X0:Sd}{Z:List zy}{D:UR sp}{r:Ending}{w':World}(k:Nat)(Y:Sd)(s:D.T)(kk:Int)(u:List Value)(h1:OB X0 k Y)(h2:k≤most)(h3:Vh r kk u)
  (h4:Own w0 w' (yx b sp Y::(D.A s++(zf bx [.pointer (some ⟨b,0,none⟩)]::zf bm [.int .i64 (most:Int)]::Z)))):SQ w0 b sp bm bx most X0 Z D r w':=⟨k,Y,s,kk,u,h1,h2,h3,h4⟩
theorem NW {w0 w:World}{b sp bm bx most:Nat}{X0:Sd}{Z:List zy}{D:UR sp}{s0:D.T}(h:Own w0 w (yx b sp X0::(D.A s0++(zf bx [.pointer (some ⟨b,0,none⟩)]::zf bm [.int .i64 (most:Int)]::Z))))(hok:D.ok (2*most) s0)(hmo:most≤20000)
  (hR:∀k Y,OB X0 k Y→k≤most→(∃B,B≤80000∧yM B Y)∧(Y.W.en=0∨Y.W.en=1∨Y.W.en=2))
  (hpan:∀s kd n r s',D.Dp s kd n r s'→∃k u,Vh r k u∧(k=1∨k=2)) :
  Calls Tryz.prog 46 #[.pointer (some ⟨bm,0,none⟩),.pointer (some ⟨bx,0,none⟩)] w (SQ w0 b sp bm bx most X0 Z D):=by
 have HX:Hid (∀wx Y (s:D.T),Own w0 wx (yx b sp Y::(D.A s++(zf bx [.pointer (some ⟨b,0,none⟩)]::zf bm [.int .i64 (most:Int)]::Z)))→wx.cell? ⟨bx,0,none⟩=some (.pointer (some ⟨b,0,none⟩))∧wx.cell? ⟨bm,0,none⟩=some (.int .i64 (most:Int))):=Qq (fun wx Y s hx=>by
  have h1:=hx.perm (List.perm_middle (l₁:=yx b sp Y::D.A s))
  have h2:=h1.perm (List.Perm.cons _ (List.perm_middle (l₁:=yx b sp Y::D.A s)))
  exact⟨(h2.zo 0 rfl 0 _ rfl).1,(h2.zo 1 rfl 0 _ rfl).1⟩)
 have HR:=Qq hR;have HP:=Qq hpan;have HO:=Qq h;have HK:=Qq hok;clear h hok hR hpan;go_enter Tryz.func46,Tryz.ntmps46
 go_wp2_with fail;go_loopw [2] (fun iv wr=>∃(k:Nat) (Y:Sd) (s:D.T),iv=.int .i64 (k:Int)∧k≤most∧Hid (OB X0 k Y∧D.ok (2*(most-k)) s)∧Hid (Own w0 wr (yx b sp Y::(D.A s++(zf bx [.pointer (some ⟨b,0,none⟩)]::zf bm [.int .i64 (most:Int)]::Z))))) (fun iv _=>most-(intOf iv).toNat)
 case atStart=>exact⟨0,X0,s0,rfl,by omega,Qq ⟨.here,HK.out⟩,HO⟩
 case round =>
  obtain⟨k,Y,s,rfl,hk,hq,hr⟩:=hrel;clear HO HK;obtain⟨x0,x1⟩:=HX.out _ _ _ hr.out;by_cases hlt:k<most
  ·have hlt2:(k:Int)<(most:Int):=by omega
   obtain⟨⟨B,hB,hwf⟩,hen⟩:=HR.out k Y hq.out.1 hk;obtain⟨L,hs⟩:=hr.out.sat;have hst:=Um hs (by have:=hwf.wf.g1.2;omega)
   have HFIN:Hid (∀wx,Own w0 wx (yx b sp Y::(D.A s++(zf bx [.pointer (some ⟨b,0,none⟩)]::zf bm [.int .i64 (most:Int)]::Z)))→SQ w0 b sp bm bx most X0 Z D (.returned (.tuple #[])) wx):=Qq (fun wx ho=>.mk k Y s 0 uz hq.out.1 hk (.inl ⟨rfl,rfl,rfl⟩) ho)
   by_cases hov:xC Y=0
   ·rw[hov] at hst
    have HST:=Qq hst;have hen0:=Sc hov hen;have e2:2*(most-k)=2*(most-(k+1))+2:=by omega
    have hok:=hq.out.2;rw[e2] at hok;have HSTEP:Hid (∀wx,Below wr.heap.size wr wx→Calls Tryz.prog 27 #[.pointer (some ⟨b,0,none⟩)] wx (RP w0 b sp L D s Y (zf bx [.pointer (some ⟨b,0,none⟩)]::zf bm [.int .i64 (most:Int)]::Z) (2*(most-(k+1))))) :=
     Qq (fun wx hb=>Kh (hs.step hb) hok hwf (by omega) hov hen0)
    have HOV:=Qq hov;clear hst hs hwf hen hen0 e2 hok hov HFIN;go_upto_region 1 with fail
    go_wp2_with fail;refine HST.out.mono ?_
    rintro r w2 ⟨rfl,hb⟩;obtain⟨x2,x3⟩:=HX.out _ _ _ (hr.out.step hb)
    have HS2:=Qq (HSTEP.out _ hb)
    clear hb HSTEP HST;go_wp2_with fail;refine HS2.out.mono ?_
    rintro r w3 hp
    clear x0 x1 x2 x3 hr;rcases hp with⟨m,v,s1,s',ra,rc,hm,hdv,hf,ho,rfl,h1⟩|⟨ch,s',rfl,hd,ho,h1⟩
    ·have hpk:=Kf HOV.out hm hf
     have HQ2:Hid (OB X0 (k+1) (ZC Y m v).1∧D.ok (2*(most-(k+1))) s'):=Qq ⟨hq.out.1.step hpk,ho⟩
     have HO2:Hid (Own w0 w3 (yx b sp (ZC Y m v).1::(D.A s'++(zf bx [.pointer (some ⟨b,0,none⟩)]::zf bm [.int .i64 (most:Int)]::Z)))):=Qq h1.less.to
     clear h1 hpk hf hdv ho hm HS2 hq HOV;generalize ZC Y m v=st at *;unfold Lk;generalize st.2.rd.length=N at *;go_wp2;exact⟨⟨k+1,st.1,s',by go_num,by omega,HQ2,HO2⟩,by simp[intOf];omega⟩
    ·obtain⟨kk,u,he,-⟩:∃kk u,Vh (.panicked ch) kk u∧(kk=1∨kk=2):=by
      rcases hd with hd|⟨m,s1,kd,n,-,-,-,hd⟩
      ·exact HP.out _ _ _ _ _ hd
      ·exact HP.out _ _ _ _ _ hd
     exact⟨rfl,.mk k Y s' kk u hq.out.1 hk he h1.to⟩
   ·have HST:=Qq hst
    have hov2:(xC Y==0)=false:=by rw[beq_eq_false_iff_ne];exact hov
    generalize xC Y=ov at *;clear hst hs hwf hen;go_upto_region 1 with fail
    go_wp2_with fail;refine HST.out.mono ?_
    rintro r w2 ⟨rfl,hb⟩;have HE:=Qq (HFIN.out _ (hr.out.step hb))
    clear hb HST HFIN x0 x1 hr hq;go_wp2;go_end0
    exact HE.out
  ·obtain rfl:k=most:=by omega
   have HE:Hid (SQ w0 b sp bm bx k X0 Z D (.returned (.tuple #[])) wr):=Qq (.mk k Y s 0 uz hq.out.1 hk (.inl ⟨rfl,rfl,rfl⟩) hr.out)
   have hge:¬((k:Int)<(k:Int)):=by omega
   clear hq hr hlt hk;go_wp2;go_end0
   exact HE.out
end Go.Proofs.YtlkjheheofgdgaaGreat

open Go Go.RowKit
namespace Go.Proofs.YtlkjheheofgdgaaGreat
theorem Kt (sp:Nat):∀(s:(KR sp 0).T) (kd n:Int) (r:Ending) (s':(KR sp 0).T),(KR sp 0).Dp s kd n r s'→∃k u,Vh r k u∧(k=1∨k=2):=by
 rintro s kd n r s' ⟨-,h|h⟩
 ·exact⟨1,uz,.inr (.inl ⟨h.2,rfl,rfl⟩),.inl rfl⟩
 ·exact⟨2,_,.inr (.inr ⟨_,_,_,_,h.2.2,rfl,rfl⟩),.inr rfl⟩
end Go.Proofs.YtlkjheheofgdgaaGreat
