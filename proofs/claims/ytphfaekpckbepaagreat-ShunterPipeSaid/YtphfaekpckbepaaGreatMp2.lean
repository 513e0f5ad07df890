/-
  Texts put together: WHp2, WHp3, WHp4, WHp5, WFr1, WFr2, WLk1, WLk2, WWld1, WPk1, WPk3, WdM, PpM, PpC, WRing1, WRing2, WLp1, WLp2, WLp3, WLp4, WLp5, WLp6, SegH.
-/
import Derived.Test.YtphfaekpckbepaaGreatMp1
import Derived.Test.YtphfaekpckbepaaGreatRows
import Derived.MapKept
import Derived.WideMake
import Derived.Deep.QuietTactic
import Derived.BigQuiet
import Derived.WalkSmall
import Derived.Deep.DeepCutAuto
import Derived.RegionTactic
import Derived.Deep.RegionHeld3
import Derived.Deep.RegionWith
import Derived.Deep.RegionLaw
import Derived.Deep.RegionLawGrows
import Derived.StillTailTactics
import Derived.Deep.WholeRow
import Derived.Laws.EntriesVeiled
import Derived.OwnWalk
import Derived.LaidEqlPtr
set_option maxRecDepth 100000
set_option maxHeartbeats 16000000
set_option linter.unusedSimpArgs false
set_option linter.unusedVariables false
open Go Go.RowKit
set_option linter.unusedVariables false
namespace Go.Proofs.YtphfaekpckbepaaGreat
abbrev foot (p:Hp) (v:Value):List Nat:=p.b :: v.ownBlock.toList
theorem Chg.trans0 {F:List Nat} {a b c:World} (h:Chg F a b) (k:Chg F b c):Chg F a c:=h.trans k (fun _ hx=>.inl hx)
theorem rise_any (w:World) (p:Hp) (v:Value) (l:List It) (nx k0:Nat) (h:HeapAt w p v l nx) (hk:k0 < l.length) (hl:l.length ≤ 1000000) :
  Calls Tryz.prog 94 #[.pointer (some ⟨p.b,5,none⟩),.int .i64 (k0:Int)] w fun r w'=>r = .returned (.tuple #[]) ∧ HeapAt w' p v (riseF l k0) nx ∧ Chg (foot p v) w w':=by
 have H:=Lib.hid h;clear h
 have HK:=Lib.hid hk;clear hk
 have HL:=Lib.hid hl;clear hl
 generalize hR:riseF l k0 = R
 have HR:=Lib.hid hR;clear hR
 go_enter Tryz.func94,Tryz.ntmps94
 go_wp2_with fail
 go_loopw [1] (fun t wr=>∃ k:Nat,∃ l':List It,t = .int .i64 k ∧ k ≤ 1000000 ∧ Hid (HeapAt wr p v l' nx ∧ Chg (foot p v) w wr ∧ riseF l' k = R ∧ l'.length = l.length ∧ k < l.length)) (fun t _=>(intOf t).toNat)
 case atStart=>exact ⟨k0,l,rfl,by have:=HL.out;have:=HK.out;omega,H.out,Chg.refl _ _,HR.out,rfl,HK.out⟩
 case round =>
  obtain ⟨k,l',rfl,hkb,hr⟩:=hrel
  by_cases h0:0 < k
  ·obtain ⟨m,hm⟩:∃ m,m = (k - 1) / 4:=⟨_,rfl⟩
   have hq:((k:Int) - 1).tdiv 4 = (m:Int):=by rw [hm,Int.tdiv_eq_ediv_of_nonneg (by omega)];omega
   have hwm:IntKind.i64.wrap (m:Int) = (m:Int):=by rw [IntKind.wrap_i64];omega
   have hmk:m < k:=by omega
   have HM:=Lib.hid hm;clear hm
   have hc:=earlier_any wr p v l' nx k m hr.out.1 (by have:=hr.out;omega) (by have:=hr.out;omega) (by have:=hr.out.2.2.2.1;have:=HL.out;omega)
   cases hlt:ltI (gI l' k) (gI l' m) with
   | false =>
    rw [hlt] at hc
    have HC:=Lib.hid hc;clear hc
    have hst:riseF l' k = l':=riseF_stop (fun h=>by rw [← HM.out,hlt] at h;exact absurd h.2 (by simp))
    have hend:∀ w2,Below wr.heap.size wr w2 → HeapAt w2 p v R nx ∧ Chg (foot p v) w w2:=fun w2 hb=>by
     have:=hr.out.2.2.1
     rw [← this,hst]
     exact ⟨hr.out.1.below hb,hr.out.2.1.trans0 (Chg.of_below hb)⟩
    have HE:=Lib.hid hend
    clear hst hend hlt
    go_wp2_with fail
    refine HC.out.mono ?_
    rintro r w2 ⟨rfl,hb⟩
    have HF:=Lib.hid (HE.out _ hb);clear hb
    go_wp2
    refine bodyPost_ret (results_none rfl _ _ _) rfl ?_
    exact ⟨rfl,HF.out⟩
   | true =>
    rw [hlt] at hc
    have HC:=Lib.hid hc;clear hc
    have hgo:riseF l' k = riseF (swI l' k m) m:=by have:=riseF_go h0 (by rw [← HM.out];exact hlt);rw [← HM.out] at this;exact this
    have hsw:∀ w2,Below wr.heap.size wr w2 → Calls Tryz.prog 93 #[.pointer (some ⟨p.b,5,none⟩),.int .i64 (k:Int),.int .i64 (m:Int)] w2 fun r w'=>r = .returned (.tuple #[]) ∧ (HeapAt w' p v (swI l' k m) nx ∧ Chg (foot p v) w w' ∧ riseF (swI l' k m) m = R ∧ (swI l' k m).length = l.length ∧ m < l.length):=fun w2 hb =>
     (swap_any w2 p v l' nx k m (hr.out.1.below hb) (by have:=hr.out;omega) (by have:=hr.out;omega) (by have:=hr.out.2.2.2.1;have:=HL.out;omega)).mono fun r w' ⟨e,h1,h2⟩ =>
      ⟨e,h1,(hr.out.2.1.trans0 (Chg.of_below hb)).trans0 h2,by rw [← hgo];exact hr.out.2.2.1,by rw [swI_len];exact hr.out.2.2.2.1,by have:=hr.out;omega⟩
    have HSW:=Lib.hid hsw
    clear hgo hsw hlt
    go_wp2_with fail
    refine HC.out.mono ?_
    rintro r w2 ⟨rfl,hb⟩
    have HSW2:=Lib.hid (HSW.out _ hb);clear hb
    go_wp2_with fail
    refine HSW2.out.mono ?_
    rintro r w3 ⟨rfl,h3⟩
    have H3:=Lib.hid h3;clear h3
    go_wp2
    exact ⟨⟨m,swI l' k m,rfl,by omega,H3⟩,by simp [intOf];omega⟩
  ·obtain rfl:k = 0:=by omega
   have hst:riseF l' 0 = l':=riseF_stop (fun h=>by omega)
   have hend:HeapAt wr p v R nx ∧ Chg (foot p v) w wr:=by
    have:=hr.out.2.2.1
    rw [← this,hst];exact ⟨hr.out.1,hr.out.2.1⟩
   have HE:=Lib.hid hend
   clear hst hend
   go_wp2
   go_end0
   exact ⟨rfl,HE.out⟩
theorem firstF_stable (l:List It) (k:Nat):∀ (j d:Nat),l.length ≤ k * 4 + 1 + j → firstF l k (j + d) = firstF l k j
 | j,0,_=>rfl
 | j,d + 1,h=>by rw [← Nat.add_assoc,firstF,if_neg (by omega)];exact firstF_stable l k j d h
theorem sink_any (w:World) (p:Hp) (v:Value) (l:List It) (nx k0:Nat) (h:HeapAt w p v l nx) (hk:k0 < l.length) (hl:l.length ≤ 1000000) :
  Calls Tryz.prog 95 #[.pointer (some ⟨p.b,5,none⟩),.int .i64 (k0:Int)] w fun r w'=>r = .returned (.tuple #[]) ∧ HeapAt w' p v (sinkF l k0) nx ∧ Chg (foot p v) w w':=by
 have H:=Lib.hid h;clear h
 have HK:=Lib.hid hk;clear hk
 obtain ⟨n,hn⟩:∃ n,n = l.length:=⟨_,rfl⟩
 rw [← hn] at hl
 have HN:=Lib.hid hn;clear hn
 generalize hR:sinkF l k0 = R
 have HR:=Lib.hid hR;clear hR
 go_enter Tryz.func95,Tryz.ntmps95
 go_wp2_with fail
 go_loopw [1] (fun t wr=>∃ k:Nat,∃ l':List It,t = .int .i64 k ∧ k < n ∧ Hid (HeapAt wr p v l' nx ∧ Chg (foot p v) w wr ∧ sinkF l' k = R ∧ l'.length = n)) (fun t _=>n - (intOf t).toNat)
 case atStart=>exact ⟨k0,l,rfl,by have:=HN.out;have:=HK.out;omega,H.out,Chg.refl _ _,HR.out,HN.out.symm⟩
 case round =>
  obtain ⟨k,l',rfl,hkn,hr⟩:=hrel
  obtain ⟨h1,h2,h3⟩:=hr.out.1
  obtain ⟨g,cap,hv,hcap⟩:=h2.form (by have:=hr.out.2.2.2;omega)
  rw [hr.out.2.2.2] at hv
  have hb0:∀ w2,Below wr.heap.size wr w2 → w2.cell? ⟨p.b,5,none⟩ = some (.slice (some ⟨g,0,none⟩) n cap):=fun w2 hb=>by rw [← hv];exact cell_below (h1 5 _ rfl).1 hb
  have HB0:=Lib.hid hb0
  have hE:∀ w2,Below wr.heap.size wr w2 → ∀ I f,I < n → f < n → Calls Tryz.prog 115 #[.pointer (some ⟨p.b,5,none⟩),.int .i64 (I:Int),.int .i64 (f:Int)] w2 fun r w'=>r = .returned (.bool (ltI (gI l' I) (gI l' f))) ∧ Below wr.heap.size wr w':=fun w2 hb I f h1 h2 =>
   (earlier_any w2 p v l' nx I f (hr.out.1.below hb) (by have:=hr.out.2.2.2;omega) (by have:=hr.out.2.2.2;omega) (by have:=hr.out.2.2.2;omega)).mono fun r w' ⟨e1,e2⟩=>⟨e1,below_on hb e2⟩
  have hstop:∀ w2,Below wr.heap.size wr w2 → firstF l' k 4 = k → HeapAt w2 p v R nx ∧ Chg (foot p v) w w2:=fun w2 hb hf=>by
   have:=hr.out.2.2.1
   rw [← this,sinkF_stop hf];exact ⟨hr.out.1.below hb,hr.out.2.1.trans0 (Chg.of_below hb)⟩
  have hgo:∀ w2 f,Below wr.heap.size wr w2 → f = firstF l' k 4 → f ≠ k → f < n → k < f ∧ Calls Tryz.prog 93 #[.pointer (some ⟨p.b,5,none⟩),.int .i64 (k:Int),.int .i64 (f:Int)] w2 fun r w'=>r = .returned (.tuple #[]) ∧ (HeapAt w' p v (swI l' k f) nx ∧ Chg (foot p v) w w' ∧ sinkF (swI l' k f) f = R ∧ (swI l' k f).length = n):=fun w2 f hb hf hne hfn=>by
   have hkl:=hr.out.2.2.2
   refine ⟨by have:=firstF_in l' k 4;omega,(swap_any w2 p v l' nx k f (hr.out.1.below hb) (by omega) (by omega) (by omega)).mono fun r w' ⟨e,h1,h2⟩ =>
    ⟨e,h1,(hr.out.2.1.trans0 (Chg.of_below hb)).trans0 h2,?_,by rw [swI_len];exact hkl⟩⟩
   have:=sinkF_go (l:=l') (k:=k) (by rw [← hf];exact hne)
   rw [← hf] at this
   rw [← this];exact hr.out.2.2.1
  have HE:=Lib.hid hE
  have HSTOP:=Lib.hid hstop
  have HGO:=Lib.hid hgo
  have HLEN:=Lib.hid hr.out.2.2.2
  clear h1 h2 h3 hb0 hv hcap hE hstop hgo hr
  go_wp2_with fail
  go_loopw [4,5] (fun tf ti w2=>∃ j f:Nat,j ≤ 4 ∧ f < n ∧ tf = .int .i64 f ∧ ti = .int .i64 (((k * 4 + 1 + j:Nat)):Int) ∧ Hid (f = firstF l' k j ∧ Below wr.heap.size wr w2)) (fun _ ti _=>k * 4 + 5 - (intOf ti).toNat)
  case atStart=>exact ⟨0,k,by omega,hkn,rfl,by first | rfl | (congr 1;omega),rfl,Below.refl _ _⟩
  case round =>
   obtain ⟨j,f,hj,hfn,rfl,rfl,hi⟩:=hrel
   have hcell:=HB0.out _ hi.out.2
   obtain ⟨I,hI⟩:∃ I,I = k * 4 + 1 + j:=⟨_,rfl⟩
   rw [← hI]
   have HI:=Lib.hid hI
   by_cases hgo:j < 4 ∧ I < n
   ·obtain ⟨z1,z2⟩:=hgo
    have hle:(I:Int) ≤ (k:Int) * 4 + 4:=by omega
    have hlt:(I:Int) < (n:Int):=by omega
    have hc:=HE.out _ hi.out.2 I f z2 hfn
    have hst:∀ b,ltI (gI l' I) (gI l' f) = b → (if b then I else f) = firstF l' k (j + 1):=fun b hb=>by
     rw [firstF,← hi.out.1,← hI]
     cases b with
     | true=>rw [if_pos rfl,if_pos ⟨by have:=HLEN.out;omega,hb⟩]
     | false=>rw [if_neg (by simp),if_neg (fun h=>by rw [hb] at h;exact absurd h.2 (by simp))]
    have HST:=Lib.hid hst
    clear hst
    cases hlt2:ltI (gI l' I) (gI l' f) with
    | true =>
     rw [hlt2] at hc
     have hs:=HST.out _ hlt2
     have HC:=Lib.hid hc
     have HS:=Lib.hid hs
     clear hc hlt2 hs hI
     go_wp2_with fail
     refine HC.out.mono ?_
     rintro r w2 ⟨rfl,hb⟩
     have hx:Hid (I = firstF l' k (j + 1) ∧ Below _ _ w2):=⟨by simpa using HS.out,hb⟩
     clear hb
     go_wp2
     exact ⟨⟨j + 1,I,by omega,z2,rfl,by congr 1;have:=HI.out;omega,hx⟩,by have:=HI.out;simp [intOf];omega⟩
    | false =>
     rw [hlt2] at hc
     have hs:=HST.out _ hlt2
     have HC:=Lib.hid hc
     have HS:=Lib.hid hs
     clear hc hlt2 hs hI
     go_wp2_with fail
     refine HC.out.mono ?_
     rintro r w2 ⟨rfl,hb⟩
     have hx:Hid (f = firstF l' k (j + 1) ∧ Below _ _ w2):=⟨by simpa using HS.out,hb⟩
     clear hb
     go_wp2
     exact ⟨⟨j + 1,f,by omega,hfn,rfl,by congr 1;have:=HI.out;omega,hx⟩,by have:=HI.out;simp [intOf];omega⟩
   ·have hf4:f = firstF l' k 4:=by
     rw [hi.out.1]
     by_cases e:j = 4
     ·rw [e]
     ·have:=firstF_stable l' k j (4 - j) (by have:=HLEN.out;omega)
      rw [show j + (4 - j) = 4 by omega] at this;exact this.symm
    have HF4:=Lib.hid hf4
    have hb:=hi.out.2
    have HB:=Lib.hid hb
    have hcase:(¬ (I:Int) ≤ (k:Int) * 4 + 4) ∨ ((I:Int) ≤ (k:Int) * 4 + 4 ∧ ¬ (I:Int) < (n:Int)):=by omega
    clear hgo hI hf4 hb
    by_cases hfk:f = k
    ·subst hfk
     have HEND:=Lib.hid (HSTOP.out _ HB.out HF4.out.symm)
     rcases hcase with z1 | ⟨z1,z2⟩
     all_goals
      go_wp2
      refine bodyPost_ret (results_none rfl _ _ _) rfl ?_
      exact ⟨rfl,HEND.out⟩
    ·have hne:((f:Int) == (k:Int)) = false:=by rw [beq_eq_false_iff_ne];omega
     obtain ⟨hkf,hsw⟩:=HGO.out _ f HB.out HF4.out hfk hfn
     have HSW:=Lib.hid hsw
     clear hsw
     rcases hcase with z1 | ⟨z1,z2⟩
     all_goals
      go_wp2_with fail
      refine HSW.out.mono ?_
      rintro r w3 ⟨rfl,h3⟩
      have H3:=Lib.hid h3;clear h3
      go_wp2
      exact ⟨⟨f,swI l' k f,rfl,hfn,H3⟩,by simp [intOf];omega⟩
theorem info_item:(Tryz.prog.info? 167).map (fun i=>(i.zero,i.size,i.bytes)) = some (some (.agg #[.int .u64 0,.int .u64 0,.int .i64 0]),3,24):=by kernel_rfl
theorem size_item:∀ w,(sizeOf (Tryz.prog.elem 70)).run Tryz.prog w = .ok 3 w:=by
 obtain ⟨i0,hi,hz0,hz1,hz2⟩:=info_parts info_item
 intro w
 have e:Tryz.prog.elem 70 = 167:=by kernel_rfl
 rw [e];simp [sizeOf,typeInfo,hi,hz1]
theorem under_items:Tryz.prog.underlying 70 = some (.slice (Tryz.prog.elem 70)):=by
 have e:Tryz.prog.elem 70 = 167:=by kernel_rfl
 rw [e];exact Tryz.underlying70
theorem ItemsAt.cut {w:World} {a:Option Addr} {n cap:Nat} {l:List It} (h:ItemsAt w (.slice a n cap) l) (hn:n = l.length) (m:Nat) (hm:m ≤ n):ItemsAt w (.slice a m cap) (l.take m):=by
 subst hn
 unfold ItemsAt at h ⊢
 rw [List.length_take,Nat.min_eq_left hm,icells_take]
 exact owns_takeK h m hm
theorem remove_any (w:World) (p:Hp) (v:Value) (l:List It) (nx k:Nat) (h:HeapAt w p v l nx) (hk:k < l.length) (hl:l.length ≤ 1000000) :
  Calls Tryz.prog 74 #[.pointer (some ⟨p.b,5,none⟩),.int .i64 (k:Int)] w fun r w'=>∃ v',r = .returned (.tuple #[]) ∧ HeapAt w' p v' (remF l k) nx ∧ v'.ownBlock = v.ownBlock ∧ Chg (foot p v) w w':=by
 obtain ⟨h1,h2,h3⟩:=h
 obtain ⟨g,cap,hv,hcap⟩:=h2.form (by omega)
 obtain ⟨n,hn⟩:∃ n,n = l.length:=⟨_,rfl⟩
 rw [← hn] at hv hk hl hcap
 subst hv
 have hgp:g ≠ p.b:=h3 g (by simp [Value.ownBlock])
 obtain ⟨c0,-⟩:=h1 5 _ rfl
 obtain ⟨m,rfl⟩:∃ m,n = m + 1:=⟨n - 1,by omega⟩
 have hsw:Calls Tryz.prog 93 #[.pointer (some ⟨p.b,5,none⟩),.int .i64 (k:Int),.int .i64 (m:Int)] w fun r w'=>r = .returned (.tuple #[]) ∧ HeapAt w' p (.slice (some ⟨g,0,none⟩) (m + 1) cap) (swI l k m) nx ∧ Chg [p.b,g] w w':=swap_any w p _ l nx k m ⟨h1,h2,h3⟩ (by omega) (by omega) (by omega)
 have HN:=Lib.hid hn;clear hn
 have hs0:∀ w',(Instr.slice 70 (.slice (some ⟨g,0,none⟩) (m + 1) cap) none (some (.int .i64 (m:Int))) none).run Tryz.prog w' = .ok (.slice (some ⟨g,0,none⟩) m cap) w':=fun w'=>slice_head w' under_items size_item (some ⟨g,0,none⟩) (m + 1) cap m (by omega)
 change Calls Tryz.prog 74 #[.pointer (some ⟨p.b,5,none⟩),.int .i64 (k:Int)] w fun r w'=>∃ v',r = .returned (.tuple #[]) ∧ HeapAt w' p v' (remF l k) nx ∧ v'.ownBlock = some g ∧ Chg [p.b,g] w w'
 have hstep:∀ w1,HeapAt w1 p (.slice (some ⟨g,0,none⟩) (m + 1) cap) (swI l k m) nx ∧ Chg [p.b,g] w w1 → (HeapAt (w1.setCell ⟨p.b,5,none⟩ (.slice (some ⟨g,0,none⟩) m cap)) p (.slice (some ⟨g,0,none⟩) m cap) ((swI l k m).take m) nx ∧ Chg [p.b,g] w (w1.setCell ⟨p.b,5,none⟩ (.slice (some ⟨g,0,none⟩) m cap))):=fun w1 ⟨k1,k2⟩=>by
  have cs:Chg [p.b] w1 (w1.setCell ⟨p.b,5,none⟩ (.slice (some ⟨g,0,none⟩) m cap)):=(Chg.refl _ _).setCell _ (.inl (by simp))
  refine ⟨⟨k1.1.set 5 _,(k1.2.1.cut (by rw [swI_len];exact HN.out) m (by omega)).chg cs (fun x hx=>by simp [Value.ownBlock] at hx;subst hx;simp;omega),fun x hx=>by simp [Value.ownBlock] at hx;subst hx;exact hgp⟩,k2.trans cs (fun x hx=>.inl (by simp at hx;simp [hx]))⟩
 have hlen:((swI l k m).take m).length = m:=by rw [List.length_take,swI_len,← HN.out];omega
 have hlast:k = m → (swI l k m).take m = remF l k:=fun e=>by
  subst e
  unfold remF
  rw [← HN.out,Nat.add_sub_cancel,if_pos rfl]
  apply List.ext_getElem (by simp [swI_len])
  intro i i1 i2
  have e1:gI ((swI l k k).take k) i = gI (l.take k) i:=by
   rw [gI_take (by simp at i2;omega),gI_take (by simp at i2;omega),gI_sw (by have:=HN.out;omega) (by have:=HN.out;omega)]
   split
   ·subst_vars;rfl
   ·rfl
  rwa [gI_of i1,gI_of i2] at e1
 have hrem:k ≠ m → sinkF (riseF ((swI l k m).take m) k) k = remF l k:=fun e=>by
  unfold remF
  rw [← HN.out,Nat.add_sub_cancel,if_neg e]
 generalize (swI l k m).take m = L at *
 generalize remF l k = R at *
 have HSW:=Lib.hid hsw
 have HSTEP:=Lib.hid hstep
 have HLEN:=Lib.hid hlen
 have HLAST:=Lib.hid hlast
 have HREM:=Lib.hid hrem
 clear h1 h2 h3 hsw hstep hlen hlast hrem hcap
 go_enter Tryz.func74,Tryz.ntmps74
 go_wp2_with fail
 refine HSW.out.mono ?_
 rintro r w1 ⟨rfl,h1⟩
 have H1:=Lib.hid h1
 obtain ⟨c1,f1⟩:=h1.1.1 5 _ rfl
 clear h1 c0
 by_cases hkm:k = m
 ·have hb:((k:Int) == (m:Int)) = true:=by rw [beq_iff_eq];omega
  have h2:=HSTEP.out _ H1.out
  rw [HLAST.out hkm] at h2
  have HE:=Lib.hid h2;clear h2 hkm
  go_wp2
  refine bodyPost_ret (results_none rfl _ _ _) rfl ?_
  exact ⟨_,rfl,HE.out.1,rfl,HE.out.2⟩
 ·have hb:((k:Int) == (m:Int)) = false:=by rw [beq_eq_false_iff_ne];omega
  have hkl:k < m:=by omega
  have H2:=Lib.hid (HSTEP.out _ H1.out)
  go_wp2_with fail
  refine (rise_any _ p _ L nx k H2.out.1 (by rw [HLEN.out];exact hkl) (by rw [HLEN.out];omega)).mono ?_
  rintro r w2 ⟨rfl,k1,k2⟩
  have H3:=Lib.hid k1
  have C3:=Lib.hid (H2.out.2.trans0 k2)
  clear k1 k2
  go_wp2_with fail
  refine (sink_any _ p _ _ nx k H3.out (by rw [riseF_len (by rw [HLEN.out];exact hkl),HLEN.out];exact hkl) (by rw [riseF_len (by rw [HLEN.out];exact hkl),HLEN.out];omega)).mono ?_
  rintro r w3 ⟨rfl,k1,k2⟩
  rw [HREM.out hkm] at k1
  have H4:=Lib.hid k1
  have C4:=Lib.hid (C3.out.trans0 k2)
  clear k1 k2
  go_wp2
  go_end0
  exact ⟨_,rfl,H4.out,rfl,C4.out⟩
theorem three_new (w:World) (x y z:Value) (t:TypeId) {b:Nat} (hb:b = w.heap.size):∀ j u,[x,y,z][j]? = some u → (w.alloc (.cells #[x,y,z] t)).cell? ((⟨b,0,none⟩:Addr).add j) = some u:=fun j u hj=>by
 rw [Addr.add_lit,Nat.zero_add];exact (Blk.mk w [x,y,z] t b hb j u hj).1
theorem hpush_any (w:World) (p:Hp) (v:Value) (l:List It) (nx:Nat) (at_ id:Int) (h:HeapAt w p v l nx) (hl:l.length ≤ 100000) (hnx:nx ≤ 100000) :
  Calls Tryz.prog 135 #[.pointer (some ⟨p.b,5,none⟩),.int .u64 at_,.int .i64 id] w fun r w'=>∃ v',r = .returned (.int .u64 (nx:Int)) ∧ HeapAt w' p v' (pushF l ⟨at_,nx,id⟩) (nx + 1) ∧ Chg (foot p v) w w' ∧ ∀ x ∈ foot p v',x ∈ foot p v ∨ w.heap.size ≤ x:=by
 have hlt:=h.lt
 obtain ⟨h1,h2,h3⟩:=h
 obtain ⟨a0,cap,rfl,hcap⟩:=h2.slice
 obtain ⟨n,hn⟩:∃ n,n = l.length:=⟨_,rfl⟩
 rw [← hn] at h1 h2 h3 hcap hl hlt ⊢
 obtain ⟨c0,f0⟩:=h1 5 _ rfl
 obtain ⟨c1,f1⟩:=h1 6 _ rfl
 have hp:=hlt.1
 have H1:=Lib.hid h1
 have H2:=Lib.hid h2
 have H3:=Lib.hid h3
 have HLT:=Lib.hid hlt
 have HN:=Lib.hid hn
 have hwn:IntKind.u64.wrap ((nx:Int) + 1) = (nx:Int) + 1:=by rw [IntKind.wrap_u64];omega
 obtain ⟨i0,hi0,hz0,hz1,hz2⟩:=info_parts info_item
 have Hi:=Lib.hid hi0;clear hi0
 have Hz0:=Lib.hid hz0;clear hz0
 have Hz1:=Lib.hid hz1;clear hz1
 have Hz2:=Lib.hid hz2;clear hz2
 clear h1 h2 h3 hlt hn
 go_enter Tryz.func135,Tryz.ntmps135
 have hst0:∀ u,ItemsAt (w.setCell ⟨p.b,6,none⟩ u) (.slice a0 n cap) l ∧ Blk (w.setCell ⟨p.b,6,none⟩ u) p.b (p.cs (.slice a0 n cap) u) ∧ Chg [p.b] w (w.setCell ⟨p.b,6,none⟩ u) ∧ (w.setCell ⟨p.b,6,none⟩ u).heap.size = w.heap.size:=fun u=>by
  have cs:Chg [p.b] w (w.setCell ⟨p.b,6,none⟩ u):=(Chg.refl _ _).setCell _ (.inl (by simp))
  exact ⟨H2.out.chg cs (fun x hx=>by have:=H3.out x hx;simp [this]),H1.out.set 6 u,cs,World.size_setCell _ _ _⟩
 have HST0:=Lib.hid (hst0 (.int .u64 ((nx:Int) + 1)))
 clear hst0
 go_upto_region 3 with fail
 generalize w.setCell ⟨p.b,6,none⟩ (.int .u64 ((nx:Int) + 1)) = W at *
 clear c0 f0 c1 f1
 obtain ⟨c0,f0⟩:=HST0.out.2.1 5 _ rfl
 have hW:W.heap.size = w.heap.size:=HST0.out.2.2.2
 have HW:=Lib.hid hW;clear hW
 have hown0:∀ o,(W.alloc o).ownsRow 0 167 3 (.slice a0 n cap) n (icells l):=fun o=>by have h:=HST0.out.1.below (below_alloc1 W o);unfold ItemsAt at h;rw [← HN.out] at h;exact h
 have HOWN:=Lib.hid hown0;clear hown0
 go_wp2_with (at_builtin;go_loud (refine wpList_append_lies _ rfl _ _ 70 rfl 0 167 i0 _ 3 24 Tryz.underlying70 Hi.out Hz0.out Hz1.out Hz2.out rfl (by decide) _ n (icells l) rfl (HOWN.out _) ⟨W.heap.size,0,none⟩ 1 1 [.int .u64 at_,.int .u64 (nx:Int),.int .i64 id] rfl rfl (three_new _ _ _ _ _ rfl) (by simp [Value.oneCell']) (by omega) (by unfold maxLen;omega) (by omega) (Nat.zero_le _) (W.heap.size + 1) (by simp) ?_))
 intro g c2 w1 hown hgr hat hlt
 have hgp:g ≠ p.b:=by
  rcases hat with h | h
  ·exact H3.out g (by rw [h];simp)
  ·have:=HW.out;omega
 have hpb:p.b ∉ (Value.slice a0 n cap).ownBlock.toList:=fun hx=>H3.out p.b hx rfl
 have hc1:Chg ((Value.slice a0 n cap).ownBlock.toList) W w1:=(Chg.of_below (below_alloc1 _ _)).trans (grownBy_chg hgr) (fun x hx=>.inl hx)
 have hB1:=HST0.out.2.1.chg hc1 hpb
 obtain ⟨c1,f1⟩:=hB1 5 _ rfl
 have hfin:HeapAt (w1.setCell ⟨p.b,5,none⟩ (.slice (some ⟨g,0,none⟩) (n + 1) c2)) p (.slice (some ⟨g,0,none⟩) (n + 1) c2) (l ++ [⟨at_,nx,id⟩]) (nx + 1) ∧ Chg (foot p (.slice a0 n cap)) w (w1.setCell ⟨p.b,5,none⟩ (.slice (some ⟨g,0,none⟩) (n + 1) c2)) ∧ (g ∈ foot p (.slice a0 n cap) ∨ w.heap.size ≤ g):=by
  have cs:Chg [p.b] w1 (w1.setCell ⟨p.b,5,none⟩ (.slice (some ⟨g,0,none⟩) (n + 1) c2)):=(Chg.refl _ _).setCell _ (.inl (by simp))
  have hI:ItemsAt w1 (.slice (some ⟨g,0,none⟩) (n + 1) c2) (l ++ [⟨at_,nx,id⟩]):=by
   unfold ItemsAt
   rw [List.length_append,← HN.out,icells_app];exact hown
  refine ⟨⟨hB1.set 5 _,hI.chg cs (fun x hx=>by simp [Value.ownBlock] at hx;subst hx;simp [hgp]),fun x hx=>by simp [Value.ownBlock] at hx;subst hx;exact hgp⟩,
   ((HST0.out.2.2.1.mono (fun x hx=>by simp at hx;simp [hx])).trans (hc1.mono (fun x hx=>by simp [foot];right;simpa using hx)) (fun x hx=>.inl hx)).trans (cs.mono (fun x hx=>by simp at hx;simp [foot,hx])) (fun x hx=>.inl hx),?_⟩
  rcases hat with h | h
  ·left;simp [foot,h]
  ·right;have:=HW.out;omega
 have HFIN:=Lib.hid hfin
 clear hfin hB1 hc1 hown hgr hat hlt hgp hpb
 have hlen:(l ++ [(⟨at_,nx,id⟩:It)]).length = n + 1:=by rw [List.length_append,← HN.out];rfl
 have HLEN:=Lib.hid hlen;clear hlen
 go_wp2_with fail
 have hc:=rise_any _ p _ _ (nx + 1) n HFIN.out.1 (by rw [HLEN.out];omega) (by rw [HLEN.out];omega)
 rw [show riseF (l ++ [⟨at_,(nx:Int),id⟩]) n = pushF l ⟨at_,nx,id⟩ by unfold pushF;rw [HN.out]] at hc
 refine hc.mono ?_
 rintro r w2 ⟨rfl,k1,k2⟩
 have hend:HeapAt w2 p (.slice (some ⟨g,0,none⟩) (n + 1) c2) (pushF l ⟨at_,nx,id⟩) (nx + 1) ∧ Chg (foot p (.slice a0 n cap)) w w2 ∧ ∀ x ∈ foot p (.slice (some ⟨g,0,none⟩) (n + 1) c2),x ∈ foot p (.slice a0 n cap) ∨ w.heap.size ≤ x:=by
  refine ⟨k1,HFIN.out.2.1.trans k2 (fun x hx=>?_),fun x hx=>?_⟩
  all_goals
   simp only [foot,Value.ownBlock,Option.toList,List.mem_cons,List.not_mem_nil,or_false] at hx
   rcases hx with rfl | rfl
   ·left;simp [foot]
   ·exact HFIN.out.2.2
 have HEND:=Lib.hid hend
 clear hend k1 k2 hc
 go_wp2
 go_ret
 exact ⟨_,rfl,HEND.out⟩
theorem hmin_none (w:World) (p:Hp) (v:Value) (nx:Nat) (h:HeapAt w p v [] nx) :
  Calls Tryz.prog 73 #[.pointer (some ⟨p.b,5,none⟩)] w fun r w'=>r = .returned (.tuple #[itv ⟨0,0,0⟩,.bool false]) ∧ Below w.heap.size w w':=by
 obtain ⟨h1,h2,h3⟩:=h
 obtain ⟨a0,cap,rfl,hcap⟩:=h2.slice
 obtain ⟨c0,-⟩:=h1 5 _ rfl
 have c0':w.cell? ⟨p.b,5,none⟩ = some (.slice a0 0 cap):=c0
 have hp:=h1.lt (by simp [Hp.cs])
 clear h1 h2 h3 c0
 unfold itv
 have hend:∀ v0 v1 v2 o,Below w.heap.size w ((((w.alloc o).setCell ⟨w.heap.size,0,none⟩ v0).setCell ⟨w.heap.size,1,none⟩ v1).setCell ⟨w.heap.size,2,none⟩ v2):=fun v0 v1 v2 o =>
  (((below_alloc1 w o).setCell (p:=⟨w.heap.size,0,none⟩) (Nat.le_refl _) v0).setCell (p:=⟨w.heap.size,1,none⟩) (Nat.le_refl _) v1).setCell (p:=⟨w.heap.size,2,none⟩) (Nat.le_refl _) v2
 have HE:=Lib.hid hend;clear hend
 go_enter Tryz.func73,Tryz.ntmps73
 go_wp2
 exact bodyPost_ret (v:=.tuple #[.agg #[.int .u64 0,.int .u64 0,.int .i64 0],.bool false]) (by simp [results,Tryz.results73,go_sem]) rfl ⟨rfl,by first | exact HE.out _ _ _ _ | exact below_alloc1 _ _⟩
theorem hmin_any (w:World) (p:Hp) (v:Value) (l:List It) (nx:Nat) (h:HeapAt w p v l nx) (hl:0 < l.length) :
  Calls Tryz.prog 73 #[.pointer (some ⟨p.b,5,none⟩)] w fun r w'=>r = .returned (.tuple #[itv (gI l 0),.bool true]) ∧ Below w.heap.size w w':=by
 obtain ⟨h1,h2,h3⟩:=h
 have hlt:=h2.lt
 obtain ⟨g,cap,rfl,hcap⟩:=h2.form hl
 have hg:g < w.heap.size:=hlt g (by simp [Value.ownBlock])
 obtain ⟨c0,-⟩:=h1 5 _ rfl
 obtain ⟨c1,c2,c3⟩:=h2.cell 0 hl
 have hp:=h1.lt (by simp [Hp.cs])
 obtain ⟨n,hn⟩:∃ n,n = l.length:=⟨_,rfl⟩
 rw [← hn] at c0 hl
 have hb0:((n:Int) == 0) = false:=by rw [beq_eq_false_iff_ne];omega
 have hn0:(0:Int) < (n:Int):=by omega
 clear h1 h2 h3 hlt hn hcap
 generalize gI l 0 = x at *
 obtain ⟨xa,xs,xi⟩:=x
 unfold itv
 simp only [Nat.zero_mul,Nat.zero_add] at c1 c2 c3 ⊢
 go_enter Tryz.func73,Tryz.ntmps73
 go_wp2
 exact bodyPost_ret (v:=.tuple #[.agg #[.int .u64 xa,.int .u64 xs,.int .i64 xi],.bool true]) (by simp [results,Tryz.results73,go_sem]) rfl ⟨rfl,below_alloc1 _ _⟩
def wakeF:Nat → List It → Int → List It × List It
 | 0,l,_=>([],l)
 | f + 1,l,now=>if 0 < l.length ∧ (gI l 0).at_ ≤ now then (gI l 0 :: (wakeF f (remF l 0) now).1,(wakeF f (remF l 0) now).2) else ([],l)
def wakes (l:List It) (now:Int):List It × List It:=wakeF l.length l now
theorem wakes_go {l:List It} {now:Int} (h:0 < l.length) (h2:(gI l 0).at_ ≤ now):wakes l now = (gI l 0 :: (wakes (remF l 0) now).1,(wakes (remF l 0) now).2):=by
 unfold wakes
 rw [remF_len h]
 obtain ⟨n,hn⟩:∃ n,l.length = n + 1:=⟨l.length - 1,by omega⟩
 rw [hn,wakeF,if_pos ⟨h,h2⟩,Nat.add_sub_cancel]
theorem wakes_stop {l:List It} {now:Int} (h:¬ (0 < l.length ∧ (gI l 0).at_ ≤ now)):wakes l now = ([],l):=by
 unfold wakes
 cases hn:l.length with
 | zero=>rw [wakeF]
 | succ n=>rw [wakeF,if_neg h]
def lenV:Value → Nat
 | .slice _ n _=>n
 | _=>0
def itc (x:It):List Value:=[.int .u64 x.at_,.int .u64 x.seq,.int .i64 x.id]
def WakeSt (w:World) (p:Hp) (v:Value) (nx:Nat) (T:List It × List It) (now:Int) (N:Nat) (W:World) (v5:Value) (b:Nat) (pre l':List It) (v':Value) (x:It):Prop :=
 (pre ++ (wakes l' now).1,(wakes l' now).2) = T ∧ pre.length + l'.length = N ∧ HeapAt W p v' l' nx ∧ v'.ownBlock = v.ownBlock ∧ Chg (foot p v) w W ∧ ItemsAt W v5 pre ∧ (∀ y ∈ v5.ownBlock.toList,w.heap.size ≤ y ∧ y ≠ b) ∧ Blk W b (itc x) ∧ w.heap.size ≤ b ∧ (0 < l'.length → x = gI l' 0)
theorem foot_lt {w:World} {p:Hp} {v:Value} {l:List It} {nx:Nat} (h:HeapAt w p v l nx):∀ x ∈ foot p v,x < w.heap.size:=fun x hx=>by
 simp only [foot,List.mem_cons] at hx
 rcases hx with rfl | hx
 ·exact h.lt.1
 ·exact h.lt.2 x hx
theorem foot_eq {p:Hp} {v v':Value} (h:v'.ownBlock = v.ownBlock):foot p v' = foot p v:=by simp only [foot,h]
def Woke (w:World) (p:Hp) (v:Value) (nx:Nat) (T:List It × List It) (r:Ending) (w':World):Prop :=
 ∃ v5 v',r = .returned v5 ∧ ItemsAt w' v5 T.1 ∧ (∀ y ∈ v5.ownBlock.toList,w.heap.size ≤ y) ∧ HeapAt w' p v' T.2 nx ∧ v'.ownBlock = v.ownBlock ∧ Chg (foot p v) w w'
theorem wake_any (w:World) (p:Hp) (v:Value) (l:List It) (nx:Nat) (now:Int) (h:HeapAt w p v l nx) (hl:l.length ≤ 100000) :
  Calls Tryz.prog 62 #[.pointer (some ⟨p.b,5,none⟩),.int .u64 now] w (Woke w p v nx (wakes l now)):=by
 have hft:=foot_lt h
 have HFT:=Lib.hid hft;clear hft
 obtain ⟨T,hT⟩:∃ T,T = wakes l now:=⟨_,rfl⟩
 rw [← hT]
 have HT:=Lib.hid hT;clear hT
 have hmin:∀ W v' l',HeapAt W p v' l' nx → Calls Tryz.prog 73 #[.pointer (some ⟨p.b,5,none⟩)] W fun r w'=>∃ x ok,r = .returned (.tuple #[itv x,.bool ok]) ∧ (ok = true ↔ 0 < l'.length) ∧ (0 < l'.length → x = gI l' 0) ∧ Below W.heap.size W w':=fun W v' l' h'=>by
  by_cases h0:0 < l'.length
  ·exact (hmin_any W p v' l' nx h' h0).mono fun r w' ⟨e1,e2⟩=>⟨_,_,e1,by simp [h0],fun _=>rfl,e2⟩
  ·have:l' = []:=List.length_eq_zero_iff.1 (by omega)
   subst this
   exact (hmin_none W p v' nx h').mono fun r w' ⟨e1,e2⟩=>⟨_,_,e1,by simp,fun h=>by simp at h,e2⟩
 have HMIN:=Lib.hid hmin;clear hmin
 have H:=Lib.hid h;clear h
 have HL:=Lib.hid hl;clear hl
 obtain ⟨i0,hi0,hz0,hz1,hz2⟩:=info_parts info_item
 have Hi:=Lib.hid hi0;clear hi0
 have Hz0:=Lib.hid hz0;clear hz0
 have Hz1:=Lib.hid hz1;clear hz1
 have Hz2:=Lib.hid hz2;clear hz2
 go_enter Tryz.func62,Tryz.ntmps62
 go_wp2_with fail
 refine (HMIN.out w v l H.out).mono ?_
 rintro r w1 ⟨x,ok,rfl,e1,e2,b1⟩
 have hst:WakeSt w p v nx T now l.length (w1.alloc (.cells (itc x).toArray 167)) (.slice none 0 0) w1.heap.size [] l v x :=
  have b2:=below_on b1 (below_alloc1 w1 (.cells (itc x).toArray 167))
  ⟨by rw [HT.out];rfl,by simp,H.out.below b2,rfl,Chg.of_below b2,ItemsAt.nil _,fun y hy=>by simp [Value.ownBlock] at hy,Blk.mk _ _ _ _ rfl,b1.size,e2⟩
 have HST:=Lib.hid hst
 have E1:=Lib.hid e1
 clear hst e1 e2 b1
 obtain ⟨xa,xs,xi⟩:=x
 unfold itv
 unfold itc at HST
 go_wp2_with fail
 go_loopw [5,6,7] (fun t5 t6 t7 wr=>∃ b a5 n5 c5 pre l' v' xa xs xi ok,t5 = .slice a5 n5 c5 ∧ t6 = .pointer (some ⟨b,0,none⟩) ∧ t7 = .bool ok ∧ n5 ≤ l.length ∧ Hid ((ok = true ↔ 0 < l'.length) ∧ n5 = pre.length ∧ WakeSt w p v nx T now l.length wr (.slice a5 n5 c5) b pre l' v' ⟨xa,xs,xi⟩)) (fun t5 _ _ _=>l.length - lenV t5)
 case atStart=>exact ⟨_,_,_,_,[],l,v,xa,xs,xi,ok,rfl,rfl,rfl,by omega,E1.out,rfl,HST.out⟩
 case round =>
  obtain ⟨b,a5,n5,c5,pre,l',v',xa,xs,xi,ok,rfl,rfl,rfl,hn5,hr⟩:=hrel
  obtain ⟨hok,hn5',S⟩:=hr.out
  obtain ⟨s1,s2,s3,s4,s5,s6,s7,s8,s9,s10⟩:=S
  have hexit:¬ (0 < l'.length ∧ (gI l' 0).at_ ≤ now) → Woke w p v nx T (.returned (.slice a5 n5 c5)) wr:=fun h=>by
   rw [wakes_stop h] at s1
   rw [← s1]
   exact ⟨_,v',rfl,by simpa using s6,fun y hy=>(s7 y hy).1,s3,s4,s5⟩
  have HEXIT:=Lib.hid hexit;clear hexit
  cases ok with
  | false =>
   have hE:=HEXIT.out (fun h=>by have:=hok.2 h.1;cases this)
   have HE:=Lib.hid hE
   clear hE hok s1 s2 s3 s4 s5 s6 s7 s8 s9 s10 hn5' hr
   go_wp2
   go_ret
   exact HE.out
  | true =>
   have h0:0 < l'.length:=hok.1 rfl
   have hx:=s10 h0
   obtain ⟨g0,-⟩:=s8 0 _ rfl
   obtain ⟨g1,-⟩:=s8 1 _ rfl
   obtain ⟨g2,-⟩:=s8 2 _ rfl
   simp only at g0 g1 g2
   by_cases hat:xa ≤ now
   ·have hgo:=wakes_go h0 (by rw [← hx];exact hat)
    have hown0:∀ o,(wr.alloc o).ownsRow 0 167 3 (.slice a5 n5 c5) n5 (icells pre):=fun o=>by have h:=s6.below (below_alloc1 wr o);unfold ItemsAt at h;rw [← hn5'] at h;exact h
    have HOWN:=Lib.hid hown0
    have HS:Hid (WakeSt w p v nx T now l.length wr (.slice a5 n5 c5) b pre l' v' ⟨xa,xs,xi⟩):=hr.out.2.2
    have HN5:=Lib.hid hn5'
    have HGO:=Lib.hid hgo
    have HX:=Lib.hid hx
    have H0:=Lib.hid h0
    have hn5b:n5 ≤ 100000:=by have:=HL.out;omega
    clear s1 s2 s3 s4 s5 s6 s7 s8 s9 s10 hok hn5' hgo hx hr hown0 h0 HEXIT
    go_wp2_with (at_builtin;go_loud (refine wpList_append_lies _ rfl _ _ 70 rfl 0 167 i0 _ 3 24 Tryz.underlying70 Hi.out Hz0.out Hz1.out Hz2.out rfl (by decide) _ n5 (icells pre) rfl (HOWN.out _) ⟨wr.heap.size,0,none⟩ 1 1 [.int .u64 xa,.int .u64 xs,.int .i64 xi] rfl rfl (three_new _ _ _ _ _ rfl) (by simp [Value.oneCell']) (by omega) (by unfold maxLen;omega) (by omega) (Nat.zero_le _) (wr.heap.size + 1) (by simp) ?_))
    intro g c2 w2 hown hgr hlies hglt
    obtain ⟨s1,s2,s3,s4,s5,s6,s7,s8,s9,s10⟩:=HS.out
    have hc1:Chg ((Value.slice a5 n5 c5).ownBlock.toList) wr w2:=(Chg.of_below (below_alloc1 _ _)).trans (grownBy_chg hgr) (fun x hx=>.inl hx)
    have hfl:∀ y ∈ foot p v',y < w.heap.size:=by rw [foot_eq s4];exact HFT.out
    have hH2:HeapAt w2 p v' l' nx:=s3.chg hc1 (fun hp=>by have:=(s7 p.b hp).1;have:=hfl p.b (by simp [foot]);omega) (fun y hy hy2=>by have:=(s7 y hy2).1;have:=hfl y (by simp only [foot,List.mem_cons];exact .inr hy);omega)
    have hB2:Blk w2 b (itc ⟨xa,xs,xi⟩):=s8.chg hc1 (fun hb=>(s7 b hb).2 rfl)
    have hI2:ItemsAt w2 (.slice (some ⟨g,0,none⟩) (n5 + 1) c2) (pre ++ [⟨xa,xs,xi⟩]):=by
     unfold ItemsAt
     rw [List.length_append,← HN5.out,icells_app];exact hown
    have hgw:w.heap.size ≤ g:=by
     rcases hlies with h | h
     ·exact (s7 g (by rw [h];simp)).1
     ·have:=s5.size;omega
    have hsz2:w.heap.size ≤ w2.heap.size:=Nat.le_trans s5.size hc1.size
    have hC2:Chg (foot p v) w w2:=s5.trans hc1 (fun y hy=>.inr (s7 y hy).1)
    have hbw:b < w2.heap.size:=hB2.lt (by simp [itc])
    have hrem:=remove_any w2 p v' l' nx 0 hH2 H0.out (by have:=HL.out;omega)
    rw [foot_eq s4] at hrem
    have HREM:=Lib.hid hrem
    have HI2:=Lib.hid hI2
    have HB2:=Lib.hid hB2
    have HC2:=Lib.hid hC2
    have HG:Hid (w.heap.size ≤ g ∧ w.heap.size ≤ b ∧ b < w2.heap.size ∧ g < w2.heap.size ∧ w.heap.size ≤ w2.heap.size):=⟨hgw,s9,hbw,hglt,hsz2⟩
    have HT2:Hid (v'.ownBlock = v.ownBlock ∧ pre.length + l'.length = l.length ∧ (pre ++ (wakes l' now).1,(wakes l' now).2) = T):=⟨s4,s2,s1⟩
    clear s1 s2 s3 s4 s5 s6 s7 s8 s9 s10 hc1 hfl hH2 hB2 hI2 hgw hC2 hrem hown hgr hlies hglt hbw hsz2 HOWN g0 g1 g2
    go_wp2_with fail
    refine HREM.out.mono ?_
    rintro r w3 ⟨v3,rfl,k1,k2,k3⟩
    have hB3:Blk w3 b (itc ⟨xa,xs,xi⟩):=HB2.out.chg k3 (fun hb=>by have:=HFT.out b hb;have:=HG.out.2.1;omega)
    have hI3:=HI2.out.chg k3 (fun y hy hy2=>by simp [Value.ownBlock] at hy;subst hy;have:=HFT.out y hy2;have:=HG.out.1;omega)
    obtain ⟨g0,-⟩:=hB3 0 _ rfl
    obtain ⟨g1,-⟩:=hB3 1 _ rfl
    obtain ⟨g2,-⟩:=hB3 2 _ rfl
    simp only at g0 g1 g2
    have hsz3:=k3.size
    have HB3:=Lib.hid hB3
    have HI3:=Lib.hid hI3
    have H3:=Lib.hid k1
    have HV3:=Lib.hid (k2.trans HT2.out.1)
    have HC3:=Lib.hid (HC2.out.trans0 k3)
    clear hB3 hI3 k1 k2 k3
    go_wp2_with fail
    obtain ⟨b',hb'⟩:∃ b',b' = w3.heap.size:=⟨_,rfl⟩
    have hNB:=Blk.mk w3 [.int .u64 xa,.int .u64 xs,.int .i64 xi] 167 b' hb'
    have hbel4:=below_alloc1 w3 (.cells #[.int .u64 xa,.int .u64 xs,.int .i64 xi] 167)
    refine (HMIN.out _ v3 _ (H3.out.below hbel4)).mono ?_
    rintro r w4 ⟨y,ok',rfl,e1,e2,b4⟩
    obtain ⟨ya,ys,yi⟩:=y
    unfold itv
    have hbx:w.heap.size ≤ b' ∧ g ≠ b':=⟨by have:=HG.out;omega,by have:=HG.out;omega⟩
    have hfoot:∀ y ∈ foot p v3,y ∉ [b']:=fun y hy hc=>by rw [foot_eq HV3.out] at hy;have:=HFT.out y hy;simp at hc;omega
    have hb34:=below_on hbel4 b4
    have hst:WakeSt w p v nx T now l.length (((w4.setCell ⟨b',0,none⟩ (.int .u64 ya)).setCell ⟨b',1,none⟩ (.int .u64 ys)).setCell ⟨b',2,none⟩ (.int .i64 yi)) (.slice (some ⟨g,0,none⟩) (n5 + 1) c2) b' (pre ++ [⟨xa,xs,xi⟩]) (remF l' 0) v3 ⟨ya,ys,yi⟩:=by
     have cs:Chg [b'] w4 (((w4.setCell ⟨b',0,none⟩ (.int .u64 ya)).setCell ⟨b',1,none⟩ (.int .u64 ys)).setCell ⟨b',2,none⟩ (.int .i64 yi)):=(((Chg.refl _ _).setCell _ (.inl (by simp))).setCell _ (.inl (by simp))).setCell _ (.inl (by simp))
     refine ⟨?_,?_,((H3.out.below hb34).chg cs (fun hp=>hfoot p.b (by simp [foot]) hp) (fun y hy=>hfoot y (by simp only [foot,List.mem_cons];exact .inr hy))),HV3.out,(HC3.out.trans0 (Chg.of_below hb34)).trans cs (fun y hy=>.inr (by simp at hy;omega)),(HI3.out.below hb34).chg cs (fun y hy=>by simp [Value.ownBlock] at hy;subst hy;simp;exact hbx.2),fun y hy=>?_,(((hNB.below b4).set 0 _).set 1 _).set 2 _,hbx.1,e2⟩
     ·rw [← HT2.out.2.2,HGO.out,← HX.out];simp
     ·have:=remF_len H0.out;have:=HT2.out.2.1;have:=H0.out;rw [List.length_append,List.length_singleton];omega
     ·simp [Value.ownBlock] at hy;subst hy;exact ⟨HG.out.1,hbx.2⟩
    obtain ⟨j0,m0⟩:=(hNB.below b4) 0 _ rfl
    obtain ⟨j1,m1⟩:=(hNB.below b4) 1 _ rfl
    obtain ⟨j2,m2⟩:=(hNB.below b4) 2 _ rfl
    have HST':=Lib.hid hst
    have hn6:n5 + 1 = (pre ++ [(⟨xa,xs,xi⟩:It)]).length:=by rw [List.length_append,← HN5.out];rfl
    have hn7:n5 + 1 ≤ l.length:=by have:=HT2.out.2.1;have:=H0.out;have:=HN5.out;omega
    have HF:Hid ((ok' = true ↔ 0 < (remF l' 0).length) ∧ n5 + 1 = (pre ++ [(⟨xa,xs,xi⟩:It)]).length ∧ WakeSt w p v nx T now l.length (((w4.setCell ⟨b',0,none⟩ (.int .u64 ya)).setCell ⟨b',1,none⟩ (.int .u64 ys)).setCell ⟨b',2,none⟩ (.int .i64 yi)) (.slice (some ⟨g,0,none⟩) (n5 + 1) c2) b' (pre ++ [⟨xa,xs,xi⟩]) (remF l' 0) v3 ⟨ya,ys,yi⟩):=⟨e1,hn6,HST'.out⟩
    rw [← hb']
    clear hst hb34 hfoot hbx b4 e1 e2 hNB hbel4 hb' hn6 hsz3 g0 g1 g2 HST'
    go_wp2
    exact ⟨⟨b',_,_,_,_,_,v3,ya,ys,yi,ok',rfl,rfl,rfl,hn7,HF⟩,by simp [lenV];omega⟩
   ·have hE:=HEXIT.out (fun h=>by rw [← hx] at h;exact hat h.2)
    have HE:=Lib.hid hE
    have hng:¬ xa ≤ now:=hat
    clear hE hok s1 s2 s3 s4 s5 s6 s7 s8 s9 s10 hn5' hr hx h0 hat
    go_wp2
    go_ret
    exact HE.out
def MapAt (w:World) (r:Nat) (es:List MapEntry) (c:Nat):Prop:=w.heap[r]? = some (.map es.toArray c)
theorem MapAt.lt {w:World} {r c:Nat} {es:List MapEntry} (h:MapAt w r es c):r < w.heap.size:=(Array.getElem?_eq_some_iff.1 h).1
theorem run_mapUpdate_new {P:Program} {w:World} {mty kt et:TypeId} {r c:Nat} {n:Int} {val:Value} {es:List MapEntry} (hm:P.underlying mty = some (.map kt et)) (hk:P.underlying kt = some (.int .i64)) (hb:MapAt w r es c)
  (hf:Instr.findNow (.int .i64) (.int .i64 n) es 0 = some none) :
  (Instr.mapUpdate mty (.map (some r)) (.int .i64 n) val).run P w = .ok () { w with heap:=w.heap.setIfInBounds r (.map (es ++ [(⟨.int .i64 n,val,c⟩:MapEntry)]).toArray (c + 1)) }:=by
 have hc:(Instr.checkKey false 10000 kt (.int .i64 n)).run P w = .ok () w:=MapKept.run_checkKey (k:=.int .i64 n) hk (by simp [MapKept.IsKey]) false 9999
 have hb':w.heap[r]? = some (.map es.toArray c):=hb
 simp [Instr.mapUpdate,run_underlying hm,MapKept.run_getObj_map hb',hc,MapKept.run_findKey hk hf,MapKept.run_setObj_map _ hb',Result.andThen]
theorem wpList_insert_new {P:Program} {w:World} {ops:Array Oper} {rest:List Oper} {o:Oper} {a:Act} {Q:Exit → Act → World → Prop}
  (hg:o.guard = none) (m x v:Operand) (t:TypeId) (hop:o.op = Op.insert t m x v) {kt et:TypeId} {r c:Nat} (n:Int) (val:Value) (es:List MapEntry) (hm:P.underlying t = some (.map kt et)) (hk:P.underlying kt = some (.int .i64))
  (he:a.eval m = .map (some r)) (hx:a.eval x = .int .i64 n) (hv:a.eval v = val) (hb:MapAt w r es c) (hf:Instr.findNow (.int .i64) (.int .i64 n) es 0 = some none)
  (hK:∀ w',MapAt w' r (es ++ [(⟨.int .i64 n,val,c⟩:MapEntry)]) (c + 1) → Chg [r] w w' → wpList P ops Q rest (a.put o.dst undef) w'):wpList P ops Q (o :: rest) a w:=by
 refine wpList_plain hg fun K' hK'=>?_
 have hrun:=run_mapUpdate_new (P:=P) (w:=w) (n:=n) (val:=val) hm hk hb hf
 unfold Oper.wp
 simp [execOp,hop,he,hx,hv,hrun,Result.andThen]
 refine hK' _ _ (by
  have h:=hK { w with heap:=w.heap.setIfInBounds r (.map (es ++ [(⟨.int .i64 n,val,c⟩:MapEntry)]).toArray (c + 1)) } ?_ ?_
  ·simpa using h
  ·unfold MapAt;simp [hb.lt]
  ·refine ⟨rfl,rfl,rfl,by simp,fun k hk hn=>?_⟩
   simp [Array.getElem?_setIfInBounds]
   intro e;subst e;simp at hn)
def fnv (k:Nat):Value:=.func (.func k) #[] #[]
def tableEs:List MapEntry:=[⟨.int .i64 0,fnv 118,0⟩,⟨.int .i64 1,fnv 119,1⟩,⟨.int .i64 2,fnv 120,2⟩,⟨.int .i64 3,fnv 121,3⟩,
 ⟨.int .i64 4,fnv 122,4⟩,⟨.int .i64 5,fnv 123,5⟩,⟨.int .i64 6,fnv 124,6⟩,⟨.int .i64 7,fnv 125,7⟩,⟨.int .i64 8,fnv 126,8⟩]
theorem alone_any (w:World):Calls Tryz.prog 101 #[] w fun e w'=>e = .returned (.map (some w.heap.size)) ∧ MapAt w' w.heap.size tableEs 9 ∧ Below w.heap.size w w':=by
 have hmm:∀ (w:World),(Instr.makeMap 201 none).run Tryz.prog w = .ok (.map (some w.heap.size)) (w.alloc (.map #[] 0)):=fun w=>run_makeMap_plain w _
 have h0:MapAt (w.alloc (.map #[] 0)) w.heap.size [] 0:=heap_alloc_new w _
 have b0:Below w.heap.size w (w.alloc (.map #[] 0)):=below_alloc1 _ _
 have st:∀ w1 w2:World,Below w.heap.size w w1 → Chg [w.heap.size] w1 w2 → Below w.heap.size w w2:=fun _ _ h c=>Chg.below h c (fun x hx=>by simp at hx;omega)
 have ST:=Lib.hid st
 clear st
 go_enter Tryz.func101,Tryz.ntmps101
 go_wp2_with (refine wpList_insert_new rfl _ _ _ 201 rfl _ _ _ Tryz.underlying201 Tryz.underlying27 (by rfl) (by rfl) (by rfl) (by assumption) (by rfl) ?_;intro w1 h1 c1;have b1:=ST.out _ _ (by assumption) c1;clear c1)
 go_ret
 exact ⟨rfl,h1,b1⟩
def newF (fn arg into:Int):List Int:=[fn,0,arg,0,0,0,0,0,0,0,into]
structure StkAt (w:World) (g n cap:Nat) (z:List Int):Prop where
 len:z.length = n * 11
 room:n ≤ cap
 lt:g < w.heap.size
 blk:Blk w g (intc z)
theorem StkAt.chg {F:List Nat} {w w':World} {g n cap:Nat} {z:List Int} (h:StkAt w g n cap z) (c:Chg F w w') (hg:g ∉ F):StkAt w' g n cap z :=
 ⟨h.len,h.room,Nat.lt_of_lt_of_le h.lt c.size,h.blk.chg c hg⟩
theorem StkAt.below {w w':World} {g n cap:Nat} {z:List Int} (h:StkAt w g n cap z) (hb:Below w.heap.size w w'):StkAt w' g n cap z:=h.chg (Chg.of_below (F:=[]) hb) (by simp)
theorem StkAt.cell {w:World} {g n cap:Nat} {z:List Int} (h:StkAt w g n cap z) (j:Nat) (hj:j < n * 11):∃ x,z[j]? = some x ∧ w.cell? ⟨g,j,none⟩ = some (.int .i64 x) ∧ w.frozen? ⟨g,j,none⟩ = false:=by
 have hl:j < z.length:=by rw [h.len];exact hj
 obtain ⟨h1,h2⟩:=h.blk j _ (intc_at z j hl)
 exact ⟨z[j],List.getElem?_eq_getElem hl,h1,h2⟩
theorem StkAt.at {w:World} {g n cap:Nat} {z:List Int} (h:StkAt w g n cap z) {j:Nat} {x:Int} (hj:z[j]? = some x):w.cell? ⟨g,j,none⟩ = some (.int .i64 x) ∧ w.frozen? ⟨g,j,none⟩ = false :=
 h.blk j _ (by rw [intc_get,hj];rfl)
theorem StkAt.set {w:World} {g n cap:Nat} {z:List Int} (h:StkAt w g n cap z) (k:Nat) (x:Int):StkAt (w.setCell ⟨g,k,none⟩ (.int .i64 x)) g n cap (z.set k x) :=
 ⟨by rw [List.length_set];exact h.len,h.room,by rw [World.size_setCell];exact h.lt,by
  have:=h.blk.set k (.int .i64 x)
  have e:intc (z.set k x) = (intc z).set k (.int .i64 x):=by unfold intc;rw [List.map_set]
  rw [e];exact this⟩
theorem StkAt.take {w:World} {g n cap:Nat} {z:List Int} (h:StkAt w g n cap z) (m:Nat) (hm:m ≤ n):StkAt w g m cap (z.take (m * 11)) :=
 ⟨by rw [List.length_take,h.len];omega,by have:=h.room;omega,h.lt,fun j v hj=>by
  rw [intc_get,List.getElem?_take] at hj
  split at hj
  ·exact h.blk j v (by rw [intc_get];exact hj)
  ·simp at hj⟩
theorem StkAt.of_own {w:World} {base n g cap:Nat} {e:TypeId} {z:List Int} (h:w.ownsRow base e 11 (.slice (some ⟨g,0,none⟩) n cap) n (intc z)):StkAt w g n cap z:=by
 have hl:z.length = n * 11:=by have:=h.1;rw [intc_len] at this;exact this
 rcases h.2 with ⟨hv,_⟩ | ⟨g',cap',cur,hv,hb,hg,h1,h2,h3,h4⟩
 ·simp at hv
 ·simp only [Value.slice.injEq,Option.some.injEq,Addr.mk.injEq,and_true,true_and] at hv
  obtain ⟨rfl,rfl⟩:=hv
  refine ⟨hl,h1,(Array.getElem?_eq_some_iff.1 hg).1,fun j v hj=>?_⟩
  have hj':cur[j]? = some v:=by
   rw [← h4,List.getElem?_take] at hj
   split at hj
   ·simpa using hj
   ·simp at hj
  constructor
  ·rw [cell_of_row _ _ _ _ _ _ hg];exact hj'
  ·simp [World.frozen?,hg]
def newV (fn arg into:Int):Value:=.agg #[.int .i64 fn,.int .i64 0,.int .i64 arg,.int .i64 0,.int .i64 0,.int .i64 0,.int .i64 0,.int .i64 0,.int .i64 0,.int .i64 0,.int .i64 into]
theorem first_any (fn arg into:Int) (w:World):Calls Tryz.prog 61 #[.int .i64 fn,.int .i64 arg,.int .i64 into] w fun e w'=>e = .returned (.agg #[.int .i64 fn,.int .i64 0,.int .i64 arg,.int .i64 0,.int .i64 0,.int .i64 0,.int .i64 0,.int .i64 0,.int .i64 0,.int .i64 0,.int .i64 into]) ∧ Below w.heap.size w w':=by
 go_enter Tryz.func61,Tryz.ntmps61
 go_wp2_with fail
 exact bodyPost_ret (v:=newV fn arg into) (by simp [results,Tryz.results61,go_sem,newV]) rfl ⟨rfl,below_alloc1 _ _⟩
theorem begin_any (fn arg:Int) (w:World):Calls Tryz.prog 53 #[.int .i64 fn,.int .i64 arg] w fun e w'=>∃ g,e = .returned (.slice (some ⟨g,0,none⟩) 1 1) ∧ w.heap.size ≤ g ∧ StkAt w' g 1 1 (newF fn arg 0) ∧ Below w.heap.size w w':=by
 go_enter Tryz.func53,Tryz.ntmps53
 go_wp2_with (go_at_call 61;refine (first_any _ _ _ _).mono ?_;rintro e w1 ⟨rfl,hb1⟩)
 go_ret
 exact ⟨w1.heap.size,rfl,hb1.size,⟨rfl,Nat.le_refl _,by simp,Blk.mk w1 (intc (newF fn arg 0)) _ _ rfl⟩,below_on hb1 (below_alloc1 _ _)⟩
theorem top_any (g m cap:Nat) (w:World) (hm:m ≤ 1000):Calls Tryz.prog 83 #[.slice (some ⟨g,0,none⟩) (m + 1) cap] w fun e w'=>e = .returned (.pointer (some ⟨g,m * 11,none⟩)) ∧ w' = w:=by
 go_enter Tryz.func83,Tryz.ntmps83
 go_wp2_with fail
 go_ret
 exact ⟨rfl,rfl⟩
theorem top_two (g m cap:Nat) (w:World) (hm:m ≤ 1000):Calls Tryz.prog 83 #[.slice (some ⟨g,0,none⟩) (m + 2) cap] w fun e w'=>e = .returned (.pointer (some ⟨g,(m + 1) * 11,none⟩)) ∧ w' = w:=by
 have h2:((m:Int) + 2 - 1).toNat = m + 1:=by omega
 go_enter Tryz.func83,Tryz.ntmps83
 go_wp2_with fail
 go_ret
 exact ⟨rfl,rfl⟩
theorem info_frame:(Tryz.prog.info? 163).map (fun i=>(i.zero,i.size,i.bytes)) = some (some (.agg #[.int .i64 0,.int .i64 0,.int .i64 0,.int .i64 0,.int .i64 0,.int .i64 0,.int .i64 0,.int .i64 0,.int .i64 0,.int .i64 0,.int .i64 0]),11,88):=by kernel_rfl
theorem own_form {w:World} {base size n:Nat} {e:TypeId} {v:Value} {xs:List Value} (h:w.ownsRow base e size v n xs) (hn:0 < n):∃ g cap,v = .slice (some ⟨g,0,none⟩) n cap:=by
 rcases h.2 with ⟨_,h0⟩ | ⟨g,cap,cur,hv,_⟩
 ·omega
 ·exact ⟨g,cap,hv⟩
theorem append_stk {w:World} {g n c0 cap m c:Nat} {z z2:List Int} (h:StkAt w g n cap z) (ad:Addr) (hl:z2.length = m * 11) (hc:∀ j u,(intc z2)[j]? = some u → w.cell? (ad.add j) = some u) (hg:c0 < n + m) (hm:n + m ≤ 1000) :
  ∃ g' cap' w',(Builtin.append_ #[86,86] 86 #[.slice (some ⟨g,0,none⟩) n c0,.slice (some ad) m c]).run Tryz.prog w = .ok (.slice (some ⟨g',0,none⟩) (n + m) cap') w' ∧ StkAt w' g' (n + m) cap' (z ++ z2) ∧ w.heap.size ≤ g' ∧ Below w.heap.size w w':=by
 obtain ⟨i0,hi0,hz0,hz1,hz2⟩:=info_parts info_frame
 obtain ⟨v',w',hr,h1,h2⟩:=run_append_arg_grows (P:=Tryz.prog) w 86 86 163 i0 _ 11 88 Tryz.underlying86 hi0 hz0 hz1 hz2 rfl (by decide) ⟨g,0,none⟩ n c0 (intc z) (by rw [intc_len,h.len]) (fun j u hj=>by rw [Addr.add_lit,Nat.zero_add];exact (h.blk j u hj).1) ad m c (intc z2) (by rw [intc_len,hl]) hc hg (by unfold maxLen;omega) (by omega)
 obtain ⟨g',cap',rfl⟩:=own_form h1 (by omega)
 rw [← intc_app] at h1
 refine ⟨g',cap',w',hr,.of_own h1,?_,(grownBy_chg h2).to_below (by simp) (Nat.le_refl _)⟩
 rcases h1.2 with ⟨hv,_⟩ | ⟨g2,cp,cur,hv,hb,_⟩
 ·simp at hv
 ·simp only [Value.slice.injEq,Option.some.injEq,Addr.mk.injEq] at hv
  omega
theorem step_append_stk {w:World} {ops:Array Oper} {o:Oper} {ac:Act} {K:Act → World → Prop} {Q:Exit → Act → World → Prop} {E:Prop} (hgd:o.guard = none) (sl x:Operand) (hty:o.type = 86)
  (ho:o.op = .call { callee:=.builtin .append,args:=#[sl,x],argTypes:=#[86,86] }) {g n c0 cap m c:Nat} {z z2:List Int} (ad:Addr) (hs:ac.eval sl = .slice (some ⟨g,0,none⟩) n c0) (hx:ac.eval x = .slice (some ad) m c)
  (ha:StkAt w g n cap z) (hl:z2.length = m * 11) (hc:∀ j u,(intc z2)[j]? = some u → w.cell? (ad.add j) = some u) (hg:c0 < n + m) (hm:n + m ≤ 1000)
  (h:∀ g' cap' w',StkAt w' g' (n + m) cap' (z ++ z2) → w.heap.size ≤ g' → Below w.heap.size w w' → K (ac.put o.dst (.slice (some ⟨g',0,none⟩) (n + m) cap')) w'):if Region.wanted o (yielded ops ac.tmps) = true then Oper.wp Tryz.prog o ac w K Q else E:=by
 have hw:Region.wanted o (yielded ops ac.tmps) = true:=by simp [Region.wanted,hgd]
 rw [if_pos hw]
 obtain ⟨g',cap',w',hr,h2,h3,h4⟩:=append_stk (w:=w) (c:=c) ha ad hl hc hg hm
 unfold Oper.wp execOp
 simp only [ho,resolve,invoke,builtin,Sem.run_bind,Sem.run_pure,Result.andThen_ok,List.map_toArray,List.map_cons,List.map_nil,hs,hx,hty,hr]
 exact h g' cap' w' h2 h3 h4
theorem wpList_append_stk {w:World} {ops:Array Oper} {rest:List Oper} {o:Oper} {a:Act} {Q:Exit → Act → World → Prop} (hgd:o.guard = none) (sl x:Operand) (hty:o.type = 86)
  (ho:o.op = .call { callee:=.builtin .append,args:=#[sl,x],argTypes:=#[86,86] }) {g n c0 cap m c:Nat} {z z2:List Int} (ad:Addr) (hs:a.eval sl = .slice (some ⟨g,0,none⟩) n c0) (hx:a.eval x = .slice (some ad) m c)
  (ha:StkAt w g n cap z) (hl:z2.length = m * 11) (hc:∀ j u,(intc z2)[j]? = some u → w.cell? (ad.add j) = some u) (hg:c0 < n + m) (hm:n + m ≤ 1000)
  (h:∀ g' cap' w',StkAt w' g' (n + m) cap' (z ++ z2) → w.heap.size ≤ g' → Below w.heap.size w w' → wpList Tryz.prog ops Q rest (a.put o.dst (.slice (some ⟨g',0,none⟩) (n + m) cap')) w'):wpList Tryz.prog ops Q (o :: rest) a w:=by
 refine wpList_plain hgd fun K hK=>?_
 obtain ⟨g',cap',w',hr,h2,h3,h4⟩:=append_stk (w:=w) (c:=c) ha ad hl hc hg hm
 unfold Oper.wp execOp
 simp only [ho,resolve,invoke,builtin,Sem.run_bind,Sem.run_pure,Result.andThen_ok,List.map_toArray,List.map_cons,List.map_nil,hs,hx,hty,hr]
 exact hK _ _ (h g' cap' w' h2 h3 h4)
theorem sclone_any (g n cap:Nat) (z:List Int) (w:World) (h:StkAt w g n cap z) (h1:1 ≤ n) (h2:n ≤ 1000):Calls Tryz.prog 150 #[.slice (some ⟨g,0,none⟩) n cap] w fun e w'=>∃ g' cap',e = .returned (.slice (some ⟨g',0,none⟩) n cap') ∧ w.heap.size ≤ g' ∧ StkAt w' g' n cap' z ∧ Below w.heap.size w w':=by
 have he:∀ w:World,(binOp .eql 86 (.slice (some ⟨g,0,none⟩) n cap) (.slice none 0 0)).run Tryz.prog w = .ok (.bool false) w:=fun _=>rfl
 have h0:StkAt (w.alloc (.cells #[] 163)) w.heap.size 0 0 []:=⟨rfl,Nat.le_refl _,by simp,fun j v hj=>by simp [intc] at hj⟩
 have hc:∀ j u,(intc z)[j]? = some u → (w.alloc (.cells #[] 163)).cell? ((⟨g,0,none⟩:Addr).add j) = some u:=fun j u hj=>by rw [Addr.add_lit,Nat.zero_add];exact cell_below (h.blk j u hj).1 (below_alloc1 _ _)
 have H0:=Lib.hid h0
 have HC:=Lib.hid hc
 have H:=Lib.hid h
 clear h h0 hc
 go_enter Tryz.func150,Tryz.ntmps150
 go_wp2_with (at_builtin;go_loud (refine wpList_append_stk rfl _ _ rfl rfl (z:=[]) (z2:=z) _ rfl rfl H0.out H.out.len HC.out (by omega) (by omega) ?_);intro g1 c1 w1 k1 k2 k3)
 go_ret
 exact ⟨g1,c1,by simp,Nat.le_trans (by simp) k2,by simpa using k1,below_on (below_alloc1 _ _) k3⟩
theorem stkclone_any (g n cap:Nat) (z:List Int) (w:World) (h:StkAt w g n cap z) (h1:1 ≤ n) (h2:n ≤ 1000):Calls Tryz.prog 140 #[.slice (some ⟨g,0,none⟩) n cap] w fun e w'=>∃ g' cap',e = .returned (.slice (some ⟨g',0,none⟩) n cap') ∧ w.heap.size ≤ g' ∧ StkAt w' g' n cap' z ∧ Below w.heap.size w w':=by
 go_enter Tryz.func140,Tryz.ntmps140
 go_wp2_with (go_at_call 150;refine (sclone_any _ _ _ _ _ h h1 h2).mono ?_;rintro e w1 ⟨g',cap',rfl,hg,hs,hb⟩)
 go_ret
 exact ⟨g',cap',rfl,hg,hs,hb⟩
theorem call_any (g n cap:Nat) (z:List Int) (fn arg into:Int) (w:World) (h:StkAt w g n cap z) (h1:1 ≤ n) (h2:n ≤ 15):Calls Tryz.prog 127 #[.slice (some ⟨g,0,none⟩) n cap,.int .i64 fn,.int .i64 arg,.int .i64 into] w fun e w'=>∃ g' cap',e = .returned (.tuple #[.slice (some ⟨g',0,none⟩) (n + 1) cap',.bool true]) ∧ w.heap.size ≤ g' ∧ StkAt w' g' (n + 1) cap' (z ++ newF fn arg into) ∧ Below w.heap.size w w':=by
 have hroom:=h.room
 have H:=Lib.hid h
 have HB:=Lib.hid (Below.refl w.heap.size w)
 clear h
 go_enter Tryz.func127,Tryz.ntmps127
 go_upto_region 3 with fail
 go_region_held3 (fun w'=>Below w.heap.size w w') (first | exact below_drew1 _ | assumption | (refine below_on ?_ (below_alloc1 _ _);assumption) | (refine below_on ?_ ‹_›;assumption))
  (first
   | (refine step_append_stk (by rfl) _ _ (by rfl) (by rfl) (z:=z) (z2:=newF fn arg into) _ (by rfl) (by rfl) (H.out.below (by assumption)) (by rfl) (fun j u hj=>by rw [Addr.add_lit,Nat.zero_add];exact (Blk.mk _ (intc (newF fn arg into)) _ _ rfl j u hj).1) (by omega) (by omega) ?_;intro g1 c1 w1 k1 k2 k3)
   | (go_at_call 61;refine (first_any _ _ _ _).mono ?_;rintro e w1 ⟨rfl,hb1⟩))
 go_wp2_with fail
 go_ret2
 exact ⟨g1,c1,rfl,by have:=hb1.size;simp at k2 this;omega,k1,by assumption⟩
theorem call_deep (g cap:Nat) (z:List Int) (fn arg into:Int) (w:World) (h:StkAt w g 16 cap z):Calls Tryz.prog 127 #[.slice (some ⟨g,0,none⟩) 16 cap,.int .i64 fn,.int .i64 arg,.int .i64 into] w fun e w'=>∃ g' cap',e = .returned (.tuple #[.slice (some ⟨g',0,none⟩) 16 cap',.bool false]) ∧ Below w.heap.size w w':=by
 have H:=Lib.hid h
 clear h
 go_enter Tryz.func127,Tryz.ntmps127
 go_wp2_with (go_at_call 140;refine (stkclone_any _ _ _ _ _ H.out (by omega) (by omega)).mono ?_;rintro e w1 ⟨g',cap',rfl,hg,hs,hb⟩)
 go_ret2
 exact ⟨g',cap',rfl,hb⟩
theorem return_none (g cap:Nat) (v:Int) (w:World):Calls Tryz.prog 128 #[.slice (some ⟨g,0,none⟩) 1 cap,.int .i64 v] w fun e w'=>e = .returned (.tuple #[.slice none 0 0,.bool false]) ∧ w = w':=by
 go_enter Tryz.func128,Tryz.ntmps128
 go_wp2_with fail
 go_ret2
 exact ⟨rfl,rfl⟩
theorem return_any (g m cap:Nat) (z:List Int) (v:Int) (k:Nat) (w:World) (h:StkAt w g (m + 2) cap z) (h2:m ≤ 14) (hk:z[m * 11 + 21]? = some (k:Int)) (hk8:k < 8) :
  Calls Tryz.prog 128 #[.slice (some ⟨g,0,none⟩) (m + 2) cap,.int .i64 v] w fun e w'=>∃ g' cap',e = .returned (.tuple #[.slice (some ⟨g',0,none⟩) (m + 1) cap',.bool true]) ∧ w.heap.size ≤ g' ∧ StkAt w' g' (m + 1) cap' ((z.take ((m + 1) * 11)).set (m * 11 + 2 + k) v) ∧ Below w.heap.size w w':=by
 have hroom:=h.room
 have H:=Lib.hid h
 have HK:=Lib.hid hk
 clear h hk
 go_enter Tryz.func128,Tryz.ntmps128
 go_wp2_with (go_at_call 140;refine (stkclone_any _ _ _ _ _ (H.out.take (m + 1) (by omega)) (by omega) (by omega)).mono ?_;rintro e w1 ⟨g',cap',rfl,hg,hs,hb⟩)
 obtain ⟨g0,-⟩:=(H.out.below hb).at HK.out
 have g0':w1.cell? ⟨g,(m + 1) * 11 + 10,none⟩ = some (.int .i64 (k:Int)):=by rw [show (m + 1) * 11 + 10 = m * 11 + 21 by omega];exact g0
 obtain ⟨x,hx,y0,y1⟩:=hs.cell (m * 11 + 2 + k) (by omega)
 have k0:(0:Int) ≤ (k:Int):=by omega
 have k8:(k:Int) < 8:=by omega
 have HS:=Lib.hid hs
 have HB:=Lib.hid hb
 have HG:=Lib.hid hg
 clear g0 hs hb hg hx
 refine wp_region_still_tail 11 (by kernel_rfl) (by kernel_rfl) ?_
 simp only [List.take_succ_cons,List.take_zero,List.drop_succ_cons,List.drop_zero]
 still_step
 still_call (top_any g' m cap' _ (by omega))
 still_step
 still_call (top_two g m cap _ (by omega))
 repeat still_step
 refine wpStill_nil ?_
 go_wp2_with fail
 go_ret2
 exact ⟨g',cap',rfl,HG.out,(HS.out.below (below_drew1 _)).set _ _,HB.out.drew.setCell HG.out _⟩
def LockAt (w:World) (p:Nat) (L:List Int) (F:List Nat):Prop :=
 ∃ a cap,F = p :: blk a ∧ p ∉ blk a ∧ Blk w p [.bool (!L.isEmpty),.int .i64 (L.headD 0),.slice a L.tail.length cap] ∧ RowAt w a cap L.tail
theorem LockAt.chg {w w':World} {p:Nat} {L:List Int} {F G:List Nat} (h:LockAt w p L F) (c:Chg G w w') (hd:∀ x ∈ F,x ∉ G):LockAt w' p L F:=by
 obtain ⟨a,cap,rfl,h2,h3,h4⟩:=h
 exact ⟨a,cap,rfl,h2,h3.chg c (hd p (by simp)),h4.chg c (fun x hx=>hd x (by simp [hx]))⟩
theorem LockAt.lt {w:World} {p:Nat} {L:List Int} {F:List Nat} (h:LockAt w p L F):∀ x ∈ F,x < w.heap.size:=by
 obtain ⟨a,cap,rfl,h2,h3,h4⟩:=h
 intro x hx
 simp at hx
 rcases hx with rfl | hx
 ·exact h3.lt (by simp)
 ·exact h4.lt x hx
def LockA (p:Nat) (L:List Int):Asr where
 at_ w F:=LockAt w p L F
 lt:=fun h=>h.lt
 chg:=fun h c d=>h.chg c d
theorem knew_any (w:World):Calls Tryz.prog 43 #[] w fun r w'=>∃ p,r = .returned (.pointer (some ⟨p,0,none⟩)) ∧ LockAt w' p [] [p] ∧ w.heap.size ≤ p ∧ Below w.heap.size w w':=by
 have hf:LockAt (w.alloc (.cells #[.bool false,.int .i64 0,.slice none 0 0] 148)) w.heap.size [] [w.heap.size] ∧ w.heap.size ≤ w.heap.size ∧ Below w.heap.size w (w.alloc (.cells #[.bool false,.int .i64 0,.slice none 0 0] 148)) :=
  ⟨⟨none,0,rfl,by simp [blk],Blk.mk w [.bool false,.int .i64 0,.slice none 0 0] _ _ rfl,RowAt.nil _⟩,Nat.le_refl _,below_alloc1 _ _⟩
 have HF:=Lib.hid hf;clear hf
 go_enter Tryz.func43,Tryz.ntmps43
 go_wp2
 go_ret
 exact ⟨_,rfl,HF.out⟩
theorem ktake_any (w:World) (p:Nat) (L:List Int) (F:List Nat) (g:Int) (h:LockAt w p L F) (hl:L.length ≤ 1000000) :
  Calls Tryz.prog 136 #[.pointer (some ⟨p,0,none⟩),.int .i64 g] w fun r w'=>r = .returned (.bool L.isEmpty) ∧ ∃ F',LockAt w' p (L ++ [g]) F' ∧ Chg F w w' ∧ ∀ x ∈ F',x ∈ F ∨ w.heap.size ≤ x:=by
 have hFlt:=h.lt
 obtain ⟨a,cap,rfl,h2,h3,h4⟩:=h
 cases L with
 | nil =>
  obtain ⟨g0,f0⟩:=h3 0 _ rfl
  obtain ⟨g1,f1⟩:=h3 1 _ rfl
  simp only [List.isEmpty_nil,Bool.not_true,List.headD_nil,List.tail_nil,List.length_nil] at g0 g1 h3 h4 ⊢
  have c:Chg [p] w ((w.setCell ⟨p,0,none⟩ (.bool true)).setCell ⟨p,1,none⟩ (.int .i64 g)):=((Chg.refl _ _).setCell _ (.inl (by simp))).setCell _ (.inl (by simp))
  have hf:∃ F',LockAt ((w.setCell ⟨p,0,none⟩ (.bool true)).setCell ⟨p,1,none⟩ (.int .i64 g)) p ([] ++ [g]) F' ∧ Chg (p :: blk a) w ((w.setCell ⟨p,0,none⟩ (.bool true)).setCell ⟨p,1,none⟩ (.int .i64 g)) ∧ ∀ x ∈ F',x ∈ p :: blk a ∨ w.heap.size ≤ x :=
   ⟨p :: blk a,⟨a,cap,rfl,h2,(h3.set 0 _).set 1 _,h4.chg c (fun x hx=>by simp;intro e;subst e;exact h2 hx)⟩,c.mono (fun x hx=>by simp at hx;simp [hx]),fun x hx=>.inl hx⟩
  have HF:=Lib.hid hf;clear hf c h2 h3 h4 hFlt
  go_enter Tryz.func136,Tryz.ntmps136
  go_wp2
  go_ret
  exact ⟨rfl,HF.out⟩
 | cons x t =>
  obtain ⟨g0,f0⟩:=h3 0 _ rfl
  obtain ⟨g2,f2⟩:=h3 2 _ rfl
  simp only [List.isEmpty_cons,Bool.not_false,List.headD_cons,List.tail_cons,List.length_cons] at g0 g2 h3 h4 hl ⊢
  obtain ⟨i0,hi0,hz0,hz1,hz2⟩:=info_parts info_int
  have Hi:=Lib.hid hi0;clear hi0
  have Hz0:=Lib.hid hz0;clear hz0
  have Hz1:=Lib.hid hz1;clear hz1
  have Hz2:=Lib.hid hz2;clear hz2
  have H2:=Lib.hid h2
  have H3:=Lib.hid h3
  have H4:=Lib.hid h4
  have HL:=Lib.hid hFlt
  clear h2 h3 h4 hFlt
  go_enter Tryz.func136,Tryz.ntmps136
  go_wp2_with (at_builtin;refine wpList_append_row (l:=t) (m:=[g]) rfl _ _ 22 rfl 3 i0 _ Tryz.underlying22 Hi.out Hz0.out Hz1.out Hz2.out rfl rfl rfl rfl rfl (H4.out.below (below_alloc1 _ _)) (RowAt.one _ _ _ rfl).ints (by simp only [List.length_singleton];omega) ?_)
  intro a1 c1 w1 k1 ch1 f1
  have hb:=(H3.out.below (below_alloc1 w (.cells #[.int .i64 g] 3))).chg ch1 H2.out
  obtain ⟨g3,f3⟩:=hb 2 _ rfl
  have hp1:p ∉ blk a1:=fun hx=>by
   rcases f1 p hx with h | h
   ·exact H2.out h
   ·have:=HL.out p (by simp);first | omega | (simp at h;omega)
  have cs:Chg [p] w1 (w1.setCell ⟨p,2,none⟩ (.slice a1 (t.length + 1) c1)):=(Chg.refl _ _).setCell _ (.inl (by simp))
  have hf:∃ F',LockAt (w1.setCell ⟨p,2,none⟩ (.slice a1 (t.length + 1) c1)) p (x :: t ++ [g]) F' ∧ Chg (p :: blk a) w (w1.setCell ⟨p,2,none⟩ (.slice a1 (t.length + 1) c1)) ∧ ∀ x ∈ F',x ∈ p :: blk a ∨ w.heap.size ≤ x:=by
   refine ⟨p :: blk a1,⟨a1,c1,rfl,hp1,?_,k1.chg cs (fun x hx=>by simp;intro e;subst e;exact hp1 hx)⟩,?_,fun y hy=>?_⟩
   ·simp only [List.cons_append,List.isEmpty_cons,Bool.not_false,List.headD_cons,List.tail_cons,List.length_append,List.length_singleton]
    exact hb.set 2 _
   ·exact ((Chg.of_below (F:=p :: blk a) (below_alloc1 w (.cells #[.int .i64 g] 3))).trans ch1 (fun y hy=>.inl (by simp [hy]))).trans cs (fun y hy=>.inl (by simp at hy;simp [hy]))
   ·simp at hy
    rcases hy with rfl | hy
    ·simp
    ·rcases f1 y hy with h | h
     ·simp [h]
     ·exact .inr (by first | omega | (simp at h;omega))
  have HF:=Lib.hid hf
  clear hf cs hp1 hb k1 ch1 f1
  go_wp2
  go_ret
  exact ⟨rfl,HF.out⟩
def gaveL (L:List Int) (g:Int):List Int:=match L with
 | []=>[]
 | x :: t=>if x = g then t else x :: t
def gaveR (L:List Int) (g:Int):Int × Int:=match L with
 | []=>(-1,5)
 | x :: t=>if x = g then (t.headD (-1),0) else (-1,5)
theorem kgive_any (w:World) (p:Nat) (L:List Int) (F:List Nat) (g:Int) (h:LockAt w p L F) :
  Calls Tryz.prog 137 #[.pointer (some ⟨p,0,none⟩),.int .i64 g] w fun r w'=>r = .returned (.tuple #[.int .i64 (gaveR L g).1,.int .i64 (gaveR L g).2]) ∧ ∃ F',LockAt w' p (gaveL L g) F' ∧ Chg F w w' ∧ ∀ x ∈ F',x ∈ F ∨ w.heap.size ≤ x:=by
 have h0:=h
 obtain ⟨a,cap,rfl,h2,h3,h4⟩:=h
 cases L with
 | nil =>
  obtain ⟨g0,f0⟩:=h3 0 _ rfl
  simp only [List.isEmpty_nil,Bool.not_true] at g0
  unfold gaveR gaveL
  have H0:=Lib.hid h0
  clear h0 h2 h3 h4
  go_enter Tryz.func137,Tryz.ntmps137
  go_wp2
  go_ret2
  exact ⟨rfl,_,H0.out,Chg.refl _ _,fun x hx=>.inl hx⟩
 | cons x t =>
  obtain ⟨g0,f0⟩:=h3 0 _ rfl
  obtain ⟨g1,f1⟩:=h3 1 _ rfl
  obtain ⟨g2,f2⟩:=h3 2 _ rfl
  simp only [List.isEmpty_cons,Bool.not_false,List.headD_cons,List.tail_cons] at g0 g1 g2 h3 h4
  unfold gaveR gaveL
  by_cases hx:x = g
  ·subst hx
   simp only [if_true]
   cases t with
   | nil =>
    have c:Chg [p] w ((w.setCell ⟨p,0,none⟩ (.bool false)).setCell ⟨p,1,none⟩ (.int .i64 0)):=((Chg.refl _ _).setCell _ (.inl (by simp))).setCell _ (.inl (by simp))
    have hf:∃ F',LockAt ((w.setCell ⟨p,0,none⟩ (.bool false)).setCell ⟨p,1,none⟩ (.int .i64 0)) p [] F' ∧ Chg (p :: blk a) w ((w.setCell ⟨p,0,none⟩ (.bool false)).setCell ⟨p,1,none⟩ (.int .i64 0)) ∧ ∀ x ∈ F',x ∈ p :: blk a ∨ w.heap.size ≤ x :=
     ⟨p :: blk a,⟨a,cap,rfl,h2,(h3.set 0 _).set 1 _,h4.chg c (fun x hx=>by simp;intro e;subst e;exact h2 hx)⟩,c.mono (fun x hx=>by simp at hx;simp [hx]),fun x hx=>.inl hx⟩
    have HF:=Lib.hid hf;clear hf c h0 h2 h3 h4
    simp only [List.length_nil] at g2
    go_enter Tryz.func137,Tryz.ntmps137
    go_wp2
    go_ret2
    exact ⟨rfl,HF.out⟩
   | cons y t =>
    obtain ⟨b,off,rfl,e1⟩:=h4.ints 0 (by simp)
    simp only [List.getElem_cons_zero,Nat.add_zero] at e1
    obtain ⟨a',hsl,hrow,hbl⟩:=slice_from under_ints size_int h4 1 (by simp)
    have hpb:p ≠ b:=fun e=>h2 (by simp [blk,e])
    have c:Chg [p] w ((w.setCell ⟨p,1,none⟩ (.int .i64 y)).setCell ⟨p,2,none⟩ (.slice a' (t.length + 1 - 1) (cap - 1))):=((Chg.refl _ _).setCell _ (.inl (by simp))).setCell _ (.inl (by simp))
    have hf:∀ wf,Chg [] ((w.setCell ⟨p,1,none⟩ (.int .i64 y)).setCell ⟨p,2,none⟩ (.slice a' (t.length + 1 - 1) (cap - 1))) wf → ∃ F',LockAt wf p (y :: t) F' ∧ Chg (p :: blk (some ⟨b,off,none⟩)) w wf ∧ ∀ x ∈ F',x ∈ p :: blk (some ⟨b,off,none⟩) ∨ w.heap.size ≤ x:=fun wf cf=>by
     have c2:=c.trans cf (fun x hx=>by simp at hx)
     refine ⟨p :: blk a',⟨a',cap - 1,rfl,by rw [hbl];exact h2,?_,hrow.chg c2 (fun x hx=>by rw [hbl] at hx;simp;intro e;subst e;exact h2 hx)⟩,c2.mono (fun x hx=>by simp at hx;simp [hx]),fun x hx=>.inl (by rw [hbl] at hx;exact hx)⟩
     exact ((h3.set 1 _).set 2 _).chg cf (by simp)
    have HF:=Lib.hid hf;clear hf c h0 h2 h3 h4 hrow hbl
    simp only [List.length_cons] at g2 hsl
    have hsl2:∀ w,(Instr.slice 22 (.slice (some ⟨b,off,none⟩) (t.length + 1) cap) (some (.int .i64 1)) none none).run Tryz.prog w = .ok (.slice a' (t.length + 1 - 1) (cap - 1)) w:=hsl
    clear hsl
    go_enter Tryz.func137,Tryz.ntmps137
    go_wp2_with fail
    go_region
    all_goals
     go_wp2
     go_ret2
     exact ⟨rfl,HF.out _ (Chg.of_below (below_drew1 _))⟩
  ·simp only [if_neg hx]
   have hne:(x == g) = false:=by simpa using hx
   have hne2:(x != g) = true:=by simp [hx]
   have H0:=Lib.hid h0
   have HX:=Lib.hid hx
   clear h0 h2 h3 h4 hx
   go_enter Tryz.func137,Tryz.ntmps137
   go_wp2
   go_ret2
   exact ⟨rfl,_,H0.out,Chg.refl _ _,fun x hx=>.inl hx⟩
theorem o_ktake {w0 w:World} {As:List Asr} {p:Nat} {L:List Int} (h:Own w0 w (LockA p L :: As)) (g:Int) (hl:L.length ≤ 1000000) :
  Calls Tryz.prog 136 #[.pointer (some ⟨p,0,none⟩),.int .i64 g] w fun r w'=>r = .returned (.bool L.isEmpty) ∧ Own w0 w' (LockA p (L ++ [g]) :: As) :=
 Own.call1 (A:=LockA p L) (A':=LockA p (L ++ [g])) (ret:=fun r=>r = .returned (.bool L.isEmpty)) h (fun F hF=>ktake_any w p L F g hF hl)
theorem o_kgive {w0 w:World} {As:List Asr} {p:Nat} {L:List Int} (h:Own w0 w (LockA p L :: As)) (g:Int) :
  Calls Tryz.prog 137 #[.pointer (some ⟨p,0,none⟩),.int .i64 g] w fun r w'=>r = .returned (.tuple #[.int .i64 (gaveR L g).1,.int .i64 (gaveR L g).2]) ∧ Own w0 w' (LockA p (gaveL L g) :: As) :=
 Own.call1 (A:=LockA p L) (A':=LockA p (gaveL L g)) (ret:=fun r=>r = .returned (.tuple #[.int .i64 (gaveR L g).1,.int .i64 (gaveR L g).2])) h (fun F hF=>kgive_any w p L F g hF)
theorem hasG_any (a:Option Addr) (l c:Nat) (i:Int) (w:World):Calls Tryz.prog 25 #[.slice a l c,.int .i64 i] w fun r w'=>r = .returned (.bool (decide (0 ≤ i ∧ i < (l:Int)))) ∧ w' = w:=by
 go_enter Tryz.func25,Tryz.ntmps25
 by_cases h0:0 ≤ i
 ·by_cases h1:i < (l:Int)
  ·have e:decide (0 ≤ i ∧ i < (l:Int)) = true:=decide_eq_true ⟨h0,h1⟩
   have e1:decide (i < (l:Int)) = true:=decide_eq_true h1
   go_wp2
   go_ret
   exact ⟨by simp [h0,h1],rfl⟩
  ·have e:decide (0 ≤ i ∧ i < (l:Int)) = false:=decide_eq_false (by omega)
   have e1:decide (i < (l:Int)) = false:=decide_eq_false h1
   go_wp2
   go_ret
   exact ⟨by simp [h0,h1],rfl⟩
 ·have e:decide (0 ≤ i ∧ i < (l:Int)) = false:=decide_eq_false (by omega)
  go_wp2
  go_ret
  exact ⟨by simp [h0],rfl⟩
theorem hasI_any (a:Option Addr) (l c:Nat) (i:Int) (w:World):Calls Tryz.prog 84 #[.slice a l c,.int .i64 i] w fun r w'=>r = .returned (.bool (decide (0 ≤ i ∧ i < (l:Int)))) ∧ w' = w:=by
 go_enter Tryz.func84,Tryz.ntmps84
 by_cases h0:0 ≤ i
 ·by_cases h1:i < (l:Int)
  ·have e:decide (0 ≤ i ∧ i < (l:Int)) = true:=decide_eq_true ⟨h0,h1⟩
   have e1:decide (i < (l:Int)) = true:=decide_eq_true h1
   go_wp2
   go_ret
   exact ⟨by simp [h0,h1],rfl⟩
  ·have e:decide (0 ≤ i ∧ i < (l:Int)) = false:=decide_eq_false (by omega)
   have e1:decide (i < (l:Int)) = false:=decide_eq_false h1
   go_wp2
   go_ret
   exact ⟨by simp [h0,h1],rfl⟩
 ·have e:decide (0 ≤ i ∧ i < (l:Int)) = false:=decide_eq_false (by omega)
  go_wp2
  go_ret
  exact ⟨by simp [h0],rfl⟩
def belowZ (n d:Int):Int:=if (if d < 0 then 0 else d) < n - 1 then (if d < 0 then 0 else d) else n - 1
theorem below_any (n d:Int) (hn:1 ≤ n ∧ n < 9223372036854775808) (w:World):Calls Tryz.prog 85 #[.int .i64 n,.int .i64 d] w fun r w'=>r = .returned (.int .i64 (belowZ n d)) ∧ w' = w:=by
 have hw:IntKind.i64.wrap (n - 1) = n - 1:=by rw [IntKind.wrap_i64];omega
 go_enter Tryz.func85,Tryz.ntmps85
 unfold belowZ
 go_wp2
 all_goals
  go_ret
  exact ⟨by simp <;> (repeat' split) <;> omega,rfl⟩
theorem chRow {w0 w:World} {ps:List Pl} {Cs:List Ch} {R:List Asr} {la:Option Addr} {lc n:Nat} (h:Own w0 w (chs ps Cs ++ RowGA 1 la lc n (ptrs ps) :: R)):RowG 1 w la lc n (ptrs ps) :=
 h.rowG (chs ps Cs).length (by rw [List.getElem?_append_right (Nat.le_refl _),Nat.sub_self];rfl)
theorem chPtr {w0 w:World} {ps:List Pl} {Cs:List Ch} {R:List Asr} {la:Option Addr} {lc n:Nat} (h:Own w0 w (chs ps Cs ++ RowGA 1 la lc n (ptrs ps) :: R)) {i:Nat} {p:Pl} (hp:ps[i]? = some p):∃ b off,la = some ⟨b,off,none⟩ ∧ w.cell? ⟨b,off + i,none⟩ = some (.pointer (some ⟨p.1,0,none⟩)):=(chRow h).cells i _ (ptrs_at ps i p hp)
theorem goes_any {w0 w:World} {ps:List Pl} {Cs:List Ch} {R:List Asr} {la:Option Addr} {lc n:Nat} (h:Own w0 w (chs ps Cs ++ RowGA 1 la lc n (ptrs ps) :: R)) (hn:n = ps.length) (hl:ps.length = Cs.length) (k1 k2 k3:Int) (hk:(k1 = 0 ∨ k1 = 1 ∨ k1 = 2) ∧ 0 ≤ k2 ∧ (k1 ≠ 2 → k2 < n)) :
  Calls Tryz.prog 100 #[.agg #[.int .i64 k1,.int .i64 k2,.int .i64 k3],.slice la n lc] w fun r w'=>r = .returned (.bool (goesB ps Cs (k1,k2,k3))) ∧ Below w.heap.size w w':=by
 obtain ⟨h0,h1,h2⟩:=hk
 obtain ⟨i,rfl⟩:∃ i:Nat,k2 = (i:Int):=⟨k2.toNat,by omega⟩
 by_cases h3:k1 = 2
 ·subst h3
  have e:goesB ps Cs (2,(i:Int),k3) = false:=by unfold goesB;split <;> simp
  rw [e]
  clear e h
  go_enter Tryz.func100,Tryz.ntmps100
  go_wp2
  go_ret
  exact ⟨rfl,by first | exact Below.refl _ _ | exact below_alloc1 _ _⟩
 ·have hin:i < ps.length:=by have:=h2 h3;omega
  have hp:ps[i]? = some ps[i]:=List.getElem?_eq_getElem hin
  have hC:Cs[i]? = some (Cs[i]'(by omega)):=List.getElem?_eq_getElem (by omega)
  generalize ps[i] = p at hp
  generalize Cs[i]'(by omega) = C at hC
  obtain ⟨b,off,rfl,g⟩:=chPtr h hp
  obtain ⟨R',hR,-⟩:=h.chPick hp hC
  have hin':(i:Int) < (n:Int):=by omega
  have G:=Lib.hid g
  have gb:=World.block_lt_of_cell? _ _ g
  have hrl:=fun (w':World) (hb:Below w.heap.size w w')=>ccanr_any (hR.step hb)
  have hsl:=fun (w':World) (hb:Below w.heap.size w w')=>ccans_any (hR.step hb)
  have HRL:=Lib.hid hrl
  have HSL:=Lib.hid hsl
  have e:goesB ps Cs (k1,(i:Int),k3) = if k1 = 0 then canR C else if k1 = 1 then canS p.2 C else false:=by unfold goesB;simp [hp,hC]
  rw [e]
  clear e hrl hsl hp hC h hR
  rcases (by omega:k1 = 0 ∨ k1 = 1) with rfl | rfl
  ·simp only [if_true]
   clear h0 h2 h3
   go_enter Tryz.func100,Tryz.ntmps100
   go_wp2_with fail
   refine (HRL.out _ (by first | exact Below.refl _ _ | exact below_alloc1 _ _)).mono ?_
   rintro r w2 ⟨rfl,rfl⟩
   go_wp2
   go_ret
   exact ⟨rfl,by first | exact Below.refl _ _ | exact below_alloc1 _ _⟩
  ·rw [if_neg (by decide),if_pos rfl]
   clear h0 h2 h3
   go_enter Tryz.func100,Tryz.ntmps100
   go_wp2_with fail
   refine (HSL.out _ (by first | exact Below.refl _ _ | exact below_alloc1 _ _)).mono ?_
   rintro r w2 ⟨rfl,m,rfl⟩
   go_wp2
   go_ret
   exact ⟨rfl,by first | exact below_drewN (Below.refl _ _) _ | exact below_drewN (below_alloc1 _ _) _⟩
theorem enabled_any {w0 w:World} {ps:List Pl} {Cs:List Ch} {R:List Asr} {la:Option Addr} {lc n:Nat} (h:Own w0 w (chs ps Cs ++ RowGA 1 la lc n (ptrs ps) :: R)) (hn:n = ps.length) (hl:ps.length = Cs.length) (ka:Option Addr) (m kc:Nat) (ks:List Cs3) (hk:CellsAt w ka (c3s ks)) (hm:m = ks.length) (hm2:m ≤ 100000) (hok:CasOK n ks) :
  Calls Tryz.prog 86 #[.slice ka m kc,.slice la n lc] w fun r w'=>∃ a c,r = .returned (.slice a (enF (goesB ps Cs) 0 ks).length c) ∧ RowG 1 w' a c (enF (goesB ps Cs) 0 ks).length (intc (enF (goesB ps Cs) 0 ks)) ∧ (∀ x ∈ blk a,w.heap.size ≤ x) ∧ Below w.heap.size w w':=by
 have H:=Lib.hid h
 have HK:=Lib.hid hk
 have HN:=Lib.hid hn
 have HM:=Lib.hid hm
 have HO:=Lib.hid hok
 clear h hk hn hm hok
 obtain ⟨i0,hi0,hz0,hz1,hz2⟩:=info_parts info_int
 have Hi:=Lib.hid hi0;clear hi0
 have Hz0:=Lib.hid hz0;clear hz0
 have Hz1:=Lib.hid hz1;clear hz1
 have Hz2:=Lib.hid hz2;clear hz2
 go_enter Tryz.func86,Tryz.ntmps86
 go_wp2_with fail
 go_loopw [5,10] (fun s2 s8 wr=>∃ i:Nat,∃ L:List Int,∃ a c,i ≤ m ∧ L.length ≤ i ∧ s8 = .int .i64 i ∧ s2 = .slice a L.length c ∧ Hid (L ++ enF (goesB ps Cs) i (ks.drop i) = enF (goesB ps Cs) 0 ks ∧ RowG 1 wr a c L.length (intc L) ∧ (∀ x ∈ blk a,w.heap.size ≤ x) ∧ Below w.heap.size w wr)) (fun _ s8 _=>m - (intOf s8).toNat)
 case atStart=>exact ⟨0,[],none,0,by omega,by simp,rfl,rfl,Lib.hid ⟨rfl,RowG.nil _ _,by simp [blk],Below.refl _ _⟩⟩
 case round =>
  obtain ⟨i,L,a,c,hi,hLi,rfl,rfl,hr⟩:=hrel
  obtain ⟨r1,r2,r3,r4⟩:=hr.out
  by_cases hlt:i < m
  ·have hil:i < ks.length:=by have:=HM.out;omega
   obtain ⟨b,off,rfl,q0,q1,q2⟩:=CellsAt.wt (l:=ks) (HK.out.below r4) i hil
   have hok:=HO.out ks[i] (List.getElem_mem hil)
   rw [enF_drop _ ks i hil] at r1
   obtain ⟨x,hx⟩:∃ x,x = ks[i]:=⟨_,rfl⟩
   rw [← hx] at q0 q1 q2 hok r1
   clear hx
   obtain ⟨k1,k2,k3⟩:=x
   simp only at q0 q1 q2 hok
   have hg:=fun (w':World) (hb:Below wr.heap.size wr w')=>goes_any ((H.out.step r4).step hb) HN.out hl k1 k2 k3 ⟨hok.1,hok.2.1,hok.2.2.1⟩
   have HG:=Lib.hid hg
   have hli:(i:Int) < (m:Int):=by omega
   obtain ⟨g,hgb⟩:∃ g,g = goesB ps Cs (k1,k2,k3):=⟨_,rfl⟩
   rw [← hgb] at HG r1
   have HR:=Lib.hid (show _ ∧ _ ∧ _ ∧ _ from ⟨r1,r2,r3,r4⟩)
   clear hr r1 r2 r3 r4 hg hok hgb
   go_wp2_with fail
   refine (HG.out _ (below_alloc1 _ _)).mono ?_
   rintro r w3 ⟨rfl,b30⟩
   have b3:=below_on (below_alloc1 _ _) b30
   clear b30
   obtain ⟨r1,r2,r3,r4⟩:=HR.out
   have B3:=Lib.hid b3
   cases g with
   | false =>
    have HR2:=Lib.hid (show L ++ enF (goesB ps Cs) (i + 1) (ks.drop (i + 1)) = enF (goesB ps Cs) 0 ks ∧ RowG 1 w3 a c L.length (intc L) ∧ (∀ x ∈ blk a,w.heap.size ≤ x) ∧ Below w.heap.size w w3 from ⟨by simpa using r1,r2.below b3,r3,below_on r4 b3⟩)
    clear HR HG r1 r2 r3 r4 b3 B3
    go_wp2
    exact ⟨⟨i + 1,L,a,c,by omega,by omega,by go_num,rfl,HR2⟩,by simp [intOf];omega⟩
   | true =>
    have HROW:=Lib.hid (r2.below b3)
    have HX:=Lib.hid (show (L ++ [(i:Int)]) ++ enF (goesB ps Cs) (i + 1) (ks.drop (i + 1)) = enF (goesB ps Cs) 0 ks ∧ (∀ x ∈ blk a,w.heap.size ≤ x) ∧ Below w.heap.size w w3 from ⟨by simpa using r1,r3,below_on r4 b3⟩)
    clear HR HG r1 r2 r3 r4 b3 B3
    go_wp2_with (at_builtin;refine wpList_append_rowG (m:=1) (ds:=intc [(i:Int)]) rfl _ _ 22 rfl 3 i0 _ Tryz.underlying22 Hi.out Hz0.out Hz1.out Hz2.out rfl (by omega) (by omega) rfl rfl (HROW.out.below (below_alloc1 _ _)) (CellsAt.new _ (intc [(i:Int)]) _ rfl) rfl (intc_one _) (by omega) ?_)
    intro a5 c5 w5 k5 ch5 f5
    have HE:=Lib.hid (show (L ++ [(i:Int)]) ++ enF (goesB ps Cs) (i + 1) (ks.drop (i + 1)) = enF (goesB ps Cs) 0 ks ∧ RowG 1 w5 a5 c5 (L ++ [(i:Int)]).length (intc (L ++ [(i:Int)])) ∧ (∀ x ∈ blk a5,w.heap.size ≤ x) ∧ Below w.heap.size w w5 from
     ⟨HX.out.1,by rw [List.length_append,intc_app];exact k5,fun x hx=>by
      rcases f5 x hx with h | h
      ·exact HX.out.2.1 x h
      ·have:=HX.out.2.2.size;first | omega | (simp at h;omega),Chg.below (below_on HX.out.2.2 (below_alloc1 _ _)) ch5 HX.out.2.1⟩)
    clear k5 ch5 f5
    go_wp2
    exact ⟨⟨i + 1,L ++ [(i:Int)],a5,c5,by omega,by simp;omega,by go_num,by simp,HE⟩,by simp [intOf];omega⟩
  ·have hge:¬ (i:Int) < (m:Int):=by omega
   have hd:ks.drop i = []:=List.drop_of_length_le (by have:=HM.out;omega)
   rw [hd] at r1
   have r1':L = enF (goesB ps Cs) 0 ks:=by simpa [enF] using r1
   have HF:=Lib.hid (show L = enF (goesB ps Cs) 0 ks ∧ RowG 1 wr a c L.length (intc L) ∧ (∀ x ∈ blk a,w.heap.size ≤ x) ∧ Below w.heap.size w wr from ⟨r1',r2,r3,r4⟩)
   clear hr r1 r2 r3 r4 hd r1'
   go_wp2
   go_ret
   obtain ⟨e1,e2,e3,e4⟩:=HF.out
   exact ⟨a,c,by rw [← e1];rfl,by rw [← e1];exact e2,e3,e4⟩
theorem leave_any {w0 w:World} {ps:List Pl} {Cs:List Ch} {R:List Asr} {la:Option Addr} {lc n:Nat} (h:Own w0 w (chs ps Cs ++ RowGA 1 la lc n (ptrs ps) :: R)) (hn:n = ps.length) (hl:ps.length = Cs.length) (g:Int) (hB:Lim 100000 Cs) (hn2:n ≤ 100000) :
  Calls Tryz.prog 145 #[.int .i64 g,.slice la n lc] w fun r w'=>r = .returned (.tuple #[]) ∧ Own w0 w' (chs ps (Cs.map (leF g)) ++ RowGA 1 la lc n (ptrs ps) :: R):=by
 have H:=Lib.hid h
 have HN:=Lib.hid hn
 have HL:=Lib.hid hl
 have HBB:=Lib.hid hB
 clear h hn hl hB
 go_enter Tryz.func145,Tryz.ntmps145
 go_wp2_with fail
 go_loopw [8] (fun s wr=>∃ i:Nat,i ≤ n ∧ s = .int .i64 i ∧ Hid (Own w0 wr (chs ps ((Cs.take i).map (leF g) ++ Cs.drop i) ++ RowGA 1 la lc n (ptrs ps) :: R))) (fun s _=>n - (intOf s).toNat)
 case atStart=>exact ⟨0,by omega,rfl,Lib.hid (by simpa using H.out)⟩
 case round =>
  obtain ⟨i,hi,rfl,hr⟩:=hrel
  by_cases hlt:i < n
  ·have hjn:i < ps.length:=by have:=HN.out;omega
   have hjC:i < Cs.length:=by rw [← HL.out];exact hjn
   have hp:ps[i]? = some ps[i]:=List.getElem?_eq_getElem hjn
   obtain ⟨C,hCe⟩:∃ C,C = Cs[i]:=⟨_,rfl⟩
   have hd:Cs.drop i = C :: Cs.drop (i + 1):=by rw [hCe];exact List.drop_eq_getElem_cons hjC
   have htl:((Cs.take i).map (leF g)).length = i:=by simp;omega
   have hC:((Cs.take i).map (leF g) ++ Cs.drop i)[i]? = some C:=by rw [List.getElem?_append_right (by omega),htl,Nat.sub_self,hd];rfl
   have hlim:=HBB.out C (by rw [hCe];exact List.getElem_mem hjC)
   have hset:((Cs.take i).map (leF g) ++ Cs.drop i).set i (leF g C) = (Cs.take (i + 1)).map (leF g) ++ Cs.drop (i + 1):=by
    rw [List.set_append_right _ _ (by omega),htl,Nat.sub_self,hd,List.set_cons_zero,List.take_succ_eq_append_getElem hjC,List.map_append,List.append_assoc,← hCe];rfl
   generalize ps[i] = p at hp
   obtain ⟨pb,poff,rfl,gp⟩:=chPtr hr.out hp
   obtain ⟨R',hR,hback⟩:=hr.out.chPick hp hC
   have hw:=cdrop_any hR g hlim.2.1 hlim.2.2
   have HW:=Lib.hid hw
   have HX:=Lib.hid (fun (w':World) (h':Own w0 w' (ChanA p.1 p.2 (leF g C) :: R'))=>(show Own w0 w' (chs ps ((Cs.take (i + 1)).map (leF g) ++ Cs.drop (i + 1)) ++ RowGA 1 (some ⟨pb,poff,none⟩) lc n (ptrs ps) :: R) from by rw [← hset];exact hback w' _ h'))
   have hli:(i:Int) < (n:Int):=by omega
   clear hr hw hback hR hset hC hd htl hp hlim hCe hjC
   go_wp2_with fail
   refine HW.out.mono ?_
   rintro r w3 ⟨rfl,h3⟩
   have HR:=Lib.hid (HX.out _ h3)
   clear h3
   go_wp2
   exact ⟨⟨i + 1,by omega,by go_num,HR⟩,by simp [intOf];omega⟩
  ·have hge:¬ (i:Int) < (n:Int):=by omega
   have hf:Own w0 wr (chs ps (Cs.map (leF g)) ++ RowGA 1 la lc n (ptrs ps) :: R):=by
    have h1:=hr.out
    have hCl:Cs.length = n:=by rw [← HL.out];exact HN.out.symm
    rw [List.take_of_length_le (by omega),List.drop_of_length_le (by omega),List.append_nil] at h1
    exact h1
   have HF:=Lib.hid hf
   clear hr hf
   go_wp2
   go_end0
   exact ⟨rfl,HF.out⟩
structure Gt where
 st:Int
 n:Nat
 z:List Int
 deriving DecidableEq
def Gt.o (G:Gt):Nat:=(G.n - 1) * 11
def Gt.fn (G:Gt):Int:=G.z.getD G.o 0
def Gt.pc (G:Gt):Int:=G.z.getD (G.o + 1) 0
def Gt.rg (G:Gt) (k:Int):Int:=G.z.getD (G.o + 2 + k.toNat) 0
def Gt.put (G:Gt) (k v:Int):Gt:={ G with z:=G.z.set (G.o + 2 + k.toNat) v }
def g0:Gt:=⟨0,1,[]⟩
structure Wd where
 fs:List (List In4)
 ks:List Cs3
 gs:List Gt
 Ns:List Nat
 Cs:List Ch
 Ls:List (List Int)
 hp:List It
 nx:Nat
 clock:Nat
 out:List Int
 en:Int
 why:Int
def Wd.g (W:Wd) (i:Nat):Gt:=W.gs.getD i g0
def Wd.setG (W:Wd) (i:Nat) (G:Gt):Wd:={ W with gs:=W.gs.set i G }
def Wd.setSt (W:Wd) (i:Nat) (s:Int):Wd:=W.setG i { W.g i with st:=s }
def Wd.put (W:Wd) (i:Nat) (k v:Int):Wd:=W.setG i ((W.g i).put k v)
def Wd.insAt (W:Wd) (fn pc:Int):Option In4:=if pc < 0 then none else (W.fs.getD fn.toNat [])[pc.toNat]?
def Wd.ins (W:Wd) (i:Nat):Option In4:=W.insAt (W.g i).fn (W.g i).pc
def Wd.cas (W:Wd) (x:In4):List Cs3 :=
 if x.1 = 13 then [(1,x.2.1,x.2.2.1)] else if x.1 = 14 then [(0,x.2.1,x.2.2.1)] else (W.ks.drop x.2.1.toNat).take x.2.2.1.toNat
def wr64 (v:Int):Int:=IntKind.i64.wrap v
def pureM (x:In4) (o:Nat) (z:List Int):Option (List Int) :=
 let z1:=z.set (o + 1) (z.getD (o + 1) 0 + 1)
 let r:=fun (k:Int)=>z.getD (o + 2 + k.toNat) 0
 let s:=fun (v:Int)=>some (z1.set (o + 2 + x.2.1.toNat) v)
 if x.1 = 0 then some z1
 else if x.1 = 1 then s x.2.2.1
 else if x.1 = 2 then s (r x.2.2.1)
 else if x.1 = 3 then s (wr64 (r x.2.2.1 + r x.2.2.2))
 else if x.1 = 4 then s (wr64 (r x.2.2.1 - r x.2.2.2))
 else if x.1 = 5 then s (wr64 (r x.2.2.1 * r x.2.2.2))
 else if x.1 = 6 then s (if r x.2.2.1 < r x.2.2.2 then 1 else 0)
 else if x.1 = 7 then some (z1.set (o + 1) x.2.1)
 else if x.1 = 8 then some (if r x.2.1 = 0 then z1 else z1.set (o + 1) x.2.2.1)
 else none
structure Dd where
 W:Wd
 rd:List Int
 tr:Option Int
def goesN (Ns:List Nat) (Cs:List Ch) (k:Cs3):Bool :=
 match Cs[k.2.1.toNat]?,Ns[k.2.1.toNat]? with
 | some C,some N=>if k.1 = 0 then canR C else if k.1 = 1 then canS N C else false
 | _,_=>false
def Wd.fin (W:Wd) (x:In4) (by_:Wt) (some_:Bool):Wd :=
 let c:=(W.cas x).getD by_.2.1.toNat (1,0,0)
 let W1:=if c.1 = 0 then W.put by_.1.toNat c.2.2 by_.2.2 else W
 if x.1 = 16 then W1.put by_.1.toNat x.2.2.2 by_.2.1
 else if x.1 = 14 then W1.put by_.1.toNat x.2.2.2 (if some_ then 1 else 0)
 else W1
def Wd.leave (W:Wd) (g:Int):Wd:={ W with Cs:=W.Cs.map (leF g) }
def goOnM (W:Wd) (rd:List Int) (by_:Wt) (some_:Bool):Wd × List Int :=
 let G:=W.g by_.1.toNat
 if G.st = 2 then
  match W.insAt G.fn (G.pc - 1) with
  | some x=>(((W.fin x by_ some_).leave by_.1).setSt by_.1.toNat 1,rd ++ [by_.1])
  | none=>(W,rd)
 else (W,rd)
def goOnsM (W:Wd) (rd:List Int):List Wt → Wd × List Int
 | []=>(W,rd)
 | r :: t=>goOnsM (goOnM W rd r false).1 (goOnM W rd r false).2 t
def Wd.ch (W:Wd) (i:Int):Ch:=W.Cs.getD i.toNat ⟨[],[],[],false⟩
def Wd.setCh (W:Wd) (i:Int) (C:Ch):Wd:={ W with Cs:=W.Cs.set i.toNat C }
def sendM (W:Wd) (rd:List Int) (g:Nat) (x:In4) (c:Cs3) (place:Int):Option Dd :=
 let r:=mSend (W.Ns.getD c.2.1.toNat 0) (W.ch c.2.1) ((W.g g).rg c.2.2)
 if r.2.2.2 = 10 then some ⟨W,rd,some (-1)⟩
 else if r.2.2.2 = 0 then
  let W1:=W.setCh c.2.1 r.1
  let y:=if r.2.2.1 then goOnM W1 rd r.2.1 true else (W1,rd)
  some ⟨y.1.fin x ((g:Int),place,0) false,y.2,none⟩
 else none
def recvM (W:Wd) (rd:List Int) (g:Nat) (x:In4) (c:Cs3) (place:Int):Option Dd :=
 let r:=mRecv (W.ch c.2.1)
 if r.2.2 = 0 then
  let W1:=W.setCh c.2.1 r.1
  let y:=if r.2.1.2.2.2 then goOnM W1 rd r.2.1.2.2.1 false else (W1,rd)
  some ⟨y.1.fin x ((g:Int),place,r.2.1.1) r.2.1.2.1,y.2,none⟩
 else none
def tryM (W:Wd) (rd:List Int) (g:Nat) (x:In4) (place:Int):Option Dd :=
 let c:=(W.cas x).getD place.toNat (1,0,0)
 if c.1 = 1 then sendM W rd g x c place else recvM W rd g x c place
def Gt.regs (G:Gt):List Int:=(G.z.drop (G.o + 2)).take 8
def waitM (W:Wd) (g:Nat) (x:In4):Wd:=({ W with Cs:=wasF (g:Int) (W.g g).regs 0 (W.cas x) W.Cs }:Wd).setSt g 2
def chanM (W:Wd) (rd:List Int) (g:Nat) (x:In4):Dd:=(tryM W rd g x 0).getD (Dd.mk (waitM W g x) rd none)
def chooseM (W:Wd) (rd:List Int) (g:Nat) (x:In4) (drawn:Int) (goes:Bool):Dd :=
 if goes then (tryM W rd g x drawn).getD (Dd.mk W rd none)
 else if elF 0 (W.cas x) < 0 then ⟨waitM W g x,rd,none⟩
 else ⟨W.put g x.2.2.2 (elF 0 (W.cas x)),rd,none⟩
def closeM (W:Wd) (rd:List Int) (x:In4):Dd :=
 let C:=W.ch x.2.1
 if C.cl then ⟨W,rd,some (-2)⟩
 else
  let W1:=W.setCh x.2.1 ⟨C.buf,[],[],true⟩
  if C.S = [] then ⟨(goOnsM W1 rd C.R).1,(goOnsM W1 rd C.R).2,none⟩ else ⟨W1,rd,some (-1)⟩
def callM (W:Wd) (rd:List Int) (g:Nat) (x:In4):Dd :=
 let G:=W.g g
 if 16 ≤ G.n then ⟨W,rd,some (-4)⟩ else ⟨W.setG g { G with n:=G.n + 1,z:=G.z ++ newF x.2.1 (G.rg x.2.2.1) x.2.2.2 },rd,none⟩
def retM (W:Wd) (rd:List Int) (g:Nat) (x:In4):Dd :=
 let G:=W.g g
 if G.n ≤ 1 then ⟨{ W.setSt g 4 with en:=if g = 0 then 1 else W.en },rd,none⟩
 else ⟨W.setG g { G with n:=G.n - 1,z:=(G.z.take ((G.n - 1) * 11)).set ((G.n - 2) * 11 + 2 + (G.z.getD (G.o + 10) 0).toNat) (G.rg x.2.1) },rd,none⟩
def spawnM (W:Wd) (rd:List Int) (g:Nat) (x:In4):Dd :=
 if 100 ≤ W.gs.length then ⟨W,rd,some (-5)⟩
 else ⟨({ W with gs:=W.gs ++ [⟨1,1,newF x.2.1 ((W.g g).rg x.2.2.1) 0⟩] }:Wd).put g x.2.2.2 (W.gs.length:Int),rd ++ [(W.gs.length:Int)],none⟩
def sleepM (W:Wd) (rd:List Int) (g:Nat) (x:In4):Dd :=
 let t:=if 1048576 < (W.g g).rg x.2.1 then 1048576 else (W.g g).rg x.2.1
 if t ≤ 0 then ⟨W,rd,none⟩
 else ⟨{ W.setSt g 3 with hp:=pushF W.hp ⟨(W.clock:Int) + t,(W.nx:Int),(g:Int)⟩,nx:=W.nx + 1 },rd,none⟩
def Wd.lk (W:Wd) (i:Int):List Int:=W.Ls.getD i.toNat []
def lockM (W:Wd) (rd:List Int) (g:Nat) (x:In4):Dd :=
 let W1:={ W with Ls:=W.Ls.set x.2.1.toNat (W.lk x.2.1 ++ [(g:Int)]) }
 Dd.mk (if W.lk x.2.1 = [] then W1 else W1.setSt g 2) rd none
def unlockM (W:Wd) (rd:List Int) (g:Nat) (x:In4):Dd :=
 let L:=W.lk x.2.1
 if (gaveR L (g:Int)).2 = 0 then
  let W1:={ W with Ls:=W.Ls.set x.2.1.toNat (gaveL L (g:Int)) }
  if (gaveR L (g:Int)).1 = -1 then ⟨W1,rd,none⟩ else ⟨W1.setSt (gaveR L (g:Int)).1.toNat 1,rd ++ [(gaveR L (g:Int)).1],none⟩
 else ⟨W,rd,some (-3)⟩
def emitM (W:Wd) (rd:List Int) (g:Nat) (x:In4):Dd :=
 if 1000 ≤ W.out.length then ⟨W,rd,some (-6)⟩ else ⟨{ W with out:=W.out ++ [(W.g g).rg x.2.1] },rd,none⟩
def deedM (W:Wd) (g:Nat) (x:In4) (drawn:Int) (goes:Bool):Dd :=
 if x.1 = 9 then callM W [] g x
 else if x.1 = 10 then retM W [] g x
 else if x.1 = 11 then spawnM W [] g x
 else if x.1 = 12 then ⟨W,[],none⟩
 else if x.1 = 13 then chanM W [] g x
 else if x.1 = 14 then chanM W [] g x
 else if x.1 = 15 then closeM W [] x
 else if x.1 = 16 then chooseM W [] g x drawn goes
 else if x.1 = 17 then sleepM W [] g x
 else if x.1 = 18 then lockM W [] g x
 else if x.1 = 19 then unlockM W [] g x
 else if x.1 = 20 then emitM W [] g x
 else if x.1 = 21 then ⟨W.put g x.2.1 drawn,[],none⟩
 else ⟨W,[],some x.2.1⟩
def Wd.step (W:Wd) (g:Nat):Wd:=W.setG g { W.g g with z:=(W.g g).z.set ((W.g g).o + 1) ((W.g g).pc + 1) }
def Dd.end_ (d:Dd):Wd:=match d.tr with
 | none=>d.W
 | some k=>{ d.W with en:=2,why:=k }
def doM (W:Wd) (g:Nat) (x:Option In4) (drawn:Int) (goes:Bool):Dd :=
 match x with
 | none=>⟨W,[],some (-7)⟩
 | some x=>match pureM x (W.g g).o (W.g g).z with
  | some z=>⟨W.setG g { W.g g with z:=z },[],none⟩
  | none=>deedM (W.step g) g x drawn goes
def keepsM (W:Wd) (g:Nat) (x:In4):Bool:=decide (W.en = 0) && decide ((W.g g).st = 1) && !(decide (x.1 = 12) || decide (x.1 = 17))
def askN (W:Wd) (x:In4):Nat :=
 if x.1 = 21 then x.2.2.1.toNat else if x.1 = 16 then (enF (goesN W.Ns W.Cs) 0 (W.cas x)).length else 0
def askK (x:In4):Int:=if x.1 = 21 then 4 else 3
def askM (W:Wd) (x:In4) (d:Int):Int × Bool :=
 if x.1 = 21 then (belowZ x.2.2.1 d,false)
 else if x.1 = 16 then
  if (enF (goesN W.Ns W.Cs) 0 (W.cas x)).length = 0 then (0,false) else ((enF (goesN W.Ns W.Cs) 0 (W.cas x)).getD (belowZ ((enF (goesN W.Ns W.Cs) 0 (W.cas x)).length:Int) d).toNat 0,true)
 else (0,false)
def Wd.lets (W:Wd) (g:Int):Prop:=W.en = 0 ∧ 0 ≤ g ∧ g < (W.gs.length:Int) ∧ (W.g g.toNat).st = 1
instance (W:Wd) (g:Int):Decidable (W.lets g):=by unfold Wd.lets;exact inferInstance
def execM (W:Wd) (g d:Int):Wd × Bool × List Int :=
 if W.lets g then
  let x:=(W.ins g.toNat).getD (0,0,0,0)
  let a:=askM W x d
  let r:=doM W g.toNat (W.ins g.toNat) a.1 a.2
  (r.end_,keepsM r.end_ g.toNat x,r.rd)
 else (W,false,[])
def wokeM (W:Wd):List It → Wd
 | []=>W
 | x :: t=>wokeM (W.setSt x.id.toNat 1) t
def tickM (W:Wd):Wd × List Int :=
 if W.en = 0 then
  let r:=wakes W.hp ((W.clock:Int) + 1)
  (wokeM { W with clock:=W.clock + 1,hp:=r.2 } r.1,r.1.map (·.id))
 else (W,[])
def stuckM (W:Wd):Bool:=decide (W.en = 0) && !(W.gs.any fun G=>decide (G.st = 1) || decide (G.st = 3))
def newM (fs:List (List In4)) (ks:List Cs3) (rooms:List Int) (locks:Nat):Wd :=
 { fs:=fs,ks:=ks,gs:=[⟨1,1,newF 0 0 0⟩],Ns:=rooms.map roomC,Cs:=rooms.map fun _=>⟨[],[],[],false⟩,Ls:=List.replicate locks [],hp:=[],nx:=0,clock:=0,out:=[],en:=0,why:=0 }
def ppSp:Nat → List In4
 | 0=>[]
 | n + 1=>ppSp n ++ [(11,((n + 1:Nat):Int),0,1)]
def ppMain (S:Nat):List In4:=ppSp (S + 1) ++ [(14,(S:Int),2,3),(20,2,0,0),(7,((S + 1:Nat):Int),0,0)]
def ppSt (i:Nat):List In4:=[(14,(i:Int),1,2),(13,((i + 1:Nat):Int),1,0),(7,0,0,0)]
def ppFe:Nat → List In4
 | 0=>[]
 | i + 1=>ppFe i ++ [(1,1,((10 + i:Nat):Int),0),(13,0,1,0)]
def ppFd (m:Nat):List In4:=ppFe m ++ [(10,0,0,0)]
def ppSts:Nat → List (List In4)
 | 0=>[]
 | n + 1=>ppSts n ++ [ppSt n]
def ppFs (S m:Nat):List (List In4):=ppMain S :: (ppSts S ++ [ppFd m])
theorem ppSp_len:∀ n,(ppSp n).length = n
 | 0=>rfl
 | n + 1=>by unfold ppSp;rw [List.length_append,ppSp_len n];rfl
theorem ppSp_at:∀ (n i:Nat),i < n → (ppSp n)[i]? = some (11,((i + 1:Nat):Int),0,1)
 | 0,i,h=>absurd h (by omega)
 | n + 1,i,h=>by
  unfold ppSp
  rcases Nat.lt_or_ge i n with h1 | h1
  ·rw [List.getElem?_append_left (by rw [ppSp_len];exact h1)];exact ppSp_at n i h1
  ·obtain rfl:i = n:=by omega
   rw [List.getElem?_append_right (by rw [ppSp_len];omega),ppSp_len,Nat.sub_self];rfl
theorem ppSts_len:∀ n,(ppSts n).length = n
 | 0=>rfl
 | n + 1=>by unfold ppSts;rw [List.length_append,ppSts_len n];rfl
theorem ppSts_at:∀ (n i:Nat),i < n → (ppSts n)[i]? = some (ppSt i)
 | 0,i,h=>absurd h (by omega)
 | n + 1,i,h=>by
  unfold ppSts
  rcases Nat.lt_or_ge i n with h1 | h1
  ·rw [List.getElem?_append_left (by rw [ppSts_len];exact h1)];exact ppSts_at n i h1
  ·obtain rfl:i = n:=by omega
   rw [List.getElem?_append_right (by rw [ppSts_len];omega),ppSts_len,Nat.sub_self];rfl
theorem ppFe_len:∀ n,(ppFe n).length = 2 * n
 | 0=>rfl
 | n + 1=>by unfold ppFe;rw [List.length_append,ppFe_len n];simp;omega
theorem ppFe_at:∀ (n i:Nat),i < n → (ppFe n)[2 * i]? = some (1,1,((10 + i:Nat):Int),0) ∧ (ppFe n)[2 * i + 1]? = some (13,0,1,0)
 | 0,i,h=>absurd h (by omega)
 | n + 1,i,h=>by
  unfold ppFe
  rcases Nat.lt_or_ge i n with h1 | h1
  ·rw [List.getElem?_append_left (by rw [ppFe_len];omega),List.getElem?_append_left (by rw [ppFe_len];omega)];exact ppFe_at n i h1
  ·obtain rfl:i = n:=by omega
   rw [List.getElem?_append_right (by rw [ppFe_len];omega),List.getElem?_append_right (by rw [ppFe_len];omega),ppFe_len,Nat.sub_self,show 2 * i + 1 - 2 * i = 1 by omega]
   exact ⟨rfl,rfl⟩
theorem pp_main1 {S i:Nat} (h:i ≤ S):(ppMain S)[i]? = some (11,((i + 1:Nat):Int),0,1):=by
 unfold ppMain
 rw [List.getElem?_append_left (by rw [ppSp_len];omega)]
 exact ppSp_at (S + 1) i (by omega)
theorem pp_main2 (S j:Nat):(ppMain S)[S + 1 + j]? = [((14:Int),(S:Int),(2:Int),(3:Int)),(20,2,0,0),(7,((S + 1:Nat):Int),0,0)][j]?:=by
 unfold ppMain
 rw [List.getElem?_append_right (by rw [ppSp_len];omega),ppSp_len,Nat.add_sub_cancel_left]
theorem pp_fd1 {m i:Nat} (h:i < m):(ppFd m)[2 * i]? = some (1,1,((10 + i:Nat):Int),0) ∧ (ppFd m)[2 * i + 1]? = some (13,0,1,0):=by
 unfold ppFd
 rw [List.getElem?_append_left (by rw [ppFe_len];omega),List.getElem?_append_left (by rw [ppFe_len];omega)]
 exact ppFe_at m i h
theorem pp_fd2 (m:Nat):(ppFd m)[2 * m]? = some (10,0,0,0):=by
 unfold ppFd
 rw [List.getElem?_append_right (by rw [ppFe_len];omega),ppFe_len,Nat.sub_self];rfl
theorem pp_fs1 {S m j:Nat} (h:j < S):(ppFs S m).getD (j + 1) [] = ppSt j:=by
 unfold ppFs
 rw [List.getD_eq_getElem?_getD,List.getElem?_cons_succ,List.getElem?_append_left (by rw [ppSts_len];exact h),ppSts_at S j h];rfl
theorem pp_fs2 (S m:Nat):(ppFs S m).getD (S + 1) [] = ppFd m:=by
 unfold ppFs
 rw [List.getD_eq_getElem?_getD,List.getElem?_cons_succ,List.getElem?_append_right (by rw [ppSts_len];omega),ppSts_len,Nat.sub_self];rfl
structure Pa where
 k:Nat
 s:Int
 b:Int
 x:Int
 y:Int
structure Pg where
 p:Nat
 s:Int
 v:Int
 y:Int
def paG (A:Pa):Gt:=⟨A.s,1,[0,A.k,0,A.b,A.x,A.y,0,0,0,0,0]⟩
def pgG (f:Nat) (x:Pg):Gt:=⟨x.s,1,[(f:Int),x.p,0,x.v,x.y,0,0,0,0,0,0]⟩
def pgs:Nat → List Pg → List Gt
 | _,[]=>[]
 | f,x :: t=>pgG f x :: pgs (f + 1) t
theorem pgs_len:∀ (f:Nat) (l:List Pg),(pgs f l).length = l.length
 | _,[]=>rfl
 | f,x :: t=>by simp only [pgs,List.length_cons,pgs_len (f + 1) t]
theorem pgs_at:∀ (f:Nat) (l:List Pg) (c:Nat) (x:Pg),l[c]? = some x → (pgs f l)[c]? = some (pgG (f + c) x)
 | _,[],c,x,h=>by simp at h
 | f,u :: t,0,x,h=>by simp at h;subst h;rfl
 | f,u :: t,c + 1,x,h=>by
  have:=pgs_at (f + 1) t c x (by simpa using h)
  simp only [pgs,List.getElem?_cons_succ]
  rw [this,show f + 1 + c = f + (c + 1) by omega]
theorem pgs_set:∀ (f:Nat) (l:List Pg) (c:Nat) (y:Pg),(pgs f l).set c (pgG (f + c) y) = pgs f (l.set c y)
 | _,[],c,y=>rfl
 | f,u :: t,0,y=>rfl
 | f,u :: t,c + 1,y=>by
  have:=pgs_set (f + 1) t c y
  simp only [pgs,List.set_cons_succ]
  rw [← this,show f + 1 + c = f + (c + 1) by omega]
theorem pgs_app:∀ (f:Nat) (l:List Pg) (x:Pg),pgs f (l ++ [x]) = pgs f l ++ [pgG (f + l.length) x]
 | _,[],x=>rfl
 | f,u :: t,x=>by
  have:=pgs_app (f + 1) t x
  simp only [List.cons_append,pgs,List.length_cons]
  rw [this,show f + 1 + t.length = f + (t.length + 1) by omega]
def ppW (S m N:Nat) (A:Pa) (cs:List Pg) (Cs:List Ch) (out:List Int) (ck:Nat):Wd :=
 { fs:=ppFs S m,ks:=[],gs:=paG A :: pgs 1 cs,Ns:=List.replicate (S + 1) N,Cs:=Cs,Ls:=[],hp:=[],nx:=0,clock:=ck,out:=out,en:=0,why:=0 }
section
variable {S m N ck:Nat} {A:Pa} {cs:List Pg} {Cs:List Ch} {out:List Int} {d:Int}
theorem pp_gc {c:Nat} {x:Pg} (h:cs[c]? = some x):(ppW S m N A cs Cs out ck).g (c + 1) = pgG (c + 1) x:=by
 unfold Wd.g ppW
 simp only [List.getD_eq_getElem?_getD,List.getElem?_cons_succ]
 rw [pgs_at 1 cs c x h,Nat.add_comm 1 c]
 rfl
theorem pp_len:(ppW S m N A cs Cs out ck).gs.length = cs.length + 1:=by unfold ppW;simp [pgs_len]
theorem pp_ins0:(ppW S m N A cs Cs out ck).ins 0 = (ppMain S)[A.k]?:=by
 unfold Wd.ins Wd.insAt
 have h1:((ppW S m N A cs Cs out ck).g 0).pc = (A.k:Int):=rfl
 have h2:((ppW S m N A cs Cs out ck).g 0).fn = 0:=rfl
 rw [h1,h2,if_neg (by omega),Int.toNat_natCast]
 rfl
theorem pp_insc {c:Nat} {x:Pg} (h:cs[c]? = some x):(ppW S m N A cs Cs out ck).ins (c + 1) = ((ppFs S m).getD (c + 1) [])[x.p]?:=by
 unfold Wd.ins Wd.insAt
 rw [pp_gc h]
 have h1:(pgG (c + 1) x).pc = (x.p:Int):=rfl
 have h2:(pgG (c + 1) x).fn = ((c + 1:Nat):Int):=rfl
 rw [h1,h2,if_neg (by omega),Int.toNat_natCast,Int.toNat_natCast]
 rfl
theorem pp_lets0 (hs:A.s = 1):(ppW S m N A cs Cs out ck).lets 0:=⟨rfl,by omega,by rw [pp_len];omega,hs⟩
theorem pp_letsc {c:Nat} {x:Pg} (h:cs[c]? = some x) (hs:x.s = 1):(ppW S m N A cs Cs out ck).lets ((c + 1:Nat):Int):=by
 have hc:=(List.getElem?_eq_some_iff.1 h).1
 refine ⟨rfl,by omega,by rw [pp_len];omega,?_⟩
 rw [Int.toNat_natCast,pp_gc h]
 exact hs
theorem pp_cset {c:Nat} {x:Pg} (y:Pg) (h:cs[c]? = some x) (G:Gt) (hG:G = pgG (c + 1) y):(ppW S m N A cs Cs out ck).setG (c + 1) G = ppW S m N A (cs.set c y) Cs out ck:=by
 subst hG
 unfold Wd.setG ppW
 simp only [List.set_cons_succ]
 rw [← pgs_set 1 cs c y,Nat.add_comm 1 c]
theorem pp_cget {c:Nat} {x:Pg} (y:Pg) (h:cs[c]? = some x):(cs.set c y)[c]? = some y:=by
 rw [List.getElem?_set_self (List.getElem?_eq_some_iff.1 h).1]
theorem pp_cstep {c:Nat} {x:Pg} (h:cs[c]? = some x):(ppW S m N A cs Cs out ck).step (c + 1) = ppW S m N A (cs.set c ⟨x.p + 1,x.s,x.v,x.y⟩) Cs out ck:=by
 unfold Wd.step
 refine pp_cset _ h _ ?_
 rw [pp_gc h]
 rfl
theorem pp_keeps {c:Nat} {x:Pg} (y:Pg) (h:cs[c]? = some x) (i:In4):keepsM (ppW S m N A (cs.set c y) Cs out ck) (c + 1) i = (decide (y.s = 1) && !(decide (i.1 = 12) || decide (i.1 = 17))):=by
 unfold keepsM
 rw [pp_gc (pp_cget y h)]
 rfl
theorem pp_spawn (hs:A.s = 1) (hk:A.k ≤ S) (hl:cs.length = A.k) (hS:S ≤ 20):execM (ppW S m N A cs Cs out ck) 0 d = (ppW S m N ⟨A.k + 1,1,((cs.length + 1:Nat):Int),A.x,A.y⟩ (cs ++ [⟨0,1,0,0⟩]) Cs out ck,true,[((cs.length + 1:Nat):Int)]):=by
 obtain ⟨k,s,b,x,y⟩:=A
 simp only at hs hk hl
 subst hs
 unfold execM
 rw [if_pos (pp_lets0 rfl)]
 rw [show (0:Int).toNat = 0 from rfl,pp_ins0,pp_main1 hk]
 have h1:doM (ppW S m N ⟨k,1,b,x,y⟩ cs Cs out ck) 0 (some (11,((k + 1:Nat):Int),0,1)) (askM (ppW S m N ⟨k,1,b,x,y⟩ cs Cs out ck) ((some ((11:Int),((k + 1:Nat):Int),(0:Int),(1:Int))).getD (0,0,0,0)) d).1 (askM (ppW S m N ⟨k,1,b,x,y⟩ cs Cs out ck) ((some ((11:Int),((k + 1:Nat):Int),(0:Int),(1:Int))).getD (0,0,0,0)) d).2 = ⟨ppW S m N ⟨k + 1,1,((cs.length + 1:Nat):Int),x,y⟩ (cs ++ [⟨0,1,0,0⟩]) Cs out ck,[((cs.length + 1:Nat):Int)],none⟩:=by
  show spawnM (ppW S m N ⟨k + 1,1,b,x,y⟩ cs Cs out ck) [] 0 (11,((k + 1:Nat):Int),0,1) = _
  unfold spawnM
  rw [pp_len,if_neg (by omega)]
  unfold Wd.put Wd.setG ppW
  rw [pgs_app,hl,Nat.add_comm 1 k]
  rfl
 simp only [h1]
 rfl
theorem pp_emit (hs:A.s = 1) (hk:A.k = S + 2) (ho:out.length < 900):execM (ppW S m N A cs Cs out ck) 0 d = (ppW S m N ⟨A.k + 1,1,A.b,A.x,A.y⟩ cs Cs (out ++ [A.x]) ck,true,[]):=by
 obtain ⟨k,s,b,x,y⟩:=A
 simp only at hs hk
 subst hs hk
 unfold execM
 rw [if_pos (pp_lets0 rfl)]
 rw [show (0:Int).toNat = 0 from rfl,pp_ins0,show (ppMain S)[S + 2]? = some (20,2,0,0) from pp_main2 S 1]
 have h1:doM (ppW S m N ⟨S + 2,1,b,x,y⟩ cs Cs out ck) 0 (some (20,2,0,0)) (askM (ppW S m N ⟨S + 2,1,b,x,y⟩ cs Cs out ck) ((some ((20:Int),(2:Int),(0:Int),(0:Int))).getD (0,0,0,0)) d).1 (askM (ppW S m N ⟨S + 2,1,b,x,y⟩ cs Cs out ck) ((some ((20:Int),(2:Int),(0:Int),(0:Int))).getD (0,0,0,0)) d).2 = ⟨ppW S m N ⟨S + 2 + 1,1,b,x,y⟩ cs Cs (out ++ [x]) ck,[],none⟩:=by
  show emitM (ppW S m N ⟨S + 2 + 1,1,b,x,y⟩ cs Cs out ck) [] 0 (20,2,0,0) = _
  unfold emitM
  rw [if_neg (by show ¬ 1000 ≤ out.length;omega)]
  rfl
 simp only [h1]
 rfl
theorem pp_jump (hs:A.s = 1) (hk:A.k = S + 3):execM (ppW S m N A cs Cs out ck) 0 d = (ppW S m N ⟨S + 1,1,A.b,A.x,A.y⟩ cs Cs out ck,true,[]):=by
 obtain ⟨k,s,b,x,y⟩:=A
 simp only at hs hk
 subst hs hk
 unfold execM
 rw [if_pos (pp_lets0 rfl)]
 rw [show (0:Int).toNat = 0 from rfl,pp_ins0,show (ppMain S)[S + 3]? = some (7,((S + 1:Nat):Int),0,0) from pp_main2 S 2]
 rfl
theorem pp_recv0 (hs:A.s = 1) (hk:A.k = S + 1):execM (ppW S m N A cs Cs out ck) 0 d =
  (let r:=chanM (ppW S m N ⟨S + 2,1,A.b,A.x,A.y⟩ cs Cs out ck) [] 0 (14,(S:Int),2,3);(r.end_,keepsM r.end_ 0 (14,(S:Int),2,3),r.rd)):=by
 obtain ⟨k,s,b,x,y⟩:=A
 simp only at hs hk
 subst hs hk
 unfold execM
 rw [if_pos (pp_lets0 rfl)]
 rw [show (0:Int).toNat = 0 from rfl,pp_ins0,show (ppMain S)[S + 1]? = some (14,(S:Int),2,3) from pp_main2 S 0]
 rfl
theorem pp_chan {c:Nat} {x:Pg} {i:In4} (h:cs[c]? = some x) (hs:x.s = 1) (hi:((ppFs S m).getD (c + 1) [])[x.p]? = some i) (ho:i.1 = 13 ∨ i.1 = 14):execM (ppW S m N A cs Cs out ck) ((c + 1:Nat):Int) d =
  (let r:=chanM (ppW S m N A (cs.set c ⟨x.p + 1,1,x.v,x.y⟩) Cs out ck) [] (c + 1) i;(r.end_,keepsM r.end_ (c + 1) i,r.rd)):=by
 unfold execM
 rw [if_pos (pp_letsc h hs),Int.toNat_natCast,pp_insc h,hi]
 obtain ⟨o,a,b,e⟩:=i
 simp only at ho
 have h1:∀ q:Int × Bool,doM (ppW S m N A cs Cs out ck) (c + 1) (some (o,a,b,e)) q.1 q.2 = chanM ((ppW S m N A cs Cs out ck).step (c + 1)) [] (c + 1) (o,a,b,e):=fun q=>by
  rcases ho with rfl | rfl <;> rfl
 simp only [Option.getD_some,h1,pp_cstep h,hs]
theorem pp_const {c:Nat} {x:Pg} {v:Int} (h:cs[c]? = some x) (hs:x.s = 1) (hi:((ppFs S m).getD (c + 1) [])[x.p]? = some (1,1,v,0)):execM (ppW S m N A cs Cs out ck) ((c + 1:Nat):Int) d = (ppW S m N A (cs.set c ⟨x.p + 1,1,v,x.y⟩) Cs out ck,true,[]):=by
 unfold execM
 rw [if_pos (pp_letsc h hs),Int.toNat_natCast,pp_insc h,hi]
 have h1:∀ q:Int × Bool,doM (ppW S m N A cs Cs out ck) (c + 1) (some (1,1,v,0)) q.1 q.2 = ⟨ppW S m N A (cs.set c ⟨x.p + 1,1,v,x.y⟩) Cs out ck,[],none⟩:=fun q=>by
  have hg:=pp_gc (S:=S) (m:=m) (N:=N) (A:=A) (Cs:=Cs) (out:=out) (ck:=ck) h
  unfold doM
  simp only [hg]
  have h2:pureM (1,1,v,0) (pgG (c + 1) x).o (pgG (c + 1) x).z = some [((c + 1:Nat):Int),((x.p + 1:Nat):Int),0,v,x.y,0,0,0,0,0,0]:=rfl
  simp only [h2]
  have h3:(ppW S m N A cs Cs out ck).setG (c + 1) ⟨x.s,1,[((c + 1:Nat):Int),((x.p + 1:Nat):Int),0,v,x.y,0,0,0,0,0,0]⟩ = ppW S m N A (cs.set c ⟨x.p + 1,1,v,x.y⟩) Cs out ck:=pp_cset ⟨x.p + 1,1,v,x.y⟩ h _ (by rw [hs];rfl)
  show (⟨(ppW S m N A cs Cs out ck).setG (c + 1) ⟨x.s,1,[((c + 1:Nat):Int),((x.p + 1:Nat):Int),0,v,x.y,0,0,0,0,0,0]⟩,[],none⟩:Dd) = _
  rw [h3]
 simp only [h1]
 show (_,keepsM (ppW S m N A _ Cs out ck) (c + 1) _,_) = _
 rw [pp_keeps _ h]
 rfl
theorem pp_jmpc {c:Nat} {x:Pg} (h:cs[c]? = some x) (hs:x.s = 1) (hi:((ppFs S m).getD (c + 1) [])[x.p]? = some (7,0,0,0)):execM (ppW S m N A cs Cs out ck) ((c + 1:Nat):Int) d = (ppW S m N A (cs.set c ⟨0,1,x.v,x.y⟩) Cs out ck,true,[]):=by
 unfold execM
 rw [if_pos (pp_letsc h hs),Int.toNat_natCast,pp_insc h,hi]
 have h1:∀ q:Int × Bool,doM (ppW S m N A cs Cs out ck) (c + 1) (some (7,0,0,0)) q.1 q.2 = ⟨ppW S m N A (cs.set c ⟨0,1,x.v,x.y⟩) Cs out ck,[],none⟩:=fun q=>by
  have hg:=pp_gc (S:=S) (m:=m) (N:=N) (A:=A) (Cs:=Cs) (out:=out) (ck:=ck) h
  unfold doM
  simp only [hg]
  have h2:pureM (7,0,0,0) (pgG (c + 1) x).o (pgG (c + 1) x).z = some [((c + 1:Nat):Int),0,0,x.v,x.y,0,0,0,0,0,0]:=rfl
  simp only [h2]
  have h3:(ppW S m N A cs Cs out ck).setG (c + 1) ⟨x.s,1,[((c + 1:Nat):Int),0,0,x.v,x.y,0,0,0,0,0,0]⟩ = ppW S m N A (cs.set c ⟨0,1,x.v,x.y⟩) Cs out ck:=pp_cset ⟨0,1,x.v,x.y⟩ h _ (by rw [hs];rfl)
  show (⟨(ppW S m N A cs Cs out ck).setG (c + 1) ⟨x.s,1,[((c + 1:Nat):Int),0,0,x.v,x.y,0,0,0,0,0,0]⟩,[],none⟩:Dd) = _
  rw [h3]
 simp only [h1]
 show (_,keepsM (ppW S m N A _ Cs out ck) (c + 1) _,_) = _
 rw [pp_keeps _ h]
 rfl
theorem pp_cret {c:Nat} {x:Pg} (h:cs[c]? = some x) (hs:x.s = 1) (hi:((ppFs S m).getD (c + 1) [])[x.p]? = some (10,0,0,0)):execM (ppW S m N A cs Cs out ck) ((c + 1:Nat):Int) d = (ppW S m N A (cs.set c ⟨x.p + 1,4,x.v,x.y⟩) Cs out ck,false,[]):=by
 unfold execM
 rw [if_pos (pp_letsc h hs),Int.toNat_natCast,pp_insc h,hi]
 have h1:∀ q:Int × Bool,doM (ppW S m N A cs Cs out ck) (c + 1) (some (10,0,0,0)) q.1 q.2 = retM ((ppW S m N A cs Cs out ck).step (c + 1)) [] (c + 1) (10,0,0,0):=fun q=>rfl
 have h2:retM (ppW S m N A (cs.set c ⟨x.p + 1,x.s,x.v,x.y⟩) Cs out ck) [] (c + 1) (10,0,0,0) = ⟨ppW S m N A (cs.set c ⟨x.p + 1,4,x.v,x.y⟩) Cs out ck,[],none⟩:=by
  unfold retM
  have eg:(ppW S m N A (cs.set c ⟨x.p + 1,x.s,x.v,x.y⟩) Cs out ck).g (c + 1) = ⟨x.s,1,[((c + 1:Nat):Int),((x.p + 1:Nat):Int),0,x.v,x.y,0,0,0,0,0,0]⟩:=by rw [pp_gc (pp_cget ⟨x.p + 1,x.s,x.v,x.y⟩ h)];rfl
  rw [eg,if_pos (Nat.le_refl 1)]
  have e3:(ppW S m N A (cs.set c ⟨x.p + 1,x.s,x.v,x.y⟩) Cs out ck).setSt (c + 1) 4 = ppW S m N A (cs.set c ⟨x.p + 1,4,x.v,x.y⟩) Cs out ck:=by
   unfold Wd.setSt
   rw [pp_cset ⟨x.p + 1,4,x.v,x.y⟩ (pp_cget ⟨x.p + 1,x.s,x.v,x.y⟩ h) _ (by rw [pp_gc (pp_cget ⟨x.p + 1,x.s,x.v,x.y⟩ h)];rfl),List.set_set]
  rw [e3]
  rfl
 simp only [h1,pp_cstep h,h2]
 show (_,keepsM (ppW S m N A _ Cs out ck) (c + 1) _,_) = _
 rw [pp_keeps _ h]
 rfl
theorem pp_tick:tickM (ppW S m N A cs Cs out ck) = (ppW S m N A cs Cs out (ck + 1),[]):=rfl
end
end Go.Proofs.YtphfaekpckbepaaGreat
open Go Go.RowKit
set_option linter.unusedVariables false
namespace Go.Proofs.YtphfaekpckbepaaGreat
section
variable {S m N ck:Nat} {A:Pa} {cs:List Pg} {Cs:List Ch} {out:List Int} {d:Int}
theorem pp_ch {i:Nat} {C:Ch} (h:Cs[i]? = some C):(ppW S m N A cs Cs out ck).ch (i:Int) = C:=by
 unfold Wd.ch
 show Cs.getD (i:Int).toNat _ = C
 rw [Int.toNat_natCast,List.getD_eq_getElem?_getD,h];rfl
theorem pp_setCh {i:Nat} (C:Ch):(ppW S m N A cs Cs out ck).setCh (i:Int) C = ppW S m N A cs (Cs.set i C) out ck:=by
 unfold Wd.setCh
 rw [Int.toNat_natCast];rfl
theorem pp_N {i:Nat} (h:i ≤ S):(ppW S m N A cs Cs out ck).Ns.getD (i:Int).toNat 0 = N:=by
 show (List.replicate (S + 1) N).getD (i:Int).toNat 0 = N
 rw [Int.toNat_natCast,List.getD_eq_getElem?_getD,List.getElem?_replicate,if_pos (by omega)];rfl
theorem pp_leave {g:Int} (h:Cs.map (leF g) = Cs):(ppW S m N A cs Cs out ck).leave g = ppW S m N A cs Cs out ck:=by
 unfold Wd.leave
 show ({ ppW S m N A cs Cs out ck with Cs:=Cs.map (leF g) }:Wd) = _
 rw [h];rfl
theorem pp_put1 {c:Nat} {x:Pg} (h:cs[c]? = some x) (v:Int):(ppW S m N A cs Cs out ck).put (c + 1) 1 v = ppW S m N A (cs.set c ⟨x.p,x.s,v,x.y⟩) Cs out ck:=by
 unfold Wd.put
 refine pp_cset _ h _ ?_
 rw [pp_gc h];rfl
theorem pp_put2 {c:Nat} {x:Pg} (h:cs[c]? = some x) (v:Int):(ppW S m N A cs Cs out ck).put (c + 1) 2 v = ppW S m N A (cs.set c ⟨x.p,x.s,x.v,v⟩) Cs out ck:=by
 unfold Wd.put
 refine pp_cset _ h _ ?_
 rw [pp_gc h];rfl
theorem pp_st {c:Nat} {x:Pg} (h:cs[c]? = some x) (s:Int):(ppW S m N A cs Cs out ck).setSt (c + 1) s = ppW S m N A (cs.set c ⟨x.p,s,x.v,x.y⟩) Cs out ck:=by
 unfold Wd.setSt
 refine pp_cset _ h _ ?_
 rw [pp_gc h];rfl
theorem pp_finS {a b:Int} {g w:Int} {q:Bool} {W:Wd}:W.fin (13,a,b,0) (g,0,w) q = W:=rfl
theorem pp_finR {c:Nat} {x:Pg} {a w:Int} (h:cs[c]? = some x):(ppW S m N A cs Cs out ck).fin (14,a,1,2) (((c + 1:Nat):Int),0,w) true = ppW S m N A (cs.set c ⟨x.p,x.s,w,1⟩) Cs out ck:=by
 have h1:(ppW S m N A cs Cs out ck).fin (14,a,1,2) (((c + 1:Nat):Int),0,w) true = ((ppW S m N A cs Cs out ck).put (((c + 1:Nat):Int)).toNat 1 w).put (((c + 1:Nat):Int)).toNat 2 1:=rfl
 rw [h1,Int.toNat_natCast,pp_put1 h,pp_put2 (pp_cget _ h),List.set_set]
theorem pp_finM {a w:Int}:(ppW S m N A cs Cs out ck).fin (14,a,2,3) (0,0,w) true = ppW S m N ⟨A.k,A.s,A.b,w,1⟩ cs Cs out ck:=rfl
theorem pp_insAt {c:Nat} {x:Pg} (h:cs[c]? = some x) (hp:1 ≤ x.p):(ppW S m N A cs Cs out ck).insAt ((ppW S m N A cs Cs out ck).g (c + 1)).fn (((ppW S m N A cs Cs out ck).g (c + 1)).pc - 1) = ((ppFs S m).getD (c + 1) [])[x.p - 1]?:=by
 rw [pp_gc h]
 have e1:(pgG (c + 1) x).pc = (x.p:Int):=rfl
 have e2:(pgG (c + 1) x).fn = ((c + 1:Nat):Int):=rfl
 rw [e1,e2]
 unfold Wd.insAt
 rw [if_neg (by omega),Int.toNat_natCast,show ((x.p:Int) - 1).toNat = x.p - 1 by omega]
 rfl
theorem pp_goS {e:Nat} {x:Pg} {a w:Int} (h:cs[e]? = some x) (hs:x.s = 2) (hp:1 ≤ x.p) (hi:((ppFs S m).getD (e + 1) [])[x.p - 1]? = some (13,a,1,0)) (hC:Cs.map (leF ((e + 1:Nat):Int)) = Cs) (rd:List Int) :
  goOnM (ppW S m N A cs Cs out ck) rd (((e + 1:Nat):Int),0,w) false = (ppW S m N A (cs.set e ⟨x.p,1,x.v,x.y⟩) Cs out ck,rd ++ [((e + 1:Nat):Int)]):=by
 unfold goOnM
 have e0:((((e + 1:Nat):Int),(0:Int),w):Wt).1.toNat = e + 1:=Int.toNat_natCast _
 rw [e0]
 have h2:((ppW S m N A cs Cs out ck).g (e + 1)).st = 2:=by rw [pp_gc h];exact hs
 simp only [h2,if_true,pp_insAt h hp,hi,pp_finS,pp_leave hC,pp_st h]
theorem pp_goR {e:Nat} {x:Pg} {a w:Int} (h:cs[e]? = some x) (hs:x.s = 2) (hp:1 ≤ x.p) (hi:((ppFs S m).getD (e + 1) [])[x.p - 1]? = some (14,a,1,2)) (hC:Cs.map (leF ((e + 1:Nat):Int)) = Cs) (rd:List Int) :
  goOnM (ppW S m N A cs Cs out ck) rd (((e + 1:Nat):Int),0,w) true = (ppW S m N A (cs.set e ⟨x.p,1,w,1⟩) Cs out ck,rd ++ [((e + 1:Nat):Int)]):=by
 unfold goOnM
 have e0:((((e + 1:Nat):Int),(0:Int),w):Wt).1.toNat = e + 1:=Int.toNat_natCast _
 rw [e0]
 have h2:((ppW S m N A cs Cs out ck).g (e + 1)).st = 2:=by rw [pp_gc h];exact hs
 simp only [h2,if_true,pp_insAt h hp,hi,pp_finR h,pp_leave hC,pp_st (pp_cget _ h),List.set_set]
theorem pp_goM {w:Int} (hs:A.s = 2) (hk:A.k = S + 2) (hC:Cs.map (leF 0) = Cs) (rd:List Int) :
  goOnM (ppW S m N A cs Cs out ck) rd (0,0,w) true = (ppW S m N ⟨A.k,1,A.b,w,1⟩ cs Cs out ck,rd ++ [0]):=by
 obtain ⟨k,s,b,x,y⟩:=A
 simp only at hs hk
 subst hs hk
 unfold goOnM
 have h3:(ppW S m N ⟨S + 2,2,b,x,y⟩ cs Cs out ck).insAt ((ppW S m N ⟨S + 2,2,b,x,y⟩ cs Cs out ck).g 0).fn (((ppW S m N ⟨S + 2,2,b,x,y⟩ cs Cs out ck).g 0).pc - 1) = some (14,(S:Int),2,3):=by
  have e1:((ppW S m N ⟨S + 2,2,b,x,y⟩ cs Cs out ck).g 0).pc = ((S + 2:Nat):Int):=rfl
  have e2:((ppW S m N ⟨S + 2,2,b,x,y⟩ cs Cs out ck).g 0).fn = 0:=rfl
  rw [e1,e2]
  unfold Wd.insAt
  rw [if_neg (by omega),show (((S + 2:Nat):Int) - 1).toNat = S + 1 + 0 by omega]
  exact pp_main2 S 0
 show (if (2:Int) = 2 then _ else _) = _
 rw [if_pos rfl,show (((0:Int),(0:Int),w):Wt).1.toNat = 0 from rfl,h3]
 simp only [pp_finM]
 show ((Wd.leave _ 0).setSt _ 1,_) = _
 rw [pp_leave hC]
 rfl
theorem pp_rec1 {i g:Nat} {C:Ch} {y:Int} {b:List Int} {B E:Int} (hc:Cs[i]? = some C) (hS:C.S = []) (hb:C.buf = y :: b) :
  chanM (ppW S m N A cs Cs out ck) [] g (14,(i:Int),B,E) = ⟨(ppW S m N A cs (Cs.set i ⟨b,[],C.R,C.cl⟩) out ck).fin (14,(i:Int),B,E) ((g:Int),0,y) true,[],none⟩:=by
 have h1:chanM (ppW S m N A cs Cs out ck) [] g (14,(i:Int),B,E) = (recvM (ppW S m N A cs Cs out ck) [] g (14,(i:Int),B,E) (0,(i:Int),B) 0).getD (Dd.mk (waitM (ppW S m N A cs Cs out ck) g (14,(i:Int),B,E)) [] none):=rfl
 rw [h1]
 have hr:mRecv C = (⟨b,[],C.R,C.cl⟩,(y,true,zw,false),0):=by
  obtain ⟨buf,S0,R,cl⟩:=C
  simp only at hS hb
  subst hS hb
  rfl
 unfold recvM
 simp only [pp_ch hc,hr,if_true,pp_setCh]
 rfl
theorem pp_rec2 {i g e:Nat} {C:Ch} {x:Pg} {y w a:Int} {b:List Int} {S':List Wt} {B E:Int} (hc:Cs[i]? = some C) (hS:C.S = (((e + 1:Nat):Int),0,w) :: S') (hb:C.buf ++ [w] = y :: b) (h:cs[e]? = some x) (hs:x.s = 2) (hp:1 ≤ x.p)
  (hi:((ppFs S m).getD (e + 1) [])[x.p - 1]? = some (13,a,1,0)) (hC:(Cs.set i ⟨b,S',C.R,C.cl⟩).map (leF ((e + 1:Nat):Int)) = Cs.set i ⟨b,S',C.R,C.cl⟩) :
  chanM (ppW S m N A cs Cs out ck) [] g (14,(i:Int),B,E) = ⟨(ppW S m N A (cs.set e ⟨x.p,1,x.v,x.y⟩) (Cs.set i ⟨b,S',C.R,C.cl⟩) out ck).fin (14,(i:Int),B,E) ((g:Int),0,y) true,[((e + 1:Nat):Int)],none⟩:=by
 have h1:chanM (ppW S m N A cs Cs out ck) [] g (14,(i:Int),B,E) = (recvM (ppW S m N A cs Cs out ck) [] g (14,(i:Int),B,E) (0,(i:Int),B) 0).getD (Dd.mk (waitM (ppW S m N A cs Cs out ck) g (14,(i:Int),B,E)) [] none):=rfl
 rw [h1]
 have hr:mRecv C = (⟨b,S',C.R,C.cl⟩,(y,true,(((e + 1:Nat):Int),0,w),true),0):=by
  obtain ⟨buf,S0,R,cl⟩:=C
  simp only at hS hb
  subst hS
  unfold mRecv
  simp only
  rw [hb]
 unfold recvM
 simp only [pp_ch hc,hr,if_true,pp_setCh,pp_goS h hs hp hi hC]
 rfl
theorem pp_rec3 {i g:Nat} {C:Ch} {B E:Int} (hc:Cs[i]? = some C) (hS:C.S = []) (hb:C.buf = []) (hcl:C.cl = false) :
  chanM (ppW S m N A cs Cs out ck) [] g (14,(i:Int),B,E) = ⟨(ppW S m N A cs (Cs.set i ⟨[],[],C.R ++ [((g:Int),0,0)],false⟩) out ck).setSt g 2,[],none⟩:=by
 have h1:chanM (ppW S m N A cs Cs out ck) [] g (14,(i:Int),B,E) = (recvM (ppW S m N A cs Cs out ck) [] g (14,(i:Int),B,E) (0,(i:Int),B) 0).getD (Dd.mk (waitM (ppW S m N A cs Cs out ck) g (14,(i:Int),B,E)) [] none):=rfl
 rw [h1]
 have hr:mRecv C = (C,(0,false,zw,false),5):=by
  obtain ⟨buf,S0,R,cl⟩:=C
  simp only at hS hb hcl
  subst hS hb hcl
  rfl
 have h2:recvM (ppW S m N A cs Cs out ck) [] g (14,(i:Int),B,E) (0,(i:Int),B) 0 = none:=by
  unfold recvM
  simp only [pp_ch hc,hr]
  rfl
 rw [h2]
 have h3:wasF (g:Int) ((ppW S m N A cs Cs out ck).g g).regs 0 ((ppW S m N A cs Cs out ck).cas (14,(i:Int),B,E)) (ppW S m N A cs Cs out ck).Cs = Cs.set i ⟨[],[],C.R ++ [((g:Int),0,0)],false⟩:=by
  show waF (g:Int) _ 0 (0,(i:Int),B) Cs = _
  unfold waF
  simp only [Int.toNat_natCast,hc]
  rw [hS,hb,hcl]
  rfl
 unfold waitM
 rw [h3]
 rfl
theorem pp_sen1 {i c e:Nat} {C:Ch} {x r:Pg} {a z:Int} {R':List Wt} (hc:Cs[i]? = some C) (hcl:C.cl = false) (hR:C.R = (((e + 1:Nat):Int),0,z) :: R') (hx:cs[c]? = some x) (h:cs[e]? = some r) (hs:r.s = 2) (hp:1 ≤ r.p)
  (hi:((ppFs S m).getD (e + 1) [])[r.p - 1]? = some (14,a,1,2)) (hC:(Cs.set i ⟨C.buf,C.S,R',false⟩).map (leF ((e + 1:Nat):Int)) = Cs.set i ⟨C.buf,C.S,R',false⟩) :
  chanM (ppW S m N A cs Cs out ck) [] (c + 1) (13,(i:Int),1,0) = ⟨ppW S m N A (cs.set e ⟨r.p,1,x.v,1⟩) (Cs.set i ⟨C.buf,C.S,R',false⟩) out ck,[((e + 1:Nat):Int)],none⟩:=by
 have h1:chanM (ppW S m N A cs Cs out ck) [] (c + 1) (13,(i:Int),1,0) = (sendM (ppW S m N A cs Cs out ck) [] (c + 1) (13,(i:Int),1,0) (1,(i:Int),1) 0).getD (Dd.mk (waitM (ppW S m N A cs Cs out ck) (c + 1) (13,(i:Int),1,0)) [] none):=rfl
 rw [h1]
 have hv:((ppW S m N A cs Cs out ck).g (c + 1)).rg 1 = x.v:=by rw [pp_gc hx];rfl
 have hr:∀ M,mSend M C x.v = (⟨C.buf,C.S,R',false⟩,(((e + 1:Nat):Int),0,x.v),true,0):=fun M=>by
  obtain ⟨buf,S0,R,cl⟩:=C
  simp only at hR hcl
  subst hR hcl
  rfl
 unfold sendM
 simp only [pp_ch hc,hv,hr,pp_setCh,if_true,pp_goR h hs hp hi hC]
 rfl
theorem pp_senM {i c:Nat} {C:Ch} {x:Pg} {z:Int} {R':List Wt} (hc:Cs[i]? = some C) (hcl:C.cl = false) (hR:C.R = (0,0,z) :: R') (hx:cs[c]? = some x) (hs:A.s = 2) (hk:A.k = S + 2) (hC:(Cs.set i ⟨C.buf,C.S,R',false⟩).map (leF 0) = Cs.set i ⟨C.buf,C.S,R',false⟩) :
  chanM (ppW S m N A cs Cs out ck) [] (c + 1) (13,(i:Int),1,0) = ⟨ppW S m N ⟨A.k,1,A.b,x.v,1⟩ cs (Cs.set i ⟨C.buf,C.S,R',false⟩) out ck,[0],none⟩:=by
 have h1:chanM (ppW S m N A cs Cs out ck) [] (c + 1) (13,(i:Int),1,0) = (sendM (ppW S m N A cs Cs out ck) [] (c + 1) (13,(i:Int),1,0) (1,(i:Int),1) 0).getD (Dd.mk (waitM (ppW S m N A cs Cs out ck) (c + 1) (13,(i:Int),1,0)) [] none):=rfl
 rw [h1]
 have hv:((ppW S m N A cs Cs out ck).g (c + 1)).rg 1 = x.v:=by rw [pp_gc hx];rfl
 have hr:∀ M,mSend M C x.v = (⟨C.buf,C.S,R',false⟩,(0,0,x.v),true,0):=fun M=>by
  obtain ⟨buf,S0,R,cl⟩:=C
  simp only at hR hcl
  subst hR hcl
  rfl
 unfold sendM
 simp only [pp_ch hc,hv,hr,pp_setCh,if_true,pp_goM hs hk hC]
 rfl
theorem pp_sen2 {i c:Nat} {C:Ch} {x:Pg} (hiS:i ≤ S) (hc:Cs[i]? = some C) (hcl:C.cl = false) (hR:C.R = []) (hb:C.buf.length < N) (hx:cs[c]? = some x) :
  chanM (ppW S m N A cs Cs out ck) [] (c + 1) (13,(i:Int),1,0) = ⟨ppW S m N A cs (Cs.set i ⟨C.buf ++ [x.v],C.S,[],false⟩) out ck,[],none⟩:=by
 have h1:chanM (ppW S m N A cs Cs out ck) [] (c + 1) (13,(i:Int),1,0) = (sendM (ppW S m N A cs Cs out ck) [] (c + 1) (13,(i:Int),1,0) (1,(i:Int),1) 0).getD (Dd.mk (waitM (ppW S m N A cs Cs out ck) (c + 1) (13,(i:Int),1,0)) [] none):=rfl
 rw [h1]
 have hv:((ppW S m N A cs Cs out ck).g (c + 1)).rg 1 = x.v:=by rw [pp_gc hx];rfl
 have hr:mSend N C x.v = (⟨C.buf ++ [x.v],C.S,[],false⟩,zw,false,0):=by
  obtain ⟨buf,S0,R,cl⟩:=C
  simp only at hR hcl hb
  subst hR hcl
  unfold mSend
  show (if false = true then _ else if buf.length < N then _ else _) = _
  rw [if_neg (by decide),if_pos hb]
 unfold sendM
 simp only [pp_ch hc,hv,pp_N hiS,hr,pp_setCh]
 rfl
theorem pp_sen3 {i c:Nat} {C:Ch} {x:Pg} (hiS:i ≤ S) (hc:Cs[i]? = some C) (hcl:C.cl = false) (hR:C.R = []) (hb:¬ C.buf.length < N) (hx:cs[c]? = some x) :
  chanM (ppW S m N A cs Cs out ck) [] (c + 1) (13,(i:Int),1,0) = ⟨ppW S m N A (cs.set c ⟨x.p,2,x.v,x.y⟩) (Cs.set i ⟨C.buf,C.S ++ [(((c + 1:Nat):Int),0,x.v)],[],false⟩) out ck,[],none⟩:=by
 have h1:chanM (ppW S m N A cs Cs out ck) [] (c + 1) (13,(i:Int),1,0) = (sendM (ppW S m N A cs Cs out ck) [] (c + 1) (13,(i:Int),1,0) (1,(i:Int),1) 0).getD (Dd.mk (waitM (ppW S m N A cs Cs out ck) (c + 1) (13,(i:Int),1,0)) [] none):=rfl
 rw [h1]
 have hv:((ppW S m N A cs Cs out ck).g (c + 1)).rg 1 = x.v:=by rw [pp_gc hx];rfl
 have hr:mSend N C x.v = (C,zw,false,6):=by
  obtain ⟨buf,S0,R,cl⟩:=C
  simp only at hR hcl hb
  subst hR hcl
  unfold mSend
  show (if false = true then _ else if buf.length < N then _ else _) = _
  rw [if_neg (by decide),if_neg hb]
 have h2:sendM (ppW S m N A cs Cs out ck) [] (c + 1) (13,(i:Int),1,0) (1,(i:Int),1) 0 = none:=by
  unfold sendM
  simp only [pp_ch hc,hv,pp_N hiS,hr]
  rfl
 rw [h2]
 have hv2:((ppW S m N A cs Cs out ck).g (c + 1)).regs.getD 1 0 = x.v:=by rw [pp_gc hx];rfl
 have h3:wasF ((c + 1:Nat):Int) ((ppW S m N A cs Cs out ck).g (c + 1)).regs 0 ((ppW S m N A cs Cs out ck).cas (13,(i:Int),1,0)) (ppW S m N A cs Cs out ck).Cs = Cs.set i ⟨C.buf,C.S ++ [(((c + 1:Nat):Int),0,x.v)],[],false⟩:=by
  show waF ((c + 1:Nat):Int) _ 0 (1,(i:Int),1) Cs = _
  unfold waF
  simp only [Int.toNat_natCast,hc]
  rw [if_neg (by decide),if_pos trivial]
  show Cs.set i ⟨C.buf,C.S ++ [(((c + 1:Nat):Int),((0:Nat):Int),((ppW S m N A cs Cs out ck).g (c + 1)).regs.getD 1 0)],C.R,C.cl⟩ = _
  rw [hv2,hR,hcl]
  rfl
 unfold waitM
 rw [h3]
 show Dd.mk ((ppW S m N A cs (Cs.set i ⟨C.buf,C.S ++ [(((c + 1:Nat):Int),0,x.v)],[],false⟩) out ck).setSt (c + 1) 2) [] none = _
 rw [pp_st hx]
end
end Go.Proofs.YtphfaekpckbepaaGreat
open Go Go.RowKit
set_option linter.unusedVariables false
namespace Go.Proofs.YtphfaekpckbepaaGreat
theorem mod_place {N e i:Nat} (he:e < N) (hi:i ≤ N):(e + i) % N = if e + i < N then e + i else e + i - N:=by
 split
 ·exact Nat.mod_eq_of_lt ‹_›
 ·rw [Nat.mod_eq_sub_mod (by omega),Nat.mod_eq_of_lt (by omega)]
theorem mod_ne {N e i j:Nat} (he:e < N) (hi:i < N) (hj:j < N) (h:i ≠ j):(e + i) % N ≠ (e + j) % N:=by
 rw [mod_place he (by omega),mod_place he (by omega)];split <;> split <;> omega
def Plain (w:World) (p:Nat):Prop:=∃ ca ta,w.heap[p]? = some (.cells ca ta (0,0))
theorem Plain.chg {F:List Nat} {w w':World} {p:Nat} (h:Plain w p) (c:Chg F w w') (hp:p ∉ F):Plain w' p:=by
 obtain ⟨ca,ta,h1⟩:=h
 exact ⟨ca,ta,by rw [c.block p (Array.getElem?_eq_some_iff.1 h1).1 hp];exact h1⟩
theorem Plain.set {w:World} {p b k:Nat} {v:Value} (h:Plain w p):Plain (w.setCell ⟨b,k,none⟩ v) p:=by
 obtain ⟨ca,ta,h1⟩:=h
 by_cases e:p = b
 ·subst e;exact ⟨_,ta,heap_setCell_same w p k ca ta v h1⟩
 ·exact ⟨ca,ta,by rw [heap_setCell_other w _ p v e];exact h1⟩
theorem Plain.new (w:World) (cs:Array Value) (t:TypeId) {p:Nat} (hp:p = w.heap.size):Plain (w.alloc (.cells cs t)) p:=by
 subst hp;exact ⟨cs,t,heap_alloc_new w _⟩
structure RingAt (w:World) (p o g N e:Nat) (l:List Int):Prop where
 n1:1 ≤ N
 n2:N ≤ 1024
 ll:l.length ≤ N
 el:e < N
 ne:g ≠ p
 c0:w.cell? ⟨p,o,none⟩ = some (.slice (some ⟨g,0,none⟩) N N)
 c1:w.cell? ⟨p,o + 1,none⟩ = some (.int .i64 (e:Int))
 c2:w.cell? ⟨p,o + 2,none⟩ = some (.int .i64 (l.length:Int))
 f1:w.frozen? ⟨p,o + 1,none⟩ = false
 f2:w.frozen? ⟨p,o + 2,none⟩ = false
 pl:Plain w p
 row:∃ cs:List Value,cs.length = N ∧ Blk w g cs ∧ ∀ i (h:i < l.length),cs[(e + i) % N]? = some (.int .i64 l[i])
theorem RingAt.chg {F:List Nat} {w w':World} {p o g N e:Nat} {l:List Int} (h:RingAt w p o g N e l) (c:Chg F w w') (hp:p ∉ F) (hg:g ∉ F):RingAt w' p o g N e l:=by
 obtain ⟨cs,h1,h2,h3⟩:=h.row
 have hk:=c.block p (World.block_lt_of_cell? w _ h.c0) hp
 refine ⟨h.n1,h.n2,h.ll,h.el,h.ne,cell_chg h.c0 c hp,cell_chg h.c1 c hp,cell_chg h.c2 c hp,?_,?_,h.pl.chg c hp,cs,h1,h2.chg c hg,h3⟩
 ·rw [World.frozen?_of_block (a:=⟨p,o + 1,none⟩) hk];exact h.f1
 ·rw [World.frozen?_of_block (a:=⟨p,o + 2,none⟩) hk];exact h.f2
theorem RingAt.below {w w':World} {p o g N e:Nat} {l:List Int} (h:RingAt w p o g N e l) (hb:Below w.heap.size w w'):RingAt w' p o g N e l :=
 h.chg (Chg.of_below (F:=[]) hb) (by simp) (by simp)
theorem RingAt.lt {w:World} {p o g N e:Nat} {l:List Int} (h:RingAt w p o g N e l):p < w.heap.size ∧ g < w.heap.size:=by
 obtain ⟨cs,h1,h2,h3⟩:=h.row
 have:=h.n1
 exact ⟨World.block_lt_of_cell? w _ h.c0,h2.lt (by omega)⟩
structure RChg (p o g:Nat) (w w':World):Prop where
 chg:Chg [p,g] w w'
 far:∀ k,k < o → w'.cell? ⟨p,k,none⟩ = w.cell? ⟨p,k,none⟩ ∧ w'.frozen? ⟨p,k,none⟩ = w.frozen? ⟨p,k,none⟩
theorem RChg.refl (p o g:Nat) (w:World):RChg p o g w w:=⟨Chg.refl _ _,fun _ _=>⟨rfl,rfl⟩⟩
theorem RChg.trans {p o g:Nat} {a b c:World} (h:RChg p o g a b) (k:RChg p o g b c):RChg p o g a c :=
 ⟨h.chg.trans k.chg (fun x hx=>.inl hx),fun i hi=>⟨(k.far i hi).1.trans (h.far i hi).1,(k.far i hi).2.trans (h.far i hi).2⟩⟩
theorem RChg.of_below {p o g:Nat} {w w':World} (hp:p < w.heap.size) (h:Below w.heap.size w w'):RChg p o g w w' :=
 ⟨Chg.of_below h,fun k hk=>⟨h.cell (p:=⟨p,k,none⟩) hp,h.frozen (p:=⟨p,k,none⟩) hp⟩⟩
theorem RChg.set {p o g:Nat} {w w':World} (h:RChg p o g w w') (k:Nat) (v:Value) (hk:o ≤ k):RChg p o g w (w'.setCell ⟨p,k,none⟩ v) :=
 ⟨h.chg.setCell v (.inl (by simp)),fun i hi=>by
  rw [World.cell?_setCell_other _ _ _ _ (by simp <;> omega),World.frozen?_setCell];exact h.far i hi⟩
theorem RChg.setG {p o g:Nat} {w w':World} (h:RChg p o g w w') (k:Nat) (v:Value) (hg:g ≠ p):RChg p o g w (w'.setCell ⟨g,k,none⟩ v) :=
 ⟨h.chg.setCell v (.inl (by simp)),fun i hi=>by
  rw [World.cell?_setCell_other _ _ _ _ (by simp <;> omega),World.frozen?_setCell];exact h.far i hi⟩
theorem RingAt.push {w:World} {p o g N e:Nat} {l:List Int} (h:RingAt w p o g N e l) (hl:l.length < N) (v:Int) :
  RingAt ((w.setCell ⟨g,(e + l.length) % N,none⟩ (.int .i64 v)).setCell ⟨p,o + 2,none⟩ (.int .i64 ((l.length:Int) + 1))) p o g N e (l ++ [v]) ∧ RChg p o g w ((w.setCell ⟨g,(e + l.length) % N,none⟩ (.int .i64 v)).setCell ⟨p,o + 2,none⟩ (.int .i64 ((l.length:Int) + 1))):=by
 obtain ⟨cs,h1,h2,h3⟩:=h.row
 have hne:=h.ne
 have el:=h.el
 refine ⟨⟨h.n1,h.n2,by simp;omega,h.el,hne,?_,?_,?_,?_,?_,h.pl.set.set,cs.set ((e + l.length) % N) (.int .i64 v),by simpa using h1,(h2.set _ _).setFar hne,?_⟩,((RChg.refl _ _ _ _).setG _ _ hne).set _ _ (by omega)⟩
 ·rw [World.cell?_setCell_other _ _ _ _ (by simp),World.cell?_setCell_other _ _ _ _ (by simp <;> omega)];exact h.c0
 ·rw [World.cell?_setCell_other _ _ _ _ (by simp),World.cell?_setCell_other _ _ _ _ (by simp <;> omega)];exact h.c1
 ·rw [World.cell?_setCell_same' _ _ _ (by rw [World.cell?_setCell_other _ _ _ _ (by simp <;> omega),h.c2];rfl)];simp
 ·rw [World.frozen?_setCell,World.frozen?_setCell];exact h.f1
 ·rw [World.frozen?_setCell,World.frozen?_setCell];exact h.f2
 ·intro i hi
  simp at hi
  have hm:(e + l.length) % N < N:=Nat.mod_lt _ (by omega)
  by_cases hil:i = l.length
  ·subst hil
   rw [List.getElem?_set_self (by omega)];simp
  ·rw [List.getElem?_set_ne (fun hc=>mod_ne el (by omega) (by omega) (by omega) hc),List.getElem_append_left (by omega)]
   exact h3 i (by omega)
theorem RingAt.pop {w:World} {p o g N e:Nat} {x:Int} {l:List Int} (h:RingAt w p o g N e (x :: l)) :
  RingAt ((w.setCell ⟨p,o + 1,none⟩ (.int .i64 (((e + 1) % N:Nat):Int))).setCell ⟨p,o + 2,none⟩ (.int .i64 (l.length:Int))) p o g N ((e + 1) % N) l ∧ RChg p o g w ((w.setCell ⟨p,o + 1,none⟩ (.int .i64 (((e + 1) % N:Nat):Int))).setCell ⟨p,o + 2,none⟩ (.int .i64 (l.length:Int))):=by
 obtain ⟨cs,h1,h2,h3⟩:=h.row
 have hne:=h.ne
 have el:=h.el
 have ll:=h.ll
 simp at ll
 refine ⟨⟨h.n1,h.n2,by omega,Nat.mod_lt _ (by omega),hne,?_,?_,?_,?_,?_,h.pl.set.set,cs,h1,(h2.setFar hne).setFar hne,?_⟩,((RChg.refl _ _ _ _).set _ _ (by omega)).set _ _ (by omega)⟩
 ·rw [World.cell?_setCell_other _ _ _ _ (by simp),World.cell?_setCell_other _ _ _ _ (by simp)];exact h.c0
 ·rw [World.cell?_setCell_other _ _ _ _ (by simp),World.cell?_setCell_same' _ _ _ (by rw [h.c1];rfl)]
 ·rw [World.cell?_setCell_same' _ _ _ (by rw [World.cell?_setCell_other _ _ _ _ (by simp),h.c2];rfl)]
 ·rw [World.frozen?_setCell,World.frozen?_setCell];exact h.f1
 ·rw [World.frozen?_setCell,World.frozen?_setCell];exact h.f2
 ·intro i hi
  have:=h3 (i + 1) (by simp <;> omega)
  simp only [List.getElem_cons_succ] at this
  rw [← this]
  congr 1
  rw [Nat.mod_add_mod,Nat.add_assoc,Nat.add_comm 1]
theorem RingAt.cell {w:World} {p o g N e:Nat} {l:List Int} (h:RingAt w p o g N e l) (i:Nat) (hi:i < l.length):w.cell? ⟨g,(e + i) % N,none⟩ = some (.int .i64 l[i]):=by
 obtain ⟨cs,h1,h2,h3⟩:=h.row
 exact (h2 _ _ (h3 i hi)).1
theorem RingAt.spot {w:World} {p o g N e:Nat} {l:List Int} (h:RingAt w p o g N e l) (i:Nat) (hi:i < N):(w.cell? ⟨g,i,none⟩).isSome = true ∧ w.frozen? ⟨g,i,none⟩ = false:=by
 obtain ⟨cs,h1,h2,h3⟩:=h.row
 obtain ⟨k1,k2⟩:=h2.at i (by omega)
 exact ⟨by rw [k1];rfl,k2⟩
theorem rlen_any (w:World) (p o g N e:Nat) (l:List Int) (h:RingAt w p o g N e l) :
  Calls Tryz.prog 79 #[.pointer (some ⟨p,o,none⟩)] w fun r w'=>r = .returned (.int .i64 (l.length:Int)) ∧ w' = w:=by
 have c2:=h.c2
 clear h
 go_enter Tryz.func79,Tryz.ntmps79
 go_wp2
 go_ret
 exact ⟨rfl,rfl⟩
theorem rroom_any (w:World) (p o g N e:Nat) (l:List Int) (h:RingAt w p o g N e l) :
  Calls Tryz.prog 99 #[.pointer (some ⟨p,o,none⟩)] w fun r w'=>r = .returned (.int .i64 (N:Int)) ∧ w' = w:=by
 have c0:=h.c0
 clear h
 go_enter Tryz.func99,Tryz.ntmps99
 go_wp2
 go_ret
 exact ⟨rfl,rfl⟩
theorem place_any (w:World) (p o g N e:Nat) (l:List Int) (h:RingAt w p o g N e l) (k:Nat) (hk:k ≤ 1024) :
  Calls Tryz.prog 75 #[.pointer (some ⟨p,o,none⟩),.int .i64 (k:Int)] w fun r w'=>r = .returned (.int .i64 (((e + k) % N:Nat):Int)) ∧ ∃ m,w' = w.drewN m:=by
 have c0:=h.c0
 have c1:=h.c1
 have n1:=h.n1
 have n2:=h.n2
 have el:=h.el
 clear h
 go_enter Tryz.func75,Tryz.ntmps75
 go_wp2_with fail
 go_quiet (fail)
 go_wp2
 go_ret
 exact ⟨ret_int (by simp),_,rfl⟩
theorem drewN_ring {w:World} {p o g N e:Nat} {l:List Int} (h:RingAt w p o g N e l) (m:Nat):RingAt (w.drewN m) p o g N e l:=h.below (below_drewN (Below.refl _ _) m)
theorem push_any (w:World) (p o g N e:Nat) (l:List Int) (v:Int) (h:RingAt w p o g N e l) (hl:l.length < N) :
  Calls Tryz.prog 96 #[.pointer (some ⟨p,o,none⟩),.int .i64 v] w fun r w'=>r = .returned (.bool true) ∧ RingAt w' p o g N e (l ++ [v]) ∧ RChg p o g w w':=by
 have c0:=h.c0
 have c1:=h.c1
 have c2:=h.c2
 have n1:=h.n1
 have n2:=h.n2
 have el:=h.el
 have ll:=h.ll
 have ne:=h.ne
 have ne':p ≠ g:=fun e=>ne e.symm
 obtain ⟨hpl,hgl⟩:=h.lt
 have HPL:=Lib.hid hpl;clear hpl hgl
 obtain ⟨n,hn⟩:∃ n,n = l.length:=⟨_,rfl⟩
 have H:=Lib.hid h
 have HL:=Lib.hid hl
 have hl':n < N:=by omega
 have hb:((n:Int) == (N:Int)) = false:=by rw [beq_eq_false_iff_ne];omega
 rw [← hn] at c2
 have hs:∀ w',Below w.heap.size w w' → RingAt ((w'.setCell ⟨g,(e + n) % N,none⟩ (.int .i64 v)).setCell ⟨p,o + 2,none⟩ (.int .i64 ((n:Int) + 1))) p o g N e (l ++ [v]) ∧ RChg p o g w ((w'.setCell ⟨g,(e + n) % N,none⟩ (.int .i64 v)).setCell ⟨p,o + 2,none⟩ (.int .i64 ((n:Int) + 1))):=fun w' hb=>by
  have:=(h.below hb).push HL.out v
  rw [← hn] at this
  exact ⟨this.1,(RChg.of_below HPL.out hb).trans this.2⟩
 have HS:=Lib.hid hs
 obtain ⟨s1,s2⟩:=h.spot ((e + n) % N) (Nat.mod_lt _ (by omega))
 obtain ⟨v0,s1⟩:=Option.isSome_iff_exists.1 s1
 have f2:=h.f2
 have hm:(((e + n) % N:Nat):Int) < (N:Int):=by have:=Nat.mod_lt (e + n) (show 0 < N by omega);omega
 obtain ⟨k,hk⟩:∃ k,k = (e + n) % N:=⟨_,rfl⟩
 rw [← hk] at s1 s2 hm HS
 clear h hs hl
 have HK:=Lib.hid hk;clear hk
 have HN:=Lib.hid hn;clear hn
 go_enter Tryz.func96,Tryz.ntmps96
 go_wp2_with fail
 go_quiet (fail)
 go_wp2_with fail
 go_region_with (go_at_call 75;refine (place_any _ p o g N e l (drewN_ring H.out _) n (by omega)).mono ?_;rintro r w1 ⟨rfl,mq,rfl⟩;rw [← HK.out])
 all_goals
  go_wp2
  go_ret
  exact ⟨rfl,HS.out _ (below_drewN (Below.refl _ _) _)⟩
theorem push_full (w:World) (p o g N e:Nat) (l:List Int) (v:Int) (h:RingAt w p o g N e l) (hl:¬ l.length < N) :
  Calls Tryz.prog 96 #[.pointer (some ⟨p,o,none⟩),.int .i64 v] w fun r w'=>r = .returned (.bool false) ∧ RingAt w' p o g N e l ∧ RChg p o g w w':=by
 have c0:=h.c0
 have c2:=h.c2
 have ll:=h.ll
 obtain ⟨hpl,hgl⟩:=h.lt
 have HPL:=Lib.hid hpl;clear hpl hgl
 obtain ⟨n,hn⟩:∃ n,n = l.length:=⟨_,rfl⟩
 have H:=Lib.hid h
 have hb:((n:Int) == (N:Int)) = true:=by rw [beq_iff_eq];omega
 rw [← hn] at c2
 clear h hl ll
 have HN:=Lib.hid hn;clear hn
 go_enter Tryz.func96,Tryz.ntmps96
 go_wp2_with fail
 go_quiet (fail)
 go_wp2
 go_ret
 exact ⟨rfl,drewN_ring H.out _,RChg.of_below HPL.out (below_drewN (Below.refl _ _) _)⟩
theorem pop_none (w:World) (p o g N e:Nat) (h:RingAt w p o g N e []) :
  Calls Tryz.prog 64 #[.pointer (some ⟨p,o,none⟩)] w fun r w'=>r = .returned (.tuple #[.int .i64 0,.bool false]) ∧ RingAt w' p o g N e [] ∧ RChg p o g w w':=by
 have c2:w.cell? ⟨p,o + 2,none⟩ = some (.int .i64 0):=h.c2
 obtain ⟨hpl,hgl⟩:=h.lt
 have HPL:=Lib.hid hpl;clear hpl hgl
 have H:=Lib.hid h
 clear h
 go_enter Tryz.func64,Tryz.ntmps64
 go_wp2
 go_ret2
 exact ⟨rfl,H.out,RChg.refl _ _ _ _⟩
theorem pop_any (w:World) (p o g N e:Nat) (x:Int) (l:List Int) (h:RingAt w p o g N e (x :: l)) :
  Calls Tryz.prog 64 #[.pointer (some ⟨p,o,none⟩)] w fun r w'=>r = .returned (.tuple #[.int .i64 x,.bool true]) ∧ RingAt w' p o g N ((e + 1) % N) l ∧ RChg p o g w w':=by
 have c0:=h.c0
 have c1:=h.c1
 have c2:=h.c2
 have n1:=h.n1
 have n2:=h.n2
 have el:=h.el
 have ll:=h.ll
 have f1:=h.f1
 have f2:=h.f2
 obtain ⟨hpl,hgl⟩:=h.lt
 have HPL:=Lib.hid hpl;clear hpl hgl
 have H:=Lib.hid h
 simp only [List.length_cons] at ll c2
 obtain ⟨n,hn⟩:∃ n,n = l.length:=⟨_,rfl⟩
 rw [← hn] at c2 ll
 have hx:w.cell? ⟨g,e,none⟩ = some (.int .i64 x):=by
  have:=h.cell 0 (by simp)
  rwa [Nat.add_zero,Nat.mod_eq_of_lt el] at this
 have hb:(((n + 1:Nat):Int) == 0) = false:=by rw [beq_eq_false_iff_ne];omega
 have hel:(e:Int) < (N:Int):=by omega
 have hs:∀ w',Below w.heap.size w w' → RingAt ((w'.setCell ⟨p,o + 1,none⟩ (.int .i64 (((e + 1) % N:Nat):Int))).setCell ⟨p,o + 2,none⟩ (.int .i64 (n:Int))) p o g N ((e + 1) % N) l ∧ RChg p o g w ((w'.setCell ⟨p,o + 1,none⟩ (.int .i64 (((e + 1) % N:Nat):Int))).setCell ⟨p,o + 2,none⟩ (.int .i64 (n:Int))):=fun w' hb=>by
  have:=(h.below hb).pop
  rw [← hn] at this
  exact ⟨this.1,(RChg.of_below HPL.out hb).trans this.2⟩
 have HS:=Lib.hid hs;clear hs h
 have HN:=Lib.hid hn;clear hn
 obtain ⟨k,hk⟩:∃ k,k = (e + 1) % N:=⟨_,rfl⟩
 rw [← hk] at HS ⊢
 have HK:=Lib.hid hk;clear hk
 go_enter Tryz.func64,Tryz.ntmps64
 go_wp2_with fail
 go_quiet (fail)
 go_wp2_with fail
 refine (place_any _ p o g N e (x :: l) (drewN_ring H.out _) 1 (by omega)).mono ?_
 rintro r w1 ⟨rfl,mq,rfl⟩
 rw [← HK.out]
 go_wp2
 go_ret2
 refine ⟨rfl,?_⟩
 have:=HS.out _ (below_drewN (below_drewN (Below.refl _ _) nq) mq)
 simpa using this
def roomOf (z:Int):Nat:=(max 1 (min z 1024)).toNat
theorem roomOf_le (z:Int):1 ≤ roomOf z ∧ roomOf z ≤ 1024:=by unfold roomOf;omega
def fill (L:List Int) (K i:Nat):List Int:=L.take i ++ List.replicate (K - i) 0
theorem fill_len (L:List Int) (K i:Nat) (hK:K ≤ L.length) (hi:i ≤ K):(fill L K i).length = K:=by
 unfold fill;rw [List.length_append,List.length_take,List.length_replicate];omega
theorem fill_set (L:List Int) (K i:Nat) (hK:K ≤ L.length) (hi:i < K):(fill L K i).set i (L[i]'(by omega)) = fill L K (i + 1):=by
 unfold fill
 have hl:(L.take i).length = i:=by rw [List.length_take];omega
 have h1:L.take (i + 1) = L.take i ++ [L[i]'(by omega)]:=by rw [List.take_add_one,List.getElem?_eq_getElem (by omega)];rfl
 rw [List.set_append_right _ _ (by omega),hl,Nat.sub_self,show K - i = (K - (i + 1)) + 1 by omega,List.replicate_succ,List.set_cons_zero,h1,List.append_assoc]
 rfl
theorem fill_end (L:List Int) (K:Nat):fill L K K = L.take K:=by unfold fill;simp
theorem fill_zero (L:List Int) (K:Nat):fill L K 0 = List.replicate K 0:=by unfold fill;simp
theorem intc_set (l:List Int) (i:Nat) (v:Int):intc (l.set i v) = (intc l).set i (.int .i64 v):=by unfold intc;rw [List.map_set]
theorem RowAt.of_blk {w:World} {b:Nat} {l:List Int} (h:Blk w b (intc l)) (hb:b < w.heap.size) (hl:l.length ≤ maxLen):RowAt w (some ⟨b,0,none⟩) l.length l:=by
 refine ⟨Nat.le_refl _,hl,.inr ⟨_,0,rfl,hb,fun j hj=>?_,fun j v hj=>?_⟩⟩
 ·rw [Nat.zero_add]
  obtain ⟨h1,h2⟩:=h j _ (intc_at l j hj)
  exact ⟨by rw [h1];rfl,h2⟩
 ·rw [Nat.zero_add];exact (h j v hj).1
theorem Blk.of_own {w:World} {base n g cap:Nat} {e:TypeId} {xs:List Value} (h:w.ownsRow base e 1 (.slice (some ⟨g,0,none⟩) n cap) n xs):Blk w g xs ∧ g < w.heap.size:=by
 rcases h.2 with ⟨h0,_⟩ | ⟨g',cap',cur,hv,hb,hg,h1,h2,h3,h4⟩
 ·cases h0
 ·simp only [Value.slice.injEq,Option.some.injEq,Addr.mk.injEq,and_true,true_and] at hv
  obtain ⟨rfl,rfl⟩:=hv
  refine ⟨fun j v hj=>?_,(Array.getElem?_eq_some_iff.1 hg).1⟩
  rw [cell_of_row w g j cur e (0,0) hg]
  refine ⟨?_,frozen_of_row w g j cur e hg⟩
  rw [← h4,List.getElem?_take] at hj
  split at hj
  ·simpa using hj
  ·cases hj
theorem make_ints (w:World) (n:Nat) (hn:n ≤ 1000000):∃ w1,(Instr.makeSlice 22 (.int .i64 (n:Int)) (.int .i64 (n:Int))).run Tryz.prog w = .ok (.slice (some ⟨w.heap.size,0,none⟩) n n) w1 ∧ w1.ownsRow 0 3 1 (.slice (some ⟨w.heap.size,0,none⟩) n n) n (intc (List.replicate n 0)) ∧ w.grownBy w1 none:=by
 obtain ⟨i0,hi,hz0,hz1,hz2⟩:=info_parts info_int
 obtain ⟨w1,h1,h2,h3⟩:=run_make_full (P:=Tryz.prog) w 0 22 3 i0 _ 1 Tryz.underlying22 hi hz0 hz1 .i64 .i64 n (by rw [hz2];omega) (by unfold maxLen;omega) (Nat.zero_le _)
 rw [show (Value.int .i64 0).cells = #[Value.int .i64 0] from rfl,made_ints] at h2
 exact ⟨w1,h1,h2,h3⟩
theorem RingAt.new (w:World) (p g N:Nat) (h1:1 ≤ N) (h2:N ≤ 1024) (hne:g ≠ p) (hg:Blk w g (intc (List.replicate N 0))) (hp:Blk w p [.slice (some ⟨g,0,none⟩) N N,.int .i64 0,.int .i64 0]) (hpl:Plain w p):RingAt w p 0 g N 0 []:=by
 refine ⟨h1,h2,by simp,by omega,hne,(hp 0 _ rfl).1,(hp 1 _ rfl).1,(hp 2 _ rfl).1,(hp 1 _ rfl).2,(hp 2 _ rfl).2,hpl,_,?_,hg,fun i hi=>by simp at hi⟩
 rw [intc_len,List.length_replicate]
theorem rnew_any (z:Int) (w:World):Calls Tryz.prog 44 #[.int .i64 z] w fun r w'=>∃ p g,r = .returned (.pointer (some ⟨p,0,none⟩)) ∧ RingAt w' p 0 g (roomOf z) 0 [] ∧ w.heap.size ≤ p ∧ w.heap.size ≤ g ∧ Below w.heap.size w w':=by
 obtain ⟨N,hN⟩:∃ N,N = roomOf z:=⟨_,rfl⟩
 obtain ⟨h1,h2⟩:=roomOf_le z
 have hm:min (max z 1) 1024 = (N:Int):=by rw [hN];unfold roomOf;omega
 rw [← hN] at h1 h2 ⊢
 clear hN
 obtain ⟨w1,hmk,hown,hgrow⟩:=make_ints w N (by omega)
 have hb1:Below w.heap.size w w1:=(grownBy_chg hgrow).to_below0
 obtain ⟨hblk,hlt⟩:=Blk.of_own hown
 obtain ⟨g,hg⟩:∃ g,g = w.heap.size:=⟨_,rfl⟩
 have hpg:g < w1.heap.size:=by omega
 rw [← hg] at hmk hblk
 have HB:=Lib.hid hblk;clear hblk hown hgrow
 have HB1:=Lib.hid hb1;clear hb1
 have HG:=Lib.hid hg;clear hg hlt
 have HP:=Lib.hid hpg;clear hpg
 have hend:∀ cs,cs = [Value.slice (some ⟨g,0,none⟩) N N,.int .i64 0,.int .i64 0] → RingAt (w1.alloc (.cells cs.toArray 127)) w1.heap.size 0 g N 0 [] ∧ w.heap.size ≤ w1.heap.size ∧ w.heap.size ≤ g ∧ Below w.heap.size w (w1.alloc (.cells cs.toArray 127)):=fun cs hcs=>by
  subst hcs
  have hs:=HB1.out.size
  have hg:=HG.out
  exact ⟨RingAt.new _ _ _ _ h1 h2 (by have:=HP.out;omega) (HB.out.alloc _) (Blk.mk _ _ _ _ rfl) (Plain.new _ _ _ rfl),hs,by omega,HB1.out.alloc hs _⟩
 have HE:=Lib.hid hend;clear hend
 have hV:(N:Int) = 1 ∧ z < 1 ∨ (N:Int) = z ∧ 1 ≤ z ∧ z ≤ 1024 ∨ (N:Int) = 1024 ∧ 1024 < z:=by omega
 rcases hV with ⟨hV,hz⟩ | ⟨hV,hz,hz'⟩ | ⟨hV,hz⟩
 all_goals
  rw [hV] at hmk
  have HV:=Lib.hid hV;clear hV hm
  go_enter Tryz.func44,Tryz.ntmps44
  go_wp2
  go_ret
  exact ⟨_,g,rfl,HE.out _ rfl⟩
def takes (k:Int) (n:Nat):Nat:=min k.toNat n
theorem takes_le (k:Int) (n:Nat):takes k n ≤ n:=by unfold takes;omega
theorem rtake_any (w:World) (p o g N e:Nat) (l:List Int) (k:Int) (h:RingAt w p o g N e l) :
  Calls Tryz.prog 81 #[.pointer (some ⟨p,o,none⟩),.int .i64 k] w fun r w'=>∃ q e',r = .returned (.slice (some ⟨q,0,none⟩) (takes k l.length) (takes k l.length)) ∧ w.heap.size ≤ q ∧ RowAt w' (some ⟨q,0,none⟩) (takes k l.length) (l.take (takes k l.length)) ∧
   RingAt w' p o g N e' (l.drop (takes k l.length)) ∧ RChg p o g w w':=by
 obtain ⟨K,hK⟩:∃ K,K = takes k l.length:=⟨_,rfl⟩
 have hKl:=takes_le k l.length
 have hKn:K = min k.toNat l.length:=by rw [hK];rfl
 have ll:=h.ll
 have n2:=h.n2
 have c2:=h.c2
 have ne:=h.ne
 obtain ⟨hpl,hgl⟩:=h.lt
 rw [← hK] at hKl ⊢
 have hV:((K:Int) = 0 ∧ k < 0) ∨ ((K:Int) = k ∧ 0 ≤ k ∧ k ≤ (l.length:Int)) ∨ ((K:Int) = (l.length:Int) ∧ 0 ≤ k ∧ (l.length:Int) < k):=by omega
 clear hK hKn
 obtain ⟨w1,hmk,hown,hgrow⟩:=make_ints w K (by omega)
 have hb1:Below w.heap.size w w1:=(grownBy_chg hgrow).to_below0
 obtain ⟨hblk,hlt⟩:=Blk.of_own hown
 obtain ⟨q,hq⟩:∃ q,q = w.heap.size:=⟨_,rfl⟩
 have hlt':q < w1.heap.size:=by omega
 rw [← hq] at hmk hblk
 have hst:RingAt w1 p o g N ((e + 0) % N) (l.drop 0) ∧ RChg p o g w w1 ∧ Blk w1 q (intc (fill l K 0)) ∧ q < w1.heap.size:=⟨by rw [Nat.add_zero,Nat.mod_eq_of_lt h.el];exact h.below hb1,RChg.of_below hpl hb1,by rw [fill_zero];exact hblk,hlt'⟩
 have HST:=Lib.hid hst
 have HQ:Hid (q = w.heap.size ∧ q ≠ p ∧ q ≠ g ∧ g ≠ p):=Lib.hid ⟨hq,by omega,by omega,ne⟩
 have hstep:∀ (i:Nat) (w2 w3:World) (hi:i < K),RChg p o g w w2 → Blk w2 q (intc (fill l K i)) → q < w2.heap.size → RingAt w3 p o g N ((e + (i + 1)) % N) (l.drop (i + 1)) → RChg p o g w2 w3 →
   (w3.cell? ⟨q,i,none⟩).isSome = true ∧ w3.frozen? ⟨q,i,none⟩ = false ∧ (RingAt (w3.setCell ⟨q,i,none⟩ (.int .i64 (l[i]'(by omega)))) p o g N ((e + (i + 1)) % N) (l.drop (i + 1)) ∧ RChg p o g w (w3.setCell ⟨q,i,none⟩ (.int .i64 (l[i]'(by omega)))) ∧
    Blk (w3.setCell ⟨q,i,none⟩ (.int .i64 (l[i]'(by omega)))) q (intc (fill l K (i + 1))) ∧ q < (w3.setCell ⟨q,i,none⟩ (.int .i64 (l[i]'(by omega)))).heap.size):=fun i w2 w3 hi r2 b2 q2 r3 c3=>by
  obtain ⟨e1,e2,e3,e4⟩:=HQ.out
  have b3:=b2.chg c3.chg (by simp <;> omega)
  obtain ⟨s1,s2⟩:=b3.at i (by rw [intc_len,fill_len l K i hKl (by omega)];exact hi)
  have cs:Chg [q] w3 (w3.setCell ⟨q,i,none⟩ (.int .i64 (l[i]'(by omega)))):=(Chg.refl _ _).setCell _ (.inl (by simp))
  have r13:=r2.trans c3
  refine ⟨by rw [s1];rfl,s2,r3.chg cs (by simp <;> omega) (by simp <;> omega),⟨r13.chg.trans cs (fun x hx=>.inr (by simp at hx;omega)),fun j hj=>?_⟩,?_,by rw [World.size_setCell];exact Nat.lt_of_lt_of_le q2 c3.chg.size⟩
  ·rw [World.cell?_setCell_other _ _ _ _ (by simp <;> omega),World.frozen?_setCell];exact r13.far j hj
  ·rw [← fill_set l K i hKl hi,intc_set]
   exact b3.set i _
 have HSP:=Lib.hid hstep
 clear hst hstep hb1 hblk hlt hlt' hown hgrow h hgl hpl ne
 obtain ⟨n,hn⟩:∃ n,n = l.length:=⟨_,rfl⟩
 have hKl2:=hKl
 rw [← hn] at c2 hV hKl2 ll
 have HN:=Lib.hid hn;clear hn
 clear hq
 rcases hV with ⟨hV,hz⟩ | ⟨hV,hz,hz'⟩ | ⟨hV,hz,hz'⟩
 all_goals
  rw [hV] at hmk
  have HV:=Lib.hid hV;clear hV
  go_enter Tryz.func81,Tryz.ntmps81
  go_wp2_with fail
  go_loopw [17] (fun iv wr=>∃ i:Nat,i ≤ K ∧ iv = .int .i64 i ∧ Hid (RingAt wr p o g N ((e + i) % N) (l.drop i) ∧ RChg p o g w wr ∧ Blk wr q (intc (fill l K i)) ∧ q < wr.heap.size)) (fun iv _=>K - (intOf iv).toNat)
  case atStart=>exact ⟨0,by omega,rfl,HST.out⟩
  case round =>
   obtain ⟨i,hi,rfl,hr⟩:=hrel
   by_cases hlt:i < K
   ·have hil:i < l.length:=by have:=HN.out;omega
    have hring:RingAt wr p o g N ((e + i) % N) (l[i] :: l.drop (i + 1)):=by
     rw [← List.drop_eq_getElem_cons hil];exact hr.out.1
    have HR:=Lib.hid hring;clear hring
    go_wp2_with fail
    refine (pop_any wr p o g N _ _ _ HR.out).mono ?_
    rintro r w3 ⟨rfl,r3,c3⟩
    rw [Nat.mod_add_mod,Nat.add_assoc] at r3
    obtain ⟨s1,s2,s3⟩:=HSP.out i wr w3 hlt hr.out.2.1 hr.out.2.2.1 hr.out.2.2.2 r3 c3
    obtain ⟨v0,s1⟩:=Option.isSome_iff_exists.1 s1
    have S3:=Lib.hid s3;clear s3 r3 c3
    have hli:(i:Int) < (K:Int):=by omega
    go_wp2
    exact ⟨⟨i + 1,by omega,by go_num,S3⟩,by simp [intOf];omega⟩
   ·obtain rfl:i = K:=by omega
    go_wp2
    go_ret
    obtain ⟨t1,t2,t3,t4⟩:=hr.out
    rw [fill_end] at t3
    have t5:=RowAt.of_blk t3 t4 (by rw [List.length_take];unfold maxLen;omega)
    rw [List.length_take,Nat.min_eq_left (by have:=HN.out;omega)] at t5
    exact ⟨q,_,rfl,by have:=HQ.out.1;omega,t5,t1,t2⟩
theorem RChg.more {p o g:Nat} {F:List Nat} {w w2 w3:World} (h:RChg p o g w w2) (c:Chg F w2 w3) (hp:p ∉ F) (hF:∀ x ∈ F,w.heap.size ≤ x) (hpl:p < w2.heap.size):RChg p o g w w3 :=
 ⟨h.chg.trans c (fun x hx=>.inr (hF x hx)),fun k hk=>by
  have:=c.block p hpl hp
  rw [cell_of_heap this,World.frozen?_of_block (a:=⟨p,k,none⟩) this];exact h.far k hk⟩
structure Gp where
 b:Nat
 c0:Value
 c1:Value
 c2:Value
 c3:Value
 c4:Value
 c5:Value
 c6:Value
 c7:Value
 c8:Value
 c9:Value
 c10:Value
 c11:Value
 c12:Value
 c13:Value
 T:List Value
def Gp.cs (p:Gp) (v:Value):List Value:=p.c0 :: p.c1 :: p.c2 :: p.c3 :: p.c4 :: p.c5 :: p.c6 :: p.c7 :: p.c8 :: p.c9 :: p.c10 :: p.c11 :: p.c12 :: p.c13 :: v :: p.T
def GloAt (w:World) (b:Gp) (gl:List Int) (F:List Nat):Prop:=∃ a cap,F = b.b :: blk a ∧ b.b ∉ blk a ∧ Blk w b.b (b.cs (.slice a gl.length cap)) ∧ RowAt w a cap gl
theorem GloAt.chg {w w':World} {b:Gp} {gl:List Int} {F G:List Nat} (h:GloAt w b gl F) (c:Chg G w w') (hd:∀ x ∈ F,x ∉ G):GloAt w' b gl F:=by
 obtain ⟨a,cap,rfl,h2,h3,h4⟩:=h
 exact ⟨a,cap,rfl,h2,h3.chg c (hd b.b (by simp)),h4.chg c (fun x hx=>hd x (by simp [hx]))⟩
theorem GloAt.below {w w':World} {b:Gp} {gl:List Int} {F:List Nat} (h:GloAt w b gl F) (hb:Below w.heap.size w w'):GloAt w' b gl F:=h.chg (Chg.of_below (F:=[]) hb) (fun _ _=>by simp)
theorem GloAt.lt {w:World} {b:Gp} {gl:List Int} {F:List Nat} (h:GloAt w b gl F):∀ x ∈ F,x < w.heap.size:=by
 obtain ⟨a,cap,rfl,h2,h3,h4⟩:=h
 intro x hx
 simp at hx
 rcases hx with rfl | hx
 ·exact h3.lt (by simp [Gp.cs])
 ·exact h4.lt x hx
theorem gput_any (w:World) (b:Gp) (gl:List Int) (F:List Nat) (h:GloAt w b gl F) (a:Option Addr) (n c:Nat) (m:List Int) (hn:n = m.length) (hm:IntsAt w a m) (hl:gl.length + m.length ≤ 1000000000) :
  Calls Tryz.prog 30 #[.pointer (some ⟨b.b,14,none⟩),.slice a n c] w fun r w'=>r = .returned (.tuple #[]) ∧ Chg F w w' ∧ ∃ F',GloAt w' b (gl ++ m) F' ∧ ∀ x ∈ F',x ∈ F ∨ w.heap.size ≤ x:=by
 have hFlt:=h.lt
 obtain ⟨a0,cap,rfl,h2,h3,h4⟩:=h
 obtain ⟨g0,f0⟩:=h3 14 _ rfl
 obtain ⟨i0,hi0,hz0,hz1,hz2⟩:=info_parts info_int
 have Hi:=Lib.hid hi0;clear hi0
 have Hz0:=Lib.hid hz0;clear hz0
 have Hz1:=Lib.hid hz1;clear hz1
 have Hz2:=Lib.hid hz2;clear hz2
 have HM:=Lib.hid hm;clear hm
 have H2:=Lib.hid h2
 have H3:=Lib.hid h3
 have H4:=Lib.hid h4
 have HF:=Lib.hid hFlt
 have HN:=Lib.hid hn
 clear h2 h3 h4 hFlt hn
 go_enter Tryz.func30,Tryz.ntmps30
 go_wp2_with (at_builtin;refine wpList_append_row (l:=gl) (m:=m) rfl _ _ 22 rfl 3 i0 _ Tryz.underlying22 Hi.out Hz0.out Hz1.out Hz2.out rfl rfl rfl rfl HN.out H4.out HM.out hl ?_)
 intro a1 c1 w1 k1 ch1 f1
 have hb:=H3.out.chg ch1 H2.out
 obtain ⟨g1,f2⟩:=hb 14 _ rfl
 have hb1:b.b ∉ blk a1:=fun hx=>by
  rcases f1 b.b hx with h | h
  ·exact H2.out h
  ·have:=HF.out b.b (by simp);omega
 have cs:Chg [b.b] w1 (w1.setCell ⟨b.b,14,none⟩ (.slice a1 (gl.length + n) c1)):=(Chg.refl _ _).setCell _ (.inl (by simp))
 have hfin:Chg (b.b :: blk a0) w (w1.setCell ⟨b.b,14,none⟩ (.slice a1 (gl.length + n) c1)) ∧ ∃ F',GloAt (w1.setCell ⟨b.b,14,none⟩ (.slice a1 (gl.length + n) c1)) b (gl ++ m) F' ∧ ∀ x ∈ F',x ∈ b.b :: blk a0 ∨ w.heap.size ≤ x:=by
  refine ⟨(ch1.mono (fun x hx=>by simp [hx])).trans cs (fun x hx=>by simp at hx;simp [hx]),b.b :: blk a1,⟨a1,c1,rfl,hb1,?_,k1.chg cs (fun x hx=>by simp;intro e;subst e;exact hb1 hx)⟩,fun x hx=>?_⟩
  ·rw [List.length_append,← HN.out];exact hb.set 14 _
  ·simp at hx
   rcases hx with rfl | hx
   ·simp
   ·rcases f1 x hx with h | h
    ·simp [h]
    ·exact .inr h
 have HFIN:=Lib.hid hfin
 clear hfin cs hb1 hb k1 ch1 f1
 go_wp2
 go_end0
 exact ⟨rfl,HFIN.out⟩
structure LQ where
 nx:Option Int
 l:List Int
def LocAt (w:World) (p g N:Nat) (q:LQ):Prop :=
 (∃ e,RingAt w p 2 g N e q.l) ∧ (w.cell? ⟨p,0,none⟩ = some (.bool q.nx.isSome) ∧ w.frozen? ⟨p,0,none⟩ = false) ∧ (w.cell? ⟨p,1,none⟩ = some (.int .i64 (q.nx.getD 0)) ∧ w.frozen? ⟨p,1,none⟩ = false)
theorem LocAt.chg {w w':World} {p g N:Nat} {q:LQ} {G:List Nat} (h:LocAt w p g N q) (c:Chg G w w') (hp:p ∉ G) (hg:g ∉ G):LocAt w' p g N q:=by
 obtain ⟨⟨e,h1⟩,⟨h2,h3⟩,h4,h5⟩:=h
 have hk:=c.block p h1.lt.1 hp
 refine ⟨⟨e,h1.chg c hp hg⟩,⟨cell_chg h2 c hp,?_⟩,cell_chg h4 c hp,?_⟩
 ·rw [World.frozen?_of_block (a:=⟨p,0,none⟩) hk];exact h3
 ·rw [World.frozen?_of_block (a:=⟨p,1,none⟩) hk];exact h5
theorem LocAt.below {w w':World} {p g N:Nat} {q:LQ} (h:LocAt w p g N q) (hb:Below w.heap.size w w'):LocAt w' p g N q:=h.chg (Chg.of_below (F:=[]) hb) (by simp) (by simp)
theorem LocAt.lt {w:World} {p g N:Nat} {q:LQ} (h:LocAt w p g N q):p < w.heap.size ∧ g < w.heap.size:=by obtain ⟨⟨e,h1⟩,_⟩:=h;exact h1.lt
theorem LocAt.ll {w:World} {p g N:Nat} {q:LQ} (h:LocAt w p g N q):q.l.length ≤ N ∧ 1 ≤ N ∧ N ≤ 1024 ∧ g ≠ p:=by obtain ⟨⟨e,h1⟩,_⟩:=h;exact ⟨h1.ll,h1.n1,h1.n2,h1.ne⟩
theorem LocAt.ring {w w':World} {p g N e':Nat} {q:LQ} {l':List Int} (h:LocAt w p g N q) (h1:RingAt w' p 2 g N e' l') (h2:RChg p 2 g w w'):LocAt w' p g N ⟨q.nx,l'⟩:=by
 obtain ⟨_,⟨k2,k3⟩,k4,k5⟩:=h
 have f0:=h2.far 0 (by omega)
 have f1:=h2.far 1 (by omega)
 exact ⟨⟨e',h1⟩,⟨by rw [f0.1];exact k2,by rw [f0.2];exact k3⟩,by rw [f1.1];exact k4,by rw [f1.2];exact k5⟩
theorem LocAt.setNext {w:World} {p g N:Nat} {q:LQ} (h:LocAt w p g N q) (nx:Option Int) :
  LocAt ((w.setCell ⟨p,0,none⟩ (.bool nx.isSome)).setCell ⟨p,1,none⟩ (.int .i64 (nx.getD 0))) p g N ⟨nx,q.l⟩ ∧ Chg [p,g] w ((w.setCell ⟨p,0,none⟩ (.bool nx.isSome)).setCell ⟨p,1,none⟩ (.int .i64 (nx.getD 0))):=by
 obtain ⟨⟨e,h1⟩,⟨k2,k3⟩,k4,k5⟩:=h
 obtain ⟨cs,r1,r2,r3⟩:=h1.row
 have hne:=h1.ne
 refine ⟨⟨⟨e,h1.n1,h1.n2,h1.ll,h1.el,hne,?_,?_,?_,?_,?_,h1.pl.set.set,cs,r1,(r2.setFar hne).setFar hne,r3⟩,⟨?_,?_⟩,?_,?_⟩,((Chg.refl _ _).setCell _ (.inl (by simp))).setCell _ (.inl (by simp))⟩
 ·rw [World.cell?_setCell_other _ _ _ _ (by simp),World.cell?_setCell_other _ _ _ _ (by simp)];exact h1.c0
 ·rw [World.cell?_setCell_other _ _ _ _ (by simp),World.cell?_setCell_other _ _ _ _ (by simp)];exact h1.c1
 ·rw [World.cell?_setCell_other _ _ _ _ (by simp),World.cell?_setCell_other _ _ _ _ (by simp)];exact h1.c2
 ·rw [World.frozen?_setCell,World.frozen?_setCell];exact h1.f1
 ·rw [World.frozen?_setCell,World.frozen?_setCell];exact h1.f2
 ·rw [World.cell?_setCell_other _ _ _ _ (by simp),World.cell?_setCell_same' _ _ _ (by rw [k2];rfl)]
 ·rw [World.frozen?_setCell,World.frozen?_setCell];exact k3
 ·rw [World.cell?_setCell_same' _ _ _ (by rw [World.cell?_setCell_other _ _ _ _ (by simp),k4];rfl)]
 ·rw [World.frozen?_setCell,World.frozen?_setCell];exact k5
def LQ.num (q:LQ):Int:=q.nx.getD (-1)
theorem lnext_any (w:World) (p g N:Nat) (q:LQ) (h:LocAt w p g N q) :
  Calls Tryz.prog 55 #[.pointer (some ⟨p,0,none⟩)] w fun r w'=>r = .returned (.int .i64 q.num) ∧ w' = w:=by
 obtain ⟨-,⟨k2,-⟩,k4,-⟩:=h
 unfold LQ.num
 cases hq:q.nx with
 | none =>
  rw [hq] at k2 k4
  simp only [Option.isSome_none,Option.getD_none] at k2 k4 ⊢
  clear hq
  go_enter Tryz.func55,Tryz.ntmps55
  go_wp2
  go_ret
  exact ⟨rfl,rfl⟩
 | some v =>
  rw [hq] at k2 k4
  simp only [Option.isSome_some,Option.getD_some] at k2 k4 ⊢
  clear hq
  go_enter Tryz.func55,Tryz.ntmps55
  go_wp2
  go_ret
  exact ⟨rfl,rfl⟩
def mPut (N:Nat) (q:LQ) (v:Int) (g:List Int):LQ × List Int × Nat :=
 if q.l.length < N then (⟨q.nx,q.l ++ [v]⟩,g,0) else (⟨q.nx,q.l.drop (q.l.length / 2)⟩,g ++ (q.l.take (q.l.length / 2) ++ [v]),q.l.length / 2 + 1)
def mTurn (N:Nat) (q:LQ) (g:List Int):LQ × List Int × Nat:=match q.nx with | none=>(q,g,0) | some v=>mPut N ⟨none,q.l⟩ v g
def mReady (N:Nat) (q:LQ) (v:Int) (g:List Int):LQ × List Int × Nat:=(⟨some v,(mTurn N q g).1.l⟩,(mTurn N q g).2.1,(mTurn N q g).2.2)
def mGet (q:LQ):LQ × Option Int:=match q.nx with
 | some v=>(⟨none,q.l⟩,some v)
 | none=>match q.l with
  | []=>(q,none)
  | x :: t=>(⟨none,t⟩,some x)
theorem mPut_len (N:Nat) (q:LQ) (v:Int) (g:List Int):(mPut N q v g).2.1.length ≤ g.length + q.l.length + 1:=by
 unfold mPut;split
 ·simp;omega
 ·simp only [List.length_append,List.length_take,List.length_singleton];omega
theorem mPut_ll (N:Nat) (q:LQ) (v:Int) (g:List Int) (h:q.l.length ≤ N):(mPut N q v g).1.l.length ≤ N:=by
 unfold mPut;split
 ·simp;omega
 ·simp only [List.length_drop];omega
theorem one_far {p g B:Nat} (hp:p < B) (hg:g < B):∀ x ∈ blk (some ⟨B,0,none⟩),x ∉ [p,g]:=fun x hx=>by
 simp [blk] at hx;subst hx;simp;omega
theorem ltake_any (w:World) (p g N:Nat) (q:LQ) (h:LocAt w p g N q) :
  Calls Tryz.prog 63 #[.pointer (some ⟨p,0,none⟩)] w fun r w'=>r = .returned (.tuple #[.int .i64 q.num,.bool q.nx.isSome]) ∧ LocAt w' p g N ⟨none,q.l⟩ ∧ Chg [p,g] w w':=by
 have hb:∀ m,LocAt (w.drewN m) p g N q:=fun m=>h.below (below_drewN (Below.refl _ _) m)
 have hf:∀ m,LocAt (((w.drewN m).setCell ⟨p,0,none⟩ (.bool false)).setCell ⟨p,1,none⟩ (.int .i64 0)) p g N ⟨none,q.l⟩ ∧ Chg [p,g] w (((w.drewN m).setCell ⟨p,0,none⟩ (.bool false)).setCell ⟨p,1,none⟩ (.int .i64 0)):=fun m =>
  ⟨((hb m).setNext none).1,(Chg.of_below (below_drewN (Below.refl _ _) m)).trans ((hb m).setNext none).2 (fun x hx=>.inl hx)⟩
 obtain ⟨-,⟨k2,f2⟩,k4,f4⟩:=h
 have HB:=Lib.hid hb
 have HF:=Lib.hid hf
 clear hb hf
 obtain ⟨s,hs⟩:∃ s,s = q.nx.isSome:=⟨_,rfl⟩
 obtain ⟨v,hv⟩:∃ v,v = q.num:=⟨_,rfl⟩
 rw [← hs] at k2 ⊢
 rw [← hv]
 have hcall:∀ m,Calls Tryz.prog 55 #[.pointer (some ⟨p,0,none⟩)] (w.drewN m) fun r w'=>r = .returned (.int .i64 v) ∧ w' = w.drewN m:=fun m=>by rw [hv];exact lnext_any _ p g N q (HB.out m)
 have HC:=Lib.hid hcall
 clear hcall hs hv
 go_enter Tryz.func63,Tryz.ntmps63
 go_wp2_with fail
 go_quiet ((go_at_call 55;exact Calls.quiet_of_same (HC.out _)))
 go_wp2
 go_ret2
 exact ⟨rfl,HF.out _⟩
theorem lput_any (w:World) (p g N:Nat) (b:Gp) (q:LQ) (gl:List Int) (F:List Nat) (v:Int) (h:LocAt w p g N q) (hg:GloAt w b gl F) (hp:p ∉ F) (hgF:g ∉ F) (hl:gl.length ≤ 1000000) :
  Calls Tryz.prog 76 #[.pointer (some ⟨p,0,none⟩),.int .i64 v,.pointer (some ⟨b.b,14,none⟩)] w fun r w'=>r = .returned (.int .i64 ((mPut N q v gl).2.2:Int)) ∧ LocAt w' p g N (mPut N q v gl).1 ∧
   Chg (p :: g :: F) w w' ∧ ∃ F',GloAt w' b (mPut N q v gl).2.1 F' ∧ ∀ x ∈ F',x ∈ F ∨ w.heap.size ≤ x:=by
 obtain ⟨e,h1⟩:=h.1
 have ll:=h1.ll
 have n2:=h1.n2
 have H:=Lib.hid h;clear h
 have H1:=Lib.hid h1
 have HG:=Lib.hid hg
 have HD:Hid (p ∉ F ∧ g ∉ F):=Lib.hid ⟨hp,hgF⟩
 obtain ⟨hpl,hgl⟩:=h1.lt
 have hgp:=h1.ne
 clear h1 hp hgF hg
 by_cases hroom:q.l.length < N
 ·have e1:mPut N q v gl = (⟨q.nx,q.l ++ [v]⟩,gl,0):=by unfold mPut;rw [if_pos hroom]
  rw [e1]
  clear e1
  have HR:=Lib.hid hroom
  go_enter Tryz.func76,Tryz.ntmps76
  go_wp2_with fail
  refine (push_any _ _ _ _ _ _ _ v H1.out HR.out).mono ?_
  rintro r w1 ⟨rfl,k1,k2⟩
  have hfin:LocAt w1 p g N ⟨q.nx,q.l ++ [v]⟩ ∧ Chg (p :: g :: F) w w1 ∧ ∃ F',GloAt w1 b gl F' ∧ ∀ x ∈ F',x ∈ F ∨ w.heap.size ≤ x :=
   ⟨H.out.ring k1 k2,k2.chg.mono (fun x hx=>by simp at hx ⊢;omega),F,HG.out.chg k2.chg (fun x hx hc=>by simp at hc;rcases hc with rfl | rfl;exact HD.out.1 hx;exact HD.out.2 hx),fun x hx=>.inl hx⟩
  have HFIN:=Lib.hid hfin
  clear hfin k1 k2
  go_wp2
  go_ret
  exact ⟨rfl,HFIN.out⟩
 ·have e1:mPut N q v gl = (⟨q.nx,q.l.drop (q.l.length / 2)⟩,gl ++ (q.l.take (q.l.length / 2) ++ [v]),q.l.length / 2 + 1):=by unfold mPut;rw [if_neg hroom]
  rw [e1]
  clear e1
  have HR:=Lib.hid hroom
  obtain ⟨n,hn⟩:∃ n,n = q.l.length:=⟨_,rfl⟩
  obtain ⟨k,hk⟩:∃ k,k = n / 2:=⟨_,rfl⟩
  rw [← hn,← hk]
  rw [← hn] at ll hroom
  have hkn:k ≤ n:=by omega
  have hquo:(n:Int).tdiv 2 = (k:Int):=by rw [hk,Int.tdiv_eq_ediv_of_nonneg (by omega)];rfl
  have hw:IntKind.i64.wrap (k:Int) = (k:Int):=by rw [IntKind.wrap_i64];omega
  have hT:takes (k:Int) q.l.length = k:=by unfold takes;omega
  have HT:=Lib.hid hT
  have HN:=Lib.hid hn
  clear hT hn hk
  obtain ⟨i0,hi0,hz0,hz1,hz2⟩:=info_parts info_int
  have Hi:=Lib.hid hi0;clear hi0
  have Hz0:=Lib.hid hz0;clear hz0
  have Hz1:=Lib.hid hz1;clear hz1
  have Hz2:=Lib.hid hz2;clear hz2
  go_enter Tryz.func76,Tryz.ntmps76
  go_wp2_with fail
  refine (push_full _ _ _ _ _ _ _ v H1.out HR.out).mono ?_
  rintro r w1 ⟨rfl,k1,k2⟩
  have R1:=Lib.hid k1
  have C1:=Lib.hid k2
  obtain ⟨hpl1,hgl1⟩:=k1.lt
  clear k1 k2
  go_wp2_with fail
  go_region_law (first
   | (go_simp;go_at_call 79;refine (rlen_any _ p 2 g N e q.l (by first | exact R1.out.below (below_drew1 _) | exact R1.out.below ((below_drew1 _).alloc (by simp) _) | exact R1.out.below (below_alloc1 _ _).drew)).mono ?_;rw [← HN.out];rintro r w2 ⟨rfl,rfl⟩)
   | (go_simp;go_at_call 81;refine (rtake_any _ p 2 g N e q.l _ (by first | exact R1.out.below (below_drew1 _) | exact R1.out.below ((below_drew1 _).alloc (by simp) _) | exact R1.out.below (below_alloc1 _ _).drew)).mono ?_;rw [HT.out];rintro r w3 ⟨bq,eq,rfl,k3,k4,k5,k6⟩)
   | (refine step_append_row (l:=q.l.take k) (m:=[v]) (by rfl) _ _ 22 (by rfl) 3 i0 _ Tryz.underlying22 Hi.out Hz0.out Hz1.out Hz2.out rfl (by rfl) (by rfl) (by rw [List.length_take,← HN.out];omega) (by rfl) (by first | exact k4 | exact k4.below (below_alloc1 _ _)) (by first | exact (RowAt.one _ _ _ rfl).ints | exact ((RowAt.one w1.drew v 3 (b:=w1.heap.size) rfl).chg k6.chg (one_far hpl1 hgl1)).ints) (by rw [List.length_take,List.length_singleton];omega) ?_;intro a2 c2 w4 k7 c7 f7))
  all_goals
   have c34:Chg (blk (some ⟨bq,0,none⟩)) w3 w4:=by first | exact c7 | exact (Chg.of_below (below_alloc1 _ _)).trans c7 (fun x hx=>.inl hx)
   have r13:RChg p 2 g w1 w3:=by first | exact (RChg.of_below hpl1 (below_drew1 _)).trans k6 | exact (RChg.of_below hpl1 ((below_drew1 _).alloc (Nat.le_refl _) _)).trans k6
   have hbq:w1.heap.size ≤ bq:=by first | exact k3 | exact Nat.le_trans (by simp) k3
   have hpl3:=k5.lt
   have r4:=k5.chg c34 (by simp [blk];omega) (by simp [blk];omega)
   have r14:=r13.more c34 (by simp [blk];omega) (fun x hx=>by simp [blk] at hx;omega) hpl3.1
   have L4:=(H.out.ring R1.out C1.out).ring r4 r14
   have G4:=(HG.out.chg C1.out.chg (fun x hx hc=>by simp at hc;rcases hc with rfl | rfl;exact HD.out.1 hx;exact HD.out.2 hx)).chg r14.chg (fun x hx hc=>by simp at hc;rcases hc with rfl | rfl;exact HD.out.1 hx;exact HD.out.2 hx)
   have C4:=C1.out.chg.trans r14.chg (fun x hx=>.inl hx)
   have HL4:=Lib.hid L4
   have HG4:=Lib.hid G4
   have HC4:=Lib.hid C4
   have HI:=Lib.hid k7.ints
   clear L4 G4 C4 r14 r4 hpl3 hbq r13 c34 k3 k4 k5 k6 k7 c7 f7
   go_wp2_with fail
   refine (gput_any w4 b gl F HG4.out a2 (k + 1) c2 (q.l.take k ++ [v]) (by rw [List.length_append,List.length_take,List.length_singleton,← HN.out];omega) HI.out (by rw [List.length_append,List.length_take,List.length_singleton,← HN.out];omega)).mono ?_
   rintro r w5 ⟨rfl,c5,F',k8,k9⟩
   have hfin:LocAt w5 p g N ⟨q.nx,q.l.drop k⟩ ∧ Chg (p :: g :: F) w w5 ∧ ∃ F',GloAt w5 b (gl ++ (q.l.take k ++ [v])) F' ∧ ∀ x ∈ F',x ∈ F ∨ w.heap.size ≤ x:=by
    refine ⟨HL4.out.chg c5 HD.out.1 HD.out.2,(HC4.out.mono (fun x hx=>by simp at hx ⊢;omega)).trans c5 (fun x hx=>.inl (by simp [hx])),F',k8,fun x hx=>?_⟩
    rcases k9 x hx with h | h
    ·exact .inl h
    ·exact .inr (Nat.le_trans HC4.out.size h)
   have HFIN:=Lib.hid hfin
   clear hfin c5 k8 k9
   go_wp2
   go_ret
   exact ⟨ret_int (by simp),HFIN.out⟩
theorem lturn_any (w:World) (p g N:Nat) (b:Gp) (q:LQ) (gl:List Int) (F:List Nat) (h:LocAt w p g N q) (hg:GloAt w b gl F) (hp:p ∉ F) (hgF:g ∉ F) (hl:gl.length ≤ 1000000) :
  Calls Tryz.prog 65 #[.pointer (some ⟨p,0,none⟩),.pointer (some ⟨b.b,14,none⟩)] w fun r w'=>r = .returned (.int .i64 ((mTurn N q gl).2.2:Int)) ∧ LocAt w' p g N ⟨none,(mTurn N q gl).1.l⟩ ∧
   Chg (p :: g :: F) w w' ∧ ∃ F',GloAt w' b (mTurn N q gl).2.1 F' ∧ ∀ x ∈ F',x ∈ F ∨ w.heap.size ≤ x:=by
 have H:=Lib.hid h;clear h
 have HG:=Lib.hid hg;clear hg
 have HD:Hid (p ∉ F ∧ g ∉ F):=Lib.hid ⟨hp,hgF⟩
 clear hp hgF
 cases hq:q.nx with
 | none =>
  have e1:mTurn N q gl = (q,gl,0):=by unfold mTurn;rw [hq]
  have e2:q.nx.isSome = false:=by rw [hq];rfl
  rw [e1]
  have hc:=ltake_any w p g N q H.out
  rw [e2] at hc
  have HC:=Lib.hid hc
  clear e1 e2 hq hc
  go_enter Tryz.func65,Tryz.ntmps65
  go_wp2_with fail
  refine HC.out.mono ?_
  rintro r w1 ⟨rfl,h1,c1⟩
  have hfin:LocAt w1 p g N ⟨none,q.l⟩ ∧ Chg (p :: g :: F) w w1 ∧ ∃ F',GloAt w1 b gl F' ∧ ∀ x ∈ F',x ∈ F ∨ w.heap.size ≤ x :=
   ⟨h1,c1.mono (fun x hx=>by simp at hx ⊢;omega),F,HG.out.chg c1 (fun x hx hc=>by simp at hc;rcases hc with rfl | rfl;exact HD.out.1 hx;exact HD.out.2 hx),fun x hx=>.inl hx⟩
  have HFIN:=Lib.hid hfin
  clear hfin h1 c1
  go_wp2
  go_ret
  exact ⟨rfl,HFIN.out⟩
 | some v =>
  have e1:mTurn N q gl = mPut N ⟨none,q.l⟩ v gl:=by unfold mTurn;rw [hq]
  have e2:q.num = v:=by unfold LQ.num;rw [hq];rfl
  have e4:q.nx.isSome = true:=by rw [hq];rfl
  have e3:(mPut N ⟨none,q.l⟩ v gl).1 = ⟨none,(mPut N ⟨none,q.l⟩ v gl).1.l⟩:=by unfold mPut;split <;> rfl
  have hp2:=fun w1 h1 h2=>lput_any w1 p g N b ⟨none,q.l⟩ gl F v h1 h2 HD.out.1 HD.out.2 hl
  obtain ⟨M,hM⟩:∃ M,M = mPut N ⟨none,q.l⟩ v gl:=⟨_,rfl⟩
  rw [e1]
  rw [← hM] at e3 hp2 ⊢
  have hc:=ltake_any w p g N q H.out
  rw [e2,e4] at hc
  have HC:=Lib.hid hc
  have HP:=Lib.hid hp2
  have E3:=Lib.hid e3
  clear e1 e2 e3 e4 hq hc hp2 hM
  go_enter Tryz.func65,Tryz.ntmps65
  go_wp2_with fail
  refine HC.out.mono ?_
  rintro r w1 ⟨rfl,h1,c1⟩
  have G1:=Lib.hid (HG.out.chg c1 (fun x hx hc=>by simp at hc;rcases hc with rfl | rfl;exact HD.out.1 hx;exact HD.out.2 hx))
  have H1:=Lib.hid h1
  have C1:=Lib.hid c1
  clear h1 c1 HC
  go_wp2_with fail
  refine (HP.out _ H1.out G1.out).mono ?_
  rintro r w2 ⟨rfl,h2,c2,F',h3,h4⟩
  have hfin:LocAt w2 p g N ⟨none,M.1.l⟩ ∧ Chg (p :: g :: F) w w2 ∧ ∃ F',GloAt w2 b M.2.1 F' ∧ ∀ x ∈ F',x ∈ F ∨ w.heap.size ≤ x:=by
   refine ⟨by rw [← E3.out];exact h2,(C1.out.mono (fun x hx=>by simp at hx ⊢;omega)).trans c2 (fun x hx=>.inl hx),F',h3,fun x hx=>?_⟩
   rcases h4 x hx with h | h
   ·exact .inl h
   ·exact .inr (Nat.le_trans C1.out.size h)
  have HFIN:=Lib.hid hfin
  clear hfin h2 c2 h3 h4
  go_wp2
  go_ret
  exact ⟨rfl,HFIN.out⟩
theorem lready_any (w:World) (p g N:Nat) (b:Gp) (q:LQ) (gl:List Int) (F:List Nat) (v:Int) (h:LocAt w p g N q) (hg:GloAt w b gl F) (hp:p ∉ F) (hgF:g ∉ F) (hl:gl.length ≤ 1000000) :
  Calls Tryz.prog 59 #[.pointer (some ⟨p,0,none⟩),.int .i64 v,.pointer (some ⟨b.b,14,none⟩)] w fun r w'=>r = .returned (.int .i64 ((mReady N q v gl).2.2:Int)) ∧ LocAt w' p g N (mReady N q v gl).1 ∧
   Chg (p :: g :: F) w w' ∧ ∃ F',GloAt w' b (mReady N q v gl).2.1 F' ∧ ∀ x ∈ F',x ∈ F ∨ w.heap.size ≤ x:=by
 have H:=Lib.hid h;clear h
 have HG:=Lib.hid hg;clear hg
 have HD:Hid (p ∉ F ∧ g ∉ F):=Lib.hid ⟨hp,hgF⟩
 clear hp hgF
 unfold mReady
 have ht:=lturn_any w p g N b q gl F H.out HG.out HD.out.1 HD.out.2 hl
 obtain ⟨M,hM⟩:∃ M,M = mTurn N q gl:=⟨_,rfl⟩
 rw [← hM] at ht ⊢
 have HTT:=Lib.hid ht
 clear ht hM
 go_enter Tryz.func59,Tryz.ntmps59
 go_wp2_with fail
 refine HTT.out.mono ?_
 rintro r w1 ⟨rfl,h1,c1,F',h2,h3⟩
 obtain ⟨s1,s2⟩:=h1.setNext (some v)
 have hFn:p ∉ F' ∧ g ∉ F':=⟨fun hx=>by rcases h3 p hx with h | h;exact HD.out.1 h;exact absurd H.out.lt.1 (by omega),fun hx=>by rcases h3 g hx with h | h;exact HD.out.2 h;exact absurd H.out.lt.2 (by omega)⟩
 have hfin:LocAt ((w1.setCell ⟨p,0,none⟩ (.bool true)).setCell ⟨p,1,none⟩ (.int .i64 v)) p g N ⟨some v,M.1.l⟩ ∧ Chg (p :: g :: F) w ((w1.setCell ⟨p,0,none⟩ (.bool true)).setCell ⟨p,1,none⟩ (.int .i64 v)) ∧
   ∃ F',GloAt ((w1.setCell ⟨p,0,none⟩ (.bool true)).setCell ⟨p,1,none⟩ (.int .i64 v)) b M.2.1 F' ∧ ∀ x ∈ F',x ∈ F ∨ w.heap.size ≤ x :=
  ⟨s1,c1.trans s2 (fun x hx=>by simp at hx;simp;omega),F',h2.chg s2 (fun x hx hc=>by simp at hc;rcases hc with rfl | rfl;exact hFn.1 hx;exact hFn.2 hx),h3⟩
 have HFIN:=Lib.hid hfin
 obtain ⟨-,⟨k2,f2⟩,k4,f4⟩:=h1
 clear hfin hFn s1 s2 h2 h3 c1
 go_wp2
 go_ret
 exact ⟨rfl,HFIN.out⟩
def gotv (x:Option Int):Value:=.tuple #[.int .i64 (x.getD (-1)),.bool x.isSome]
theorem lget_any (w:World) (p g N:Nat) (q:LQ) (h:LocAt w p g N q) :
  Calls Tryz.prog 56 #[.pointer (some ⟨p,0,none⟩)] w fun r w'=>r = .returned (gotv (mGet q).2) ∧ LocAt w' p g N (mGet q).1 ∧ Chg [p,g] w w':=by
 have H:=Lib.hid h;clear h
 go_enter Tryz.func56,Tryz.ntmps56
 go_wp2_with fail
 refine (ltake_any _ _ _ _ _ H.out).mono ?_
 rintro r w1 ⟨rfl,h1,c1⟩
 have H1:=Lib.hid h1
 have C1:=Lib.hid c1
 clear h1 c1
 obtain ⟨nx,l⟩:=q
 cases nx with
 | some v =>
  simp only [LQ.num,Option.getD_some,Option.isSome_some]
  go_wp2
  go_ret2
  exact ⟨rfl,H1.out,C1.out⟩
 | none =>
  obtain ⟨⟨e,r1⟩,-⟩:=H1.out
  cases l with
  | nil =>
   simp only [LQ.num,Option.getD_none,Option.isSome_none]
   have R1:=Lib.hid r1;clear r1
   go_wp2_with fail
   refine (pop_none _ _ _ _ _ _ R1.out).mono ?_
   rintro r w2 ⟨rfl,h2,c2⟩
   have H2:=Lib.hid (H1.out.ring h2 c2)
   have C2:=Lib.hid (C1.out.trans c2.chg (fun x hx=>.inl hx))
   clear h2 c2
   go_wp2
   go_ret2
   exact ⟨rfl,H2.out,C2.out⟩
  | cons x t =>
   simp only [LQ.num,Option.getD_none,Option.isSome_none]
   have R1:=Lib.hid r1;clear r1
   go_wp2_with fail
   refine (pop_any _ _ _ _ _ _ _ _ R1.out).mono ?_
   rintro r w2 ⟨rfl,h2,c2⟩
   have H2:=Lib.hid (H1.out.ring h2 c2)
   have C2:=Lib.hid (C1.out.trans c2.chg (fun x hx=>.inl hx))
   clear h2 c2
   go_wp2
   go_ret2
   exact ⟨rfl,H2.out,C2.out⟩
theorem lnew_any (z:Int) (w:World):Calls Tryz.prog 29 #[.int .i64 z] w fun r w'=>∃ p g,r = .returned (.pointer (some ⟨p,0,none⟩)) ∧ LocAt w' p g (roomOf z) ⟨none,[]⟩ ∧ w.heap.size ≤ p ∧ w.heap.size ≤ g ∧ Below w.heap.size w w':=by
 have hr:=rnew_any z w
 generalize roomOf z = N at hr ⊢
 have HR:=Lib.hid hr
 clear hr
 go_enter Tryz.func29,Tryz.ntmps29
 go_wp2_with fail
 refine HR.out.mono ?_
 rintro r w1 ⟨p0,g,rfl,h1,h2,h3,h4⟩
 have c0:=h1.c0
 have c1:=h1.c1
 have c2:=h1.c2
 have hs:∀ o:Obj,o = .cells #[.bool false,.int .i64 0,.slice (some ⟨g,0,none⟩) N N,.int .i64 0,.int .i64 0] 131 → LocAt (w1.alloc o) w1.heap.size g N ⟨none,[]⟩ ∧ w.heap.size ≤ w1.heap.size ∧ w.heap.size ≤ g ∧ Below w.heap.size w (w1.alloc o):=fun o ho=>by
  subst ho
  obtain ⟨cs,r1,r2,r3⟩:=h1.row
  have hgl:=h1.lt.2
  have hB:=Blk.mk w1 [.bool false,.int .i64 0,.slice (some ⟨g,0,none⟩) N N,.int .i64 0,.int .i64 0] 131 _ rfl
  exact ⟨⟨⟨0,h1.n1,h1.n2,by simp,by have:=h1.n1;omega,by omega,(hB 2 _ rfl).1,(hB 3 _ rfl).1,(hB 4 _ rfl).1,(hB 3 _ rfl).2,(hB 4 _ rfl).2,Plain.new _ _ _ rfl,cs,r1,r2.alloc _,fun i hi=>by simp at hi⟩,hB 0 _ rfl,hB 1 _ rfl⟩,h4.size,h3,h4.alloc h4.size _⟩
 have HS:=Lib.hid hs
 clear hs h1
 go_wp2
 go_ret
 exact ⟨_,g,rfl,HS.out _ rfl⟩
theorem glen_any (w:World) (b:Gp) (gl:List Int) (F:List Nat) (h:GloAt w b gl F) :
  Calls Tryz.prog 98 #[.pointer (some ⟨b.b,14,none⟩)] w fun r w'=>r = .returned (.int .i64 (gl.length:Int)) ∧ w' = w:=by
 obtain ⟨a0,cap,rfl,h2,h3,h4⟩:=h
 obtain ⟨g0,f0⟩:=h3 14 _ rfl
 clear h2 h3 h4
 go_enter Tryz.func98,Tryz.ntmps98
 go_wp2
 go_ret
 exact ⟨rfl,rfl⟩
theorem lmost_any (w:World) (p g N:Nat) (q:LQ) (h:LocAt w p g N q) :
  Calls Tryz.prog 82 #[.pointer (some ⟨p,0,none⟩)] w fun r w'=>r = .returned (.int .i64 ((N - q.l.length + 1:Nat):Int)) ∧ ∃ m,w' = w.drewN m:=by
 obtain ⟨⟨e,h1⟩,-⟩:=h
 have ll:=h1.ll
 have n2:=h1.n2
 obtain ⟨n,hn⟩:∃ n,n = q.l.length:=⟨_,rfl⟩
 rw [← hn] at ll ⊢
 have hR:∀ m,Calls Tryz.prog 99 #[.pointer (some ⟨p,2,none⟩)] (w.drewN m) fun r w'=>r = .returned (.int .i64 (N:Int)) ∧ w' = w.drewN m:=fun m=>rroom_any _ _ _ _ _ _ _ (drewN_ring h1 m)
 have hL:∀ m,Calls Tryz.prog 79 #[.pointer (some ⟨p,2,none⟩)] (w.drewN m) fun r w'=>r = .returned (.int .i64 (n:Int)) ∧ w' = w.drewN m:=fun m=>by rw [hn];exact rlen_any _ _ _ _ _ _ _ (drewN_ring h1 m)
 have HR:=Lib.hid hR
 have HL:=Lib.hid hL
 clear hR hL h1 hn
 go_enter Tryz.func82,Tryz.ntmps82
 go_wp2_with fail
 go_quiet (first
  | (go_at_call 99;exact Calls.quiet_of_same (HR.out _))
  | (go_at_call 79;exact Calls.quiet_of_same (HL.out _)))
 go_wp2
 go_ret
 exact ⟨ret_int (by omega),_,rfl⟩
theorem lgoOn_none (w:World) (p:Nat) (a:Option Addr) (c:Nat) :
  Calls Tryz.prog 80 #[.pointer (some ⟨p,0,none⟩),.slice a 0 c] w fun r w'=>r = .returned (gotv none) ∧ w' = w:=by
 go_enter Tryz.func80,Tryz.ntmps80
 go_wp2
 go_ret2
 exact ⟨rfl,rfl⟩
theorem lgoOn_any (w:World) (p g N:Nat) (q:LQ) (a:Option Addr) (n c:Nat) (x:Int) (t:List Int) (h:LocAt w p g N q) (hr:RowAt w a c (x :: t)) (hn:n = t.length + 1) (hd:∀ y ∈ blk a,y ≠ p ∧ y ≠ g) (hl:q.l.length + t.length ≤ N) :
  Calls Tryz.prog 80 #[.pointer (some ⟨p,0,none⟩),.slice a n c] w fun r w'=>r = .returned (gotv (some x)) ∧ LocAt w' p g N ⟨q.nx,q.l ++ t⟩ ∧ Chg [p,g] w w':=by
 have hll:=h.ll
 obtain ⟨a',hs1,hr1,hk1⟩:=slice_from under_ints size_int hr 1 (by simp)
 rw [show (x :: t).length = n by rw [hn];rfl] at hs1
 simp only [List.drop_succ_cons,List.drop_zero] at hr1
 obtain ⟨m,hm⟩:∃ m,m = t.length:=⟨_,rfl⟩
 rw [show n - 1 = m by omega] at hs1
 rw [show n = m + 1 by omega] at hs1 ⊢
 have H:=Lib.hid h
 have HR1:=Lib.hid hr1
 have HR:=Lib.hid hr
 have HD:=Lib.hid hd
 have HD1:Hid (∀ y ∈ blk a',y ≠ p ∧ y ≠ g):=Lib.hid (by rw [hk1];exact hd)
 have HL:Hid (q.l.length + t.length ≤ N):=Lib.hid hl
 have hm1:m ≤ 1024:=by omega
 have HM:=Lib.hid hm
 clear h hr1 hr hd hk1 hl hm hn hll
 go_enter Tryz.func80,Tryz.ntmps80
 have hs1':∀ w,(Instr.slice 22 (.slice a (m + 1) c) (some (.int .i64 1)) none none).run Tryz.prog w = .ok (.slice a' m (c - 1)) w:=hs1
 clear hs1
 have hb0:((m:Int) + 1 == 0) = false:=by rw [beq_eq_false_iff_ne];omega
 go_wp2_with fail
 go_loopw [14] (fun iv wr=>∃ i:Nat,i ≤ m ∧ iv = .int .i64 i ∧ Hid (LocAt wr p g N ⟨q.nx,q.l ++ t.take i⟩ ∧ Chg [p,g] w wr)) (fun iv _=>m - (intOf iv).toNat)
 case atStart=>exact ⟨0,by omega,rfl,⟨by rw [List.take_zero,List.append_nil];exact H.out,Chg.refl _ _⟩⟩
 case round =>
  obtain ⟨i,hi,rfl,hr⟩:=hrel
  by_cases hlt:i < m
  ·have hit:i < t.length:=by have:=HM.out;omega
   obtain ⟨b9,o9,rfl,g9⟩:=(HR1.out.chg hr.out.2 (fun y hy=>by have:=HD1.out y hy;simp;omega)).ints i hit
   have hts:t.take (i + 1) = t.take i ++ [t[i]]:=by rw [List.take_add_one,List.getElem?_eq_getElem hit];rfl
   have HTS:=Lib.hid hts;clear hts
   generalize t[i] = y at g9 HTS
   have hli:(i:Int) < (m:Int):=by omega
   obtain ⟨e,r1⟩:=hr.out.1.1
   have R1:=Lib.hid r1;clear r1
   go_wp2_with fail
   refine (push_any _ _ _ _ _ _ _ y R1.out (by have:=HL.out;simp only [List.length_append,List.length_take];omega)).mono ?_
   rintro r w1 ⟨rfl,k1,k2⟩
   have h2:LocAt w1 p g N ⟨q.nx,q.l ++ t.take (i + 1)⟩ ∧ Chg [p,g] w w1:=⟨by rw [HTS.out,← List.append_assoc];exact hr.out.1.ring k1 k2,hr.out.2.trans k2.chg (fun x hx=>.inl hx)⟩
   have H2:=Lib.hid h2;clear h2 k1 k2
   go_wp2
   exact ⟨⟨i + 1,by omega,by go_num,H2⟩,by simp [intOf];omega⟩
  ·obtain rfl:i = m:=by omega
   obtain ⟨b9,o9,rfl,g9⟩:=(HR.out.chg hr.out.2 (fun y hy=>by have:=HD.out y hy;simp;omega)).ints 0 (by simp)
   simp only [List.getElem_cons_zero,Nat.add_zero] at g9
   have h2:LocAt wr p g N ⟨q.nx,q.l ++ t⟩ ∧ Chg [p,g] w wr:=by
    have:=hr.out
    rwa [List.take_of_length_le (by have:=HM.out;omega)] at this
   have H2:=Lib.hid h2;clear h2 hr
   go_wp2
   go_ret2
   exact ⟨rfl,H2.out⟩
theorem info_loc:∃ j,Tryz.prog.info? 131 = some j:=by
 cases h:Tryz.prog.info? 131 with
 | some j=>exact ⟨j,rfl⟩
 | none =>
  have e:(Tryz.prog.info? 131).isSome = true:=by kernel_rfl
  rw [h] at e;cases e
theorem info_loc_size:∀ j,Tryz.prog.info? 131 = some j → j.size ≠ 0:=fun j hj=>by
 have e:(Tryz.prog.info? 131).map (·.size) = some 5:=by kernel_rfl
 rw [hj] at e;simp at e;omega
theorem eql_loc (w:World) (p p2 g g2 N N2:Nat) (q f:LQ) (h:LocAt w p g N q) (h2:LocAt w p2 g2 N2 f) (hne:p2 ≠ p) :
  (binOp .eql 92 (.pointer (some ⟨p2,0,none⟩)) (.pointer (some ⟨p,0,none⟩))).run Tryz.prog w = .ok (.bool false) w:=by
 obtain ⟨⟨e,h1⟩,-⟩:=h
 obtain ⟨⟨e2,h3⟩,-⟩:=h2
 obtain ⟨ca,ta,k1⟩:=h1.pl
 obtain ⟨cb,tb,k2⟩:=h3.pl
 obtain ⟨j,hj⟩:=info_loc
 exact run_eql_ptr_other w Tryz.underlying92 hj (info_loc_size j hj) (fun e=>hne (by injection e)) k2 k1
def mSteal (N:Nat) (q f:LQ):LQ × LQ × Option Int:=match f.l with
 | []=>(q,⟨none,[]⟩,f.nx)
 | x :: t=>(⟨q.nx,q.l ++ (f.l.take (min ((f.l.length + 1) / 2) (N - q.l.length + 1))).tail⟩,⟨f.nx,f.l.drop (min ((f.l.length + 1) / 2) (N - q.l.length + 1))⟩,some x)
theorem lsteal_self (w:World) (p:Nat) :
  Calls Tryz.prog 67 #[.pointer (some ⟨p,0,none⟩),.pointer (some ⟨p,0,none⟩)] w fun r w'=>r = .returned (gotv none) ∧ w' = w:=by
 have heq:=run_eql_ptr_same (P:=Tryz.prog) w (tp:=92) ⟨p,0,none⟩ Tryz.underlying92 info_loc.choose_spec
 go_enter Tryz.func67,Tryz.ntmps67
 go_wp2
 go_ret2
 exact ⟨rfl,rfl⟩
theorem lsteal_any (w:World) (p g N p2 g2 N2:Nat) (q f:LQ) (h:LocAt w p g N q) (h2:LocAt w p2 g2 N2 f) (d1:p ≠ p2) (d2:p ≠ g2) (d3:g ≠ p2) (d4:g ≠ g2) :
  Calls Tryz.prog 67 #[.pointer (some ⟨p,0,none⟩),.pointer (some ⟨p2,0,none⟩)] w fun r w'=>r = .returned (gotv (mSteal N q f).2.2) ∧ LocAt w' p g N (mSteal N q f).1 ∧ LocAt w' p2 g2 N2 (mSteal N q f).2.1 ∧ Chg [p,g,p2,g2] w w':=by
 have H:=Lib.hid h
 have H2:=Lib.hid h2
 have hll:=h.ll
 have hll2:=h2.ll
 obtain ⟨⟨e2,r2⟩,-⟩:=h2
 have R2:=Lib.hid r2;clear r2
 have HD:Hid (p ≠ p2 ∧ p ≠ g2 ∧ g ≠ p2 ∧ g ≠ g2):=Lib.hid ⟨d1,d2,d3,d4⟩
 have heq:=eql_loc w p p2 g g2 N N2 q f h H2.out (fun e=>d1 e.symm)
 obtain ⟨fx,fl⟩:=f
 cases fl with
 | nil =>
  simp only [mSteal]
  have hc:=fun w hw=>ltake_any w p2 g2 N2 ⟨fx,[]⟩ hw
  have hlen:Calls Tryz.prog 79 #[.pointer (some ⟨p2,2,none⟩)] w fun r w'=>r = .returned (.int .i64 0) ∧ w' = w:=rlen_any _ _ _ _ _ _ _ R2.out
  have HLEN:=Lib.hid hlen
  clear hlen d2 d3 d4 hc h
  have hgv:Value.tuple #[.int .i64 (LQ.num ⟨fx,[]⟩),.bool fx.isSome] = gotv fx:=rfl
  have HGV:=Lib.hid hgv;clear hgv
  go_enter Tryz.func67,Tryz.ntmps67
  go_wp2_with fail
  refine HLEN.out.mono ?_
  rintro r w1 ⟨rfl,rfl⟩
  go_wp2_with fail
  refine (ltake_any _ p2 g2 N2 ⟨fx,[]⟩ H2.out).mono ?_
  rintro r w2 ⟨rfl,k1,k2⟩
  have K1:=Lib.hid k1
  have K2:=Lib.hid k2
  clear k1 k2
  go_wp2
  go_ret2
  refine ⟨rfl,H.out.chg K2.out (by have:=HD.out;simp;omega) (by have:=HD.out;simp;omega),K1.out,K2.out.mono (fun x hx=>by simp at hx ⊢;omega)⟩
 | cons x t =>
  simp only [mSteal]
  obtain ⟨n,hn⟩:∃ n,n = (x :: t).length:=⟨_,rfl⟩
  obtain ⟨mo,hmo⟩:∃ mo,mo = N - q.l.length + 1:=⟨_,rfl⟩
  obtain ⟨hf,hhf⟩:∃ hf,hf = (n + 1) / 2:=⟨_,rfl⟩
  obtain ⟨k,hk⟩:∃ k,k = min hf mo:=⟨_,rfl⟩
  have hnt:n = t.length + 1:=by rw [hn];rfl
  have hn2:n ≤ 1024:=by have:=hll2.1;rw [← hn] at this;omega
  have hk1:1 ≤ k ∧ k ≤ n:=by omega
  rw [← hn,← hhf,← hmo,← hk]
  have e1:(x :: t).take k = x :: t.take (k - 1):=by
   obtain ⟨j,rfl⟩:∃ j,k = j + 1:=⟨k - 1,by omega⟩
   simp
  rw [e1,List.tail_cons]
  have hT:takes (k:Int) (x :: t).length = k:=by rw [← hn];unfold takes;omega
  have hquo:((n:Int) + 1).tdiv 2 = (hf:Int):=by rw [hhf,Int.tdiv_eq_ediv_of_nonneg (by omega)];rfl
  have hcase:((hf:Int) ≤ (mo:Int) ∧ k = hf) ∨ ((mo:Int) < (hf:Int) ∧ k = mo):=by omega
  have hw1:IntKind.i64.wrap ((n:Int) + 1) = (n:Int) + 1:=by rw [IntKind.wrap_i64];omega
  have hw2:IntKind.i64.wrap (hf:Int) = (hf:Int):=by rw [IntKind.wrap_i64];omega
  have hcl:∀ w',Below w.heap.size w w' → Calls Tryz.prog 82 #[.pointer (some ⟨p,0,none⟩)] w' fun r w''=>r = .returned (.int .i64 (mo:Int)) ∧ ∃ m,w'' = w'.drewN m:=fun w' hb=>by rw [hmo];exact lmost_any w' p g N q (H.out.below hb)
  have hct:∀ w',Below w.heap.size w w' → Calls Tryz.prog 81 #[.pointer (some ⟨p2,2,none⟩),.int .i64 (k:Int)] w' fun r w''=>∃ bq e',r = .returned (.slice (some ⟨bq,0,none⟩) k k) ∧ w'.heap.size ≤ bq ∧ RowAt w'' (some ⟨bq,0,none⟩) k (x :: t.take (k - 1)) ∧
    RingAt w'' p2 2 g2 N2 e' ((x :: t).drop k) ∧ RChg p2 2 g2 w' w'':=fun w' hb=>by
   have:=rtake_any w' p2 2 g2 N2 e2 (x :: t) (k:Int) (R2.out.below hb)
   rw [hT,e1] at this;exact this
  have hlen:Calls Tryz.prog 79 #[.pointer (some ⟨p2,2,none⟩)] w fun r w'=>r = .returned (.int .i64 (n:Int)) ∧ w' = w:=by rw [hn];exact rlen_any _ _ _ _ _ _ _ R2.out
  have hnp:(0:Int) < (n:Int):=by omega
  have hlq:q.l.length + (t.take (k - 1)).length ≤ N:=by rw [List.length_take];have:=hll.1;omega
  have hkt:k = (t.take (k - 1)).length + 1:=by rw [List.length_take];omega
  have HCL:=Lib.hid hcl
  have HCT:=Lib.hid hct
  have HLEN:=Lib.hid hlen
  have HLQ:=Lib.hid hlq
  have HKT:=Lib.hid hkt
  have hlt:=H.out.lt
  have hlt2:=H2.out.lt
  have HLT:Hid (p < w.heap.size ∧ g < w.heap.size):=Lib.hid hlt
  generalize hD:(x :: t).drop k = D at *
  generalize hE:t.take (k - 1) = E at *
  clear hcl hct hlen hlq hkt e1 hT hk1 hnt hn hmo hhf hk h hll hll2 hlt hlt2 d1 d2 d3 d4 R2 hD hE
  rcases hcase with ⟨hle,rfl⟩ | ⟨hle,rfl⟩
  all_goals
   go_enter Tryz.func67,Tryz.ntmps67
   go_wp2_with fail
   refine HLEN.out.mono ?_
   rintro r w1 ⟨rfl,rfl⟩
   go_wp2_with fail
   go_region_with (first
    | (go_at_call 82;refine (HCL.out w1.drew (below_drew1 w1)).mono ?_;rintro r w2 ⟨rfl,mq,rfl⟩)
    | (go_at_call 81;(first | (with_reducible refine (HCT.out (w1.drew.drewN mq) (below_drewN (below_drew1 _) _)).mono ?_) | (with_reducible refine (HCT.out (w1.drewN (mq + 1)) (below_drewN (Below.refl _ _) _)).mono ?_) | (with_reducible refine (HCT.out (w1.drewN (1 + mq)) (below_drewN (Below.refl _ _) _)).mono ?_));rintro r w3 ⟨bq,eq,rfl,k3,k4,k5,k6⟩)
    | (go_at_call 80;refine (lgoOn_any w3 p g N q _ _ _ x E ((H.out.below (by first | exact below_drewN (below_drew1 _) mq | exact below_drewN (Below.refl _ _) _)).chg k6.chg (by have:=HD.out;simp;omega) (by have:=HD.out;simp;omega)) k4 HKT.out (fun y hy=>by simp [blk] at hy;have:=HLT.out;simp at k3;omega) HLQ.out).mono ?_;simp only [gotv,Option.getD_some,Option.isSome_some];rintro r w4 ⟨rfl,k7,k8⟩))
   all_goals
    have b1:Below w1.heap.size w1 (w1.drewN (1 + mq)):=below_drewN (Below.refl _ _) _
    have L2:=((H2.out.below b1).ring k5 k6).chg k8 (by have:=HD.out;simp;omega) (by have:=HD.out;simp;omega)
    have C4:Chg [p,g,p2,g2] w1 w4:=(((Chg.of_below (F:=[p,g,p2,g2]) b1).trans k6.chg (fun y hy=>by simp at hy;simp;omega))).trans k8 (fun y hy=>by simp at hy;simp;omega)
    have HL2:=Lib.hid L2
    have HC4:=Lib.hid C4
    have HK7:=Lib.hid k7
    clear b1 L2 C4 k3 k4 k5 k6 k7 k8
    go_wp2
    go_ret2
    exact ⟨rfl,HK7.out,HL2.out,HC4.out⟩
end Go.Proofs.YtphfaekpckbepaaGreat

open Go Go.RowKit
set_option linter.unusedVariables false
namespace Go.Proofs.YtphfaekpckbepaaGreat
theorem gtake_any (w:World) (b:Gp) (gl:List Int) (F:List Nat) (k:Int) (h:GloAt w b gl F) (hl:gl.length ≤ 1000000) :
  Calls Tryz.prog 77 #[.pointer (some ⟨b.b,14,none⟩),.int .i64 k] w fun r w'=>∃ a' c',r = .returned (.slice a' (takes k gl.length) c') ∧ RowAt w' a' c' (gl.take (takes k gl.length)) ∧ (∀ x ∈ blk a',w.heap.size ≤ x) ∧
   GloAt w' b (gl.drop (takes k gl.length)) F ∧ Chg F w w':=by
 have hFlt:=h.lt
 obtain ⟨a0,cap,rfl,h2,h3,h4⟩:=h
 obtain ⟨K,hK⟩:∃ K,K = takes k gl.length:=⟨_,rfl⟩
 have hKl:=takes_le k gl.length
 have hV:(K = 0 ∧ k < 0) ∨ (K = 0 ∧ k = 0) ∨ (k = (K:Int) ∧ 0 < K ∧ K < gl.length) ∨ (K = gl.length ∧ 0 < gl.length ∧ k = (gl.length:Int)) ∨ (K = gl.length ∧ 0 < gl.length ∧ (gl.length:Int) < k) ∨ (K = 0 ∧ gl.length = 0 ∧ 0 < k):=by rw [hK];unfold takes;omega
 rw [← hK] at hKl ⊢
 obtain ⟨a1,hs1,hr1,hk1⟩:=slice_from under_ints size_int h4 K hKl
 have hcap:=h4.1
 have hs0:∀ w',(Instr.slice 22 (.slice a0 gl.length cap) none (some (.int .i64 (K:Int))) none).run Tryz.prog w' = .ok (.slice a0 K cap) w':=fun w'=>slice_head w' under_ints size_int a0 gl.length cap K (by omega)
 have hc:=clone_any w a0 K cap (gl.take K) (h4.take K).ints (by rw [List.length_take];omega) (by omega) (fun e=>by
  rcases h4.2.2 with ⟨_,h⟩ | ⟨_,_,h,_⟩
  ·exact h
  ·rw [e] at h;cases h)
 have HC:=Lib.hid hc
 have H2:=Lib.hid h2
 have H3:=Lib.hid h3
 have HR1:=Lib.hid hr1
 have HK1:=Lib.hid hk1
 have HF:=Lib.hid hFlt
 obtain ⟨g0,f0⟩:=h3 14 _ rfl
 have hld:(gl.drop K).length = gl.length - K:=List.length_drop
 have HLD:=Lib.hid hld
 clear hc h2 h3 h4 hr1 hk1 hK hcap hld hFlt
 obtain ⟨n,hn⟩:∃ n,n = gl.length:=⟨_,rfl⟩
 rw [← hn] at hV hs1 hs0 g0 hKl hl HLD
 have HN:=Lib.hid hn;clear hn
 go_enter Tryz.func77,Tryz.ntmps77
 go_upto_region 1 with fail
 go_cut [1] (fun s1 wx=>s1 = .int .i64 (K:Int) ∧ Hid (wx = w))
 case first =>
  clear hs0 hs1
  rcases hV with ⟨rfl,hz⟩ | ⟨rfl,rfl⟩ | ⟨rfl,hz,hz'⟩ | ⟨rfl,hz,rfl⟩ | ⟨rfl,hz,hz'⟩ | ⟨rfl,rfl,hz⟩
  all_goals
   go_wp2_with fail
   go_meet
   exact ⟨rfl,rfl⟩
 obtain ⟨rfl,hr⟩:=hcut
 obtain rfl:w = wc:=hr.out.symm
 clear hV hr
 go_wp2_with fail
 refine HC.out.mono ?_
 rintro r w1 ⟨a',c',rfl,k1,k2,b1⟩
 have B1:=(H3.out).below b1
 obtain ⟨g1,f1⟩:=B1 14 _ rfl
 have hlt:=HF.out
 have cs:Chg [b.b] w1 (w1.setCell ⟨b.b,14,none⟩ (.slice a1 (n - K) (cap - K))):=(Chg.refl _ _).setCell _ (.inl (by simp))
 have hfin:RowAt (w1.setCell ⟨b.b,14,none⟩ (.slice a1 (n - K) (cap - K))) a' c' (gl.take K) ∧ (∀ x ∈ blk a',w.heap.size ≤ x) ∧ GloAt (w1.setCell ⟨b.b,14,none⟩ (.slice a1 (n - K) (cap - K))) b (gl.drop K) (b.b :: blk a0) ∧ Chg (b.b :: blk a0) w (w1.setCell ⟨b.b,14,none⟩ (.slice a1 (n - K) (cap - K))):=by
  refine ⟨k1.chg cs (fun x hx=>by have:=k2 x hx;have:=hlt b.b (by simp);simp;omega),k2,⟨a1,cap - K,by rw [HK1.out],by rw [HK1.out];exact H2.out,?_,(HR1.out.below b1).chg cs (fun x hx=>by rw [HK1.out] at hx;simp;intro e;subst e;exact H2.out hx)⟩,(Chg.of_below b1).trans cs (fun x hx=>.inl (by simp at hx;simp [hx]))⟩
  rw [HLD.out];exact B1.set 14 _
 have HFIN:=Lib.hid hfin
 have hcell:w1.cell? ⟨b.b,14,none⟩ = some (.slice a0 n cap):=by rw [HN.out];exact g1
 clear hfin B1 g1 cs k1 k2 b1 hlt
 go_wp2
 go_ret
 exact ⟨a',c',rfl,HFIN.out⟩
def mShare (N:Nat) (q:LQ) (gl:List Int) (k:Int):Nat:=min (if 0 < k then 1 + gl.length / k.toNat else 1) (N - q.l.length + 1)
def mFetch (N:Nat) (q:LQ) (gl:List Int) (k:Int):LQ × List Int × Option Int:=match gl with
 | []=>(q,[],none)
 | x :: t=>(⟨q.nx,q.l ++ (gl.take (mShare N q gl k)).tail⟩,gl.drop (mShare N q gl k),some x)
theorem mShare_pos (N:Nat) (q:LQ) (gl:List Int) (k:Int):1 ≤ mShare N q gl k:=by unfold mShare;generalize gl.length / k.toNat = d;split <;> omega
theorem lfetch_any (w:World) (p g N:Nat) (b:Gp) (q:LQ) (gl:List Int) (F:List Nat) (k:Int) (h:LocAt w p g N q) (hg:GloAt w b gl F) (hp:p ∉ F) (hgF:g ∉ F) (hl:gl.length ≤ 1000000) :
  Calls Tryz.prog 78 #[.pointer (some ⟨p,0,none⟩),.pointer (some ⟨b.b,14,none⟩),.int .i64 k] w fun r w'=>r = .returned (gotv (mFetch N q gl k).2.2) ∧ LocAt w' p g N (mFetch N q gl k).1 ∧
   Chg (p :: g :: F) w w' ∧ GloAt w' b (mFetch N q gl k).2.1 F:=by
 obtain ⟨S,hS⟩:∃ S,S = if 0 < k then 1 + gl.length / k.toNat else 1:=⟨_,rfl⟩
 obtain ⟨M,hM⟩:∃ M,M = N - q.l.length + 1:=⟨_,rfl⟩
 obtain ⟨m,hm⟩:∃ m,m = min S M:=⟨_,rfl⟩
 have hms:mShare N q gl k = m:=by unfold mShare;rw [← hS,← hM,← hm]
 have hS1:1 ≤ S:=by rw [hS];generalize gl.length / k.toNat = d;split <;> omega
 have hll:=h.ll
 have hSb:S ≤ gl.length + 1:=by
  rw [hS];split
  ·have:=Nat.div_le_self gl.length k.toNat;omega
  ·omega
 have hM2:M ≤ 1025:=by omega
 have hcase:((S:Int) ≤ (M:Int) ∧ m = S) ∨ ((M:Int) < (S:Int) ∧ m = M):=by omega
 have hm1:1 ≤ m:=by omega
 obtain ⟨T,hT⟩:∃ T,T = takes (m:Int) gl.length:=⟨_,rfl⟩
 have hTl:T = min m gl.length:=by rw [hT];rfl
 have hpl:=h.lt
 have hFl:=hg.lt
 have cG:Calls Tryz.prog 98 #[.pointer (some ⟨b.b,14,none⟩)] w fun r w'=>r = .returned (.int .i64 (gl.length:Int)) ∧ w' = w:=glen_any w b gl F hg
 have cM:Calls Tryz.prog 82 #[.pointer (some ⟨p,0,none⟩)] w fun r w'=>r = .returned (.int .i64 (M:Int)) ∧ ∃ j,w' = w.drewN j:=by rw [hM];exact lmost_any w p g N q h
 have cT:∀ j,Calls Tryz.prog 77 #[.pointer (some ⟨b.b,14,none⟩),.int .i64 (m:Int)] (w.drewN j) fun r w'=>∃ a' c',r = .returned (.slice a' T c') ∧ RowAt w' a' c' (gl.take T) ∧ (∀ x ∈ blk a',w.heap.size ≤ x) ∧ GloAt w' b (gl.drop T) F ∧ Chg F w w':=fun j=>by
  refine (gtake_any (w.drewN j) b gl F (m:Int) (hg.below (below_drewN (Below.refl _ _) j)) hl).mono ?_
  rw [← hT]
  rintro r w' ⟨a',c',e1,k1,k2,k3,k4⟩
  exact ⟨a',c',e1,k1,k2,k3,(Chg.of_below (below_drewN (Below.refl _ _) j)).trans k4 (fun x hx=>.inl hx)⟩
 have cO:∀ w1 a' c',RowAt w1 a' c' (gl.take T) → (∀ x ∈ blk a',w.heap.size ≤ x) → Chg F w w1 → Calls Tryz.prog 80 #[.pointer (some ⟨p,0,none⟩),.slice a' T c'] w1 fun r w'=>r = .returned (gotv (mFetch N q gl k).2.2) ∧ LocAt w' p g N (mFetch N q gl k).1 ∧ Chg [p,g] w1 w':=fun w1 a' c' k1 k2 k4=>by
  have hL1:=h.chg k4 hp hgF
  cases gl with
  | nil =>
   obtain rfl:T = 0:=by rw [hTl];simp
   exact (lgoOn_none w1 p a' c').mono (by rintro r w' ⟨rfl,rfl⟩;exact ⟨rfl,hL1,Chg.refl _ _⟩)
  | cons x t =>
   simp only [mFetch,hms]
   obtain ⟨T',rfl⟩:∃ T',T = T' + 1:=⟨T - 1,by simp at hTl;omega⟩
   have e:(x :: t).take m = x :: t.take T':=by
    obtain ⟨m',rfl⟩:∃ m',m = m' + 1:=⟨m - 1,by omega⟩
    rw [List.take_succ_cons];congr 1
    simp at hTl
    rw [List.take_eq_take_iff];omega
   rw [e,List.tail_cons]
   rw [List.take_succ_cons] at k1
   refine lgoOn_any w1 p g N q a' (T' + 1) c' x (t.take T') hL1 k1 (by rw [List.length_take];simp at hTl;omega) (fun y hy=>by have:=k2 y hy;omega) (by rw [List.length_take];omega)
 have hdrop:gl.drop T = (mFetch N q gl k).2.1:=by
  cases gl with
  | nil=>simp [mFetch]
  | cons x t =>
   simp only [mFetch,hms]
   by_cases e:m ≤ (x :: t).length
   ·rw [show T = m by omega]
   ·rw [List.drop_of_length_le (by omega),List.drop_of_length_le (by omega)]
 have hfin:∀ w1 w2,GloAt w1 b (gl.drop T) F → Chg F w w1 → Chg [p,g] w1 w2 → Chg (p :: g :: F) w w2 ∧ GloAt w2 b (mFetch N q gl k).2.1 F:=fun w1 w2 k1 k2 k3=>by
  refine ⟨(k2.mono (fun x hx=>by simp [hx])).trans k3 (fun x hx=>.inl (by simp at hx;simp;omega)),?_⟩
  rw [← hdrop];exact k1.chg k3 (fun x hx hc=>by simp at hc;rcases hc with rfl | rfl;exact hp hx;exact hgF hx)
 generalize (mFetch N q gl k).2.2 = V at *
 generalize (mFetch N q gl k).2.1 = GL at *
 generalize (mFetch N q gl k).1 = Q at *
 have CG:=Lib.hid cG
 have CM:=Lib.hid cM
 have CT:=Lib.hid cT
 have CO:=Lib.hid cO
 have HFIN:=Lib.hid hfin
 clear cG cM cT cO hfin hdrop hTl hT hms hll hpl hFl hm1 h hg hp hgF hm hM
 obtain ⟨n,hn⟩:∃ n,n = gl.length:=⟨_,rfl⟩
 have hk:(0 < k ∧ ∃ d:Nat,(n:Int).tdiv k = (d:Int) ∧ S = 1 + d ∧ d ≤ n) ∨ (¬ 0 < k ∧ S = 1):=by
  rw [← hn] at hS
  by_cases h0:0 < k
  ·left
   rw [if_pos h0] at hS
   obtain ⟨kk,rfl⟩:=Int.eq_ofNat_of_zero_le (show 0 ≤ k by omega)
   exact ⟨h0,n / kk,by rw [Int.tdiv_eq_ediv_of_nonneg (by omega)];rfl,hS,Nat.div_le_self _ _⟩
  ·exact .inr ⟨h0,by rw [if_neg h0] at hS;exact hS⟩
 rw [← hn] at CG hl hSb
 clear hS hn
 have HCA:Hid (((S:Int) ≤ (M:Int) ∧ m = S) ∨ ((M:Int) < (S:Int) ∧ m = M)):=hcase
 clear hcase
 rcases hk with ⟨hk0,d,hd,rfl,hdn⟩ | ⟨hk0,rfl⟩
 ·have hw1:IntKind.i64.wrap (d:Int) = (d:Int):=by rw [IntKind.wrap_i64];omega
  have hb0:(k == 0) = false:=by rw [beq_eq_false_iff_ne];omega
  go_enter Tryz.func78,Tryz.ntmps78
  go_wp2_with fail
  refine CG.out.mono ?_
  rintro r w1 ⟨rfl,rfl⟩
  go_wp2_with fail
  refine CM.out.mono ?_
  rintro r w2 ⟨rfl,mq,rfl⟩
  rcases HCA.out with ⟨hle,rfl⟩ | ⟨hle,rfl⟩
  all_goals
   have CT':=Lib.hid (CT.out mq)
   try rw [show ((1 + d:Nat):Int) = 1 + (d:Int) by omega] at CT'
   go_wp2_with fail
   refine CT'.out.mono ?_
   rintro r w3 ⟨a',c',rfl,k1,k2,k3,k4⟩
   have c5:=CO.out _ _ _ k1 k2 k4
   simp only [gotv] at c5 ⊢
   have C5:=Lib.hid c5
   have K3:=Lib.hid k3
   have K4:=Lib.hid k4
   clear k1 k2 k3 k4 c5
   go_wp2_with fail
   refine C5.out.mono ?_
   rintro r w4 ⟨rfl,k5,k6⟩
   have K5:=Lib.hid k5
   have K6:=Lib.hid (HFIN.out _ _ K3.out K4.out k6)
   clear k5 k6
   go_wp2
   go_ret2
   exact ⟨rfl,K5.out,K6.out⟩
 ·go_enter Tryz.func78,Tryz.ntmps78
  go_wp2_with fail
  refine CM.out.mono ?_
  rintro r w2 ⟨rfl,mq,rfl⟩
  rcases HCA.out with ⟨hle,rfl⟩ | ⟨hle,rfl⟩
  all_goals
   have CT':=Lib.hid (CT.out mq)
   try rw [show ((1:Nat):Int) = 1 by rfl] at CT'
   go_wp2_with fail
   refine CT'.out.mono ?_
   rintro r w3 ⟨a',c',rfl,k1,k2,k3,k4⟩
   have c5:=CO.out _ _ _ k1 k2 k4
   simp only [gotv] at c5 ⊢
   have C5:=Lib.hid c5
   have K3:=Lib.hid k3
   have K4:=Lib.hid k4
   clear k1 k2 k3 k4 c5
   go_wp2_with fail
   refine C5.out.mono ?_
   rintro r w4 ⟨rfl,k5,k6⟩
   have K5:=Lib.hid k5
   have K6:=Lib.hid (HFIN.out _ _ K3.out K4.out k6)
   clear k5 k6
   go_wp2
   go_ret2
   exact ⟨rfl,K5.out,K6.out⟩
section
variable {P:Program} {ops:Array Oper} {Q:Exit → Act → World → Prop} {S:World → Prop}
def wpSegH (P:Program) (ops:Array Oper) (S:World → Prop) (K:Act → Prop):List Oper → Act → Prop
 | [],a=>K a
 | o :: l,a=>(Region.wanted o (yielded ops a.tmps) = true ∧ ∃ v,(∀ w,S w → (execOp a.eval o).run P w = .ok (.value v) w) ∧ wpSegH P ops S K l (a.put o.dst v)) ∨
  (Region.wanted o (yielded ops a.tmps) = false ∧ wpSegH P ops S K l (a.put o.dst undef))
theorem wpSegH_nil {K:Act → Prop} {a:Act} (h:K a):wpSegH P ops S K [] a:=h
theorem wpSegH_yes {K:Act → Prop} {a:Act} {o:Oper} {l:List Oper} (hw:Region.wanted o (yielded ops a.tmps) = true) (h:∃ v,(∀ w,S w → (execOp a.eval o).run P w = .ok (.value v) w) ∧ wpSegH P ops S K l (a.put o.dst v)):wpSegH P ops S K (o :: l) a:=.inl ⟨hw,h⟩
theorem wpSegH_no {K:Act → Prop} {a:Act} {o:Oper} {l:List Oper} (hw:Region.wanted o (yielded ops a.tmps) = false) (h:wpSegH P ops S K l (a.put o.dst undef)):wpSegH P ops S K (o :: l) a:=.inr ⟨hw,h⟩
def segB (ops:Array Oper):Nat → Nat → Array Bool → Bool
 | 0,_,_=>true
 | f + 1,k,listed=>(Region.ready .any ops listed).contains k && Region.free .any ops listed k && segB ops f (k + 1) (listed.setIfInBounds k true)
def marks:Nat → Nat → Array Bool → Array Bool
 | 0,_,listed=>listed
 | f + 1,k,listed=>marks f (k + 1) (listed.setIfInBounds k true)
theorem wpAnyH_segs (hs:Region.noSelect ops = true) (hQ:∀ (d:Option Tmp) (v:Value) c a w,Q (.panic c) (a.put d v) w → Q (.panic c) a w) (fuel:Nat) (w:World) (hS:S w) :
  ∀ (l:List Oper) (k:Nat) (listed:Array Bool) (a:Act),(∀ j,j < l.length → l[j]? = ops[k + j]?) → segB ops l.length k listed = true →
   wpSegH P ops S (fun a'=>wpAnyH P .any ops Q S fuel (marks l.length k listed) a' w) l a → wpAnyH P .any ops Q S (l.length + fuel) listed a w
 | [],k,listed,a,_,_,h=>by rw [List.length_nil,Nat.zero_add];exact h
 | o :: l,k,listed,a,hl,hB,h=>by
  have h0:ops[k]? = some o:=by simpa using (hl 0 (by simp)).symm
  simp only [List.length_cons,segB,Bool.and_eq_true] at hB
  obtain ⟨⟨hr,hf⟩,hB⟩:=hB
  have hl':∀ j,j < l.length → l[j]? = ops[k + 1 + j]?:=fun j hj=>by have:=hl (j + 1) (by simp;omega);simpa [Nat.add_assoc,Nat.add_comm 1 j] using this
  rw [List.length_cons,show l.length + 1 + fuel = (l.length + fuel) + 1 by omega]
  rcases h with ⟨hw,v,hv,h⟩ | ⟨hw,h⟩
  ·exact wpAnyH_take h0 hs hf hr (fun c a w=>hQ o.dst v c a w) (.inl ⟨hw,hv⟩) hS (wpAnyH_segs hs hQ fuel w hS l (k + 1) _ _ hl' hB h)
  ·exact wpAnyH_take h0 hs hf hr (fun c a w=>hQ o.dst undef c a w) (.inr ⟨hw,rfl⟩) hS (wpAnyH_segs hs hQ fuel w hS l (k + 1) _ _ hl' hB h)
theorem wpAnyH_seg {l:List Oper} (k n:Nat) (listed listed':Array Bool) (fuel:Nat) {a:Act} {w:World} (hs:Region.noSelect l.toArray = true) (hQ:∀ (d:Option Tmp) (v:Value) c a w,Q (.panic c) (a.put d v) w → Q (.panic c) a w) (hS:S w)
  (hB:(segB l.toArray n k listed && decide (k + n ≤ l.length) && (marks n k listed == listed')) = true) (h:wpSegH P l.toArray S (fun a'=>wpAnyH P .any l.toArray Q S fuel listed' a' w) ((l.drop k).take n) a):wpAnyH P .any l.toArray Q S (n + fuel) listed a w:=by
 simp only [Bool.and_eq_true,decide_eq_true_eq,beq_iff_eq] at hB
 obtain ⟨⟨hB,hn⟩,rfl⟩:=hB
 have hln:((l.drop k).take n).length = n:=by rw [List.length_take,List.length_drop];omega
 have:=wpAnyH_segs (P:=P) (Q:=Q) (S:=S) hs hQ fuel w hS ((l.drop k).take n) k listed a (fun j hj=>by
  rw [hln] at hj
  rw [List.getElem?_take,if_pos hj,List.getElem?_drop];simp) (by rw [hln];exact hB) (by rw [hln];exact h)
 rwa [hln] at this
def headH (P:Program) (ops:Array Oper) (Q:Exit → Act → World → Prop) (K:Act → World → Prop) (a:Act) (w:World):List Oper → Prop
 | []=>False
 | o :: _=>Region.wanted o (yielded ops a.tmps) = true ∧ o.wp P a w K Q
theorem headH_mk {K:Act → World → Prop} {a:Act} {w:World} {o:Oper} {l:List Oper} (hw:Region.wanted o (yielded ops a.tmps) = true) (h:o.wp P a w K Q):headH P ops Q K a w (o :: l):=⟨hw,h⟩
theorem wpAnyH_one {l:List Oper} (k:Nat) (listed listed':Array Bool) (fuel:Nat) {a:Act} {w:World} (hB:(decide (Region.ready .any l.toArray listed = [k]) && (listed.setIfInBounds k true == listed')) = true)
  (h:∀ K:Act → World → Prop,(∀ a' w',S w' → wpAnyH P .any l.toArray Q S fuel listed' a' w' → K a' w') → headH P l.toArray Q K a w (l.drop k)):wpAnyH P .any l.toArray Q S (fuel + 1) listed a w:=by
 simp only [Bool.and_eq_true,decide_eq_true_eq,beq_iff_eq] at hB
 obtain ⟨hr,rfl⟩:=hB
 refine wpAnyH_all hr (by simp) (fun i hi=>?_)
 have hik:i = k:=by simpa using hi
 subst hik
 have h1:=h (fun a' w'=>S w' ∧ wpAnyH P .any l.toArray Q S fuel (listed.setIfInBounds i true) a' w') (fun a' w' h2 h3=>⟨h2,h3⟩)
 cases hd:l.drop i with
 | nil=>rw [hd] at h1;exact h1.elim
 | cons o r =>
  rw [hd] at h1
  have h0:l.toArray[i]? = some o:=by
   have:(l.drop i)[0]? = some o:=by rw [hd];rfl
   rw [List.getElem?_drop] at this
   simpa using this
  unfold wpOp
  simp only [h0]
  rw [if_pos h1.1]
  exact .inl h1.2
theorem wp_region_lexH {id:Nat} {a:Act} {w:World} {l:List Oper} (S:World → Prop) (fuel:Nat) (listed:Array Bool) (hm:P.follows .mixedOrders = true) (hB:(decide (l.length = fuel) && (Array.replicate l.length false == listed)) = true)
  (h:wpAnyH P .any l.toArray (NoPanic Q) S fuel listed a w.drew):(Code.region id l.toArray true).wp P Q a w:=by
 simp only [Bool.and_eq_true,decide_eq_true_eq,beq_iff_eq] at hB
 obtain ⟨rfl,rfl⟩:=hB
 exact wp_region_noPanic (wp_region_held hm (by simpa using h))
theorem noPanic_put (d:Option Tmp) (v:Value) (c:_) (a:Act) (w:World):NoPanic Q (.panic c) (a.put d v) w → NoPanic Q (.panic c) a w:=fun h=>h
end
end Go.Proofs.YtphfaekpckbepaaGreat
