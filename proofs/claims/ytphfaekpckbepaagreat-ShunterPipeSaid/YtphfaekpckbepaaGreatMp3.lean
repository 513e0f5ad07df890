/-
  Texts put together: SegH2, SegY, WLpA, SdM, WdA, WdTop, WdB, SegZ, SegK, WdC, WdB2, WdCas, WdFin, WdWake, WdGo, WdSend, WdRecv, WPk2.
-/
import Derived.Test.YtphfaekpckbepaaGreatMp2
import Derived.Test.YtphfaekpckbepaaGreatMp1
import Derived.StillTail
import Derived.Recover
set_option maxRecDepth 100000
set_option maxHeartbeats 16000000
set_option linter.unusedSimpArgs false
set_option linter.unusedVariables false
open Go Go.RowKit
set_option linter.unusedVariables false
namespace Go.Proofs.YtphfaekpckbepaaGreat
section
variable {P:Program} {Q:Exit → Act → World → Prop} {S:World → Prop}
theorem wpAnyH_two {l:List Oper} (k k':Nat) (listed listed' listed'':Array Bool) (fuel:Nat) {a:Act} {w:World} (hB:(decide (Region.ready .any l.toArray listed = [k,k']) && (listed.setIfInBounds k true == listed') && (listed.setIfInBounds k' true == listed'')) = true)
  (h1:∀ K:Act → World → Prop,(∀ a' w',S w' → wpAnyH P .any l.toArray Q S fuel listed' a' w' → K a' w') → headH P l.toArray Q K a w (l.drop k))
  (h2:∀ K:Act → World → Prop,(∀ a' w',S w' → wpAnyH P .any l.toArray Q S fuel listed'' a' w' → K a' w') → headH P l.toArray Q K a w (l.drop k')):wpAnyH P .any l.toArray Q S (fuel + 1) listed a w:=by
 simp only [Bool.and_eq_true,decide_eq_true_eq,beq_iff_eq] at hB
 obtain ⟨⟨hr,rfl⟩,rfl⟩:=hB
 refine wpAnyH_all hr (by simp) (fun i hi=>?_)
 have h:∀ K:Act → World → Prop,(∀ a' w',S w' → wpAnyH P .any l.toArray Q S fuel (listed.setIfInBounds i true) a' w' → K a' w') → headH P l.toArray Q K a w (l.drop i):=by
  have hik:i = k ∨ i = k':=by simpa using hi
  rcases hik with rfl | rfl
  ·exact h1
  ·exact h2
 have h1:=h (fun a' w'=>S w' ∧ wpAnyH P .any l.toArray Q S fuel (listed.setIfInBounds i true) a' w') (fun a' w' h2 h3=>⟨h2,h3⟩)
 cases hd:l.drop i with
 | nil=>rw [hd] at h1;exact h1.elim
 | cons o r =>
  rw [hd] at h1
  have h0:l.toArray[i]? = some o:=by
   have:(l.drop i)[0]? = some o:=by rw [hd];rfl
   rw [List.getElem?_drop] at this
   simpa using this
  unfold wpOp
  simp only [h0]
  rw [if_pos h1.1]
  exact .inl h1.2
end
end Go.Proofs.YtphfaekpckbepaaGreat
open Go Go.RowKit
set_option linter.unusedVariables false
namespace Go.Proofs.YtphfaekpckbepaaGreat
section
variable {P:Program} {ops:Array Oper} {Q:Exit → Act → World → Prop} {S:World → Prop} {md:Region.Mode}
def waitedB (md:Region.Mode) (ops:Array Oper) (K i:Nat):Bool:=(List.range ops.size).all fun j=>decide (j < K) || (match ops[j]? with
 | some o=>o.after.any fun e=>Region.binds md e && e.on == i
 | none=>false)
def wpAnyY (P:Program) (md:Region.Mode) (ops:Array Oper) (Q:Exit → Act → World → Prop) (S:World → Prop) (K:Nat):Nat → Array Bool → Act → World → Prop
 | 0,listed,a,w=>Region.ready md ops listed = [] ∧ Q .normal a w
 | fuel + 1,listed,a,w =>
  (Region.ready md ops listed = [] → Q .normal a w) ∧
  ∀ i ∈ Region.ready md ops listed,wpOp P ops Q i (fun a' w'=>(K ≤ i ∨ (S w → S w')) ∧ wpAnyY P md ops Q S K fuel (listed.setIfInBounds i true) a' w') a w
theorem wpAny_of_y {K:Nat}:∀ (fuel:Nat) (listed:Array Bool) (a:Act) (w:World),wpAnyY P md ops Q S K fuel listed a w → wpAny P md ops Q fuel listed a w
 | 0,_,_,_,h=>h
 | fuel + 1,_,_,_,h=>⟨h.1,fun i hi=>wpOp_mono (fun a' w' h'=>wpAny_of_y fuel _ a' w' h'.2) (h.2 i hi)⟩
theorem waited_not {K i j:Nat} {listed:Array Bool} (hj:j ∈ Region.ready md ops listed) (hi:i ∈ Region.ready md ops listed) (hK:K ≤ j) (he:waitedB md ops K i = true):False:=by
 obtain ⟨_,oj,hoj,hall⟩:=mem_ready.1 hj
 have hjl:j < ops.size:=(Array.getElem?_eq_some_iff.1 hoj).1
 unfold waitedB at he
 rw [List.all_eq_true] at he
 have h1:=he j (List.mem_range.2 hjl)
 rw [hoj,Bool.or_eq_true] at h1
 rcases h1 with h1 | h1
 ·have:=of_decide_eq_true h1;omega
 ·obtain ⟨e,he1,he2⟩:=Array.any_eq_true'.1 h1
  rw [Bool.and_eq_true] at he2
  have h2:=hall e he1 he2.1
  have h3:e.on = i:=by simpa using he2.2
  rw [h3] at h2
  have h0:=(mem_ready.1 hi).1
  rcases Nat.lt_or_ge i listed.size with h' | h'
  ·simp [h'] at h0 h2;rw [h0] at h2;cases h2
  ·simp [Array.getElem?_eq_none h'] at h2
theorem wpAnyY_first {K i:Nat} {oi:Oper} {v:Value} {T:World → Prop} (hi:ops[i]? = some oi) (hsel:∀ (j:Nat) (o:Oper) cs b,ops[j]? = some o → o.op ≠ .select cs b)
  (hQ:∀ c a w,Q (.panic c) (a.put oi.dst v) w → Q (.panic c) a w) (hT:(T = S ∧ waitedB md ops K i = true) ∨ ∀ w,T w) :
  ∀ (fuel:Nat) (listed:Array Bool) (a:Act) (w:World),
   (∀ j oj,ops[j]? = some oj → j ≠ i → listed.getD j true = false → (∀ e ∈ oj.after,Region.binds md e = true → e.on ≠ i) → oi.apart ops oj = true) →
   i ∈ Region.ready md ops listed → YieldsIf P ops T oi v a → T w →
   wpAnyY P md ops Q S K fuel (listed.setIfInBounds i true) (a.put oi.dst v) w → wpAnyY P md ops Q S K (fuel + 1) listed a w
 | 0,listed,a,w,_,hr,hy,hS,H=>by
  refine ⟨fun h=>(by rw [h] at hr;cases hr),fun j hj=>?_⟩
  by_cases hji:j = i
  ·subst hji;exact hy.wpOp hi hS ⟨.inr id,H⟩
  ·have:=ready_mono hj hji
   rw [H.1] at this
   cases this
 | fuel + 1,listed,a,w,hfree,hr,hy,hS,H=>by
  refine ⟨fun h=>(by rw [h] at hr;cases hr),fun j hj=>?_⟩
  by_cases hji:j = i
  ·subst hji;exact hy.wpOp hi hS ⟨.inr id,H⟩
  ·have h1:=H.2 j (ready_mono hj hji)
   obtain ⟨hjun,oj,hoj,hall⟩:=mem_ready.1 hj
   have hnot:∀ e ∈ oj.after,Region.binds md e = true → e.on ≠ i:=fun e he hb heq=>by
    have h2:=hall e he hb
    have h0:=(mem_ready.1 hr).1
    rw [heq] at h2
    rcases Nat.lt_or_ge i listed.size with h' | h'
    ·simp [h'] at h0 h2;rw [h0] at h2;cases h2
    ·simp [Array.getElem?_eq_none h'] at h2
   refine wpOp_mono (fun a' w' h3=>?_) (wpOp_putIf hoj (hfree j oj hoj hji hjun hnot) (fun cs b=>hsel i oi cs b hi) (fun cs b=>hsel j oj cs b hoj) hQ hy h1)
   have hS':T w':=by
    rcases hT with ⟨rfl,hw⟩ | hT
    ·rcases h3.2.1 with h4 | h4
     ·exact (waited_not hj hr h4 hw).elim
     ·exact h4 hS
    ·exact hT w'
   refine ⟨h3.2.1,wpAnyY_first hi hsel hQ hT fuel (listed.setIfInBounds j true) a' w' (fun k ok hk hki hun hno=>hfree k ok hk hki ?_ hno) (ready_mono hr (Ne.symm hji)) h3.1 hS' ?_⟩
   ·by_cases hjk:j = k
    ·subst hjk;exact hjun
    ·rw [getD_set_ne true hjk] at hun;exact hun
   ·rw [Array.setIfInBounds_comm _ _ hji]
    exact h3.2.2
theorem wpAnyY_segs {K:Nat} {T:World → Prop} (hs:Region.noSelect ops = true) (hQ:∀ (d:Option Tmp) (v:Value) c a w,Q (.panic c) (a.put d v) w → Q (.panic c) a w) (fuel:Nat) (w:World) (hS:T w) :
  ∀ (l:List Oper) (k:Nat) (listed:Array Bool) (a:Act),(∀ j,j < l.length → l[j]? = ops[k + j]?) → segB ops l.length k listed = true → (∀ j,j < l.length → (T = S ∧ waitedB .any ops K (k + j) = true) ∨ ∀ w,T w) →
   wpSegH P ops T (fun a'=>wpAnyY P .any ops Q S K fuel (marks l.length k listed) a' w) l a → wpAnyY P .any ops Q S K (l.length + fuel) listed a w
 | [],k,listed,a,_,_,_,h=>by rw [List.length_nil,Nat.zero_add];exact h
 | o :: l,k,listed,a,hl,hB,hT,h=>by
  have h0:ops[k]? = some o:=by simpa using (hl 0 (by simp)).symm
  simp only [List.length_cons,segB,Bool.and_eq_true] at hB
  obtain ⟨⟨hr,hf⟩,hB⟩:=hB
  have hl':∀ j,j < l.length → l[j]? = ops[k + 1 + j]?:=fun j hj=>by have:=hl (j + 1) (by simp;omega);simpa [Nat.add_assoc,Nat.add_comm 1 j] using this
  have hT':∀ j,j < l.length → (T = S ∧ waitedB .any ops K (k + 1 + j) = true) ∨ ∀ w,T w:=fun j hj=>by have:=hT (j + 1) (by simp;omega);rwa [show k + (j + 1) = k + 1 + j by omega] at this
  rw [List.length_cons,show l.length + 1 + fuel = (l.length + fuel) + 1 by omega]
  have hr':k ∈ Region.ready .any ops listed:=by simpa using hr
  have hT0:=hT 0 (by simp)
  rw [Nat.add_zero] at hT0
  rcases h with ⟨hw,v,hv,h⟩ | ⟨hw,h⟩
  ·exact wpAnyY_first h0 (Region.noSelect_spec hs) (fun c a w=>hQ o.dst v c a w) hT0 _ listed a w (Region.free_spec h0 hf) hr' (.inl ⟨hw,hv⟩) hS (wpAnyY_segs hs hQ fuel w hS l (k + 1) _ _ hl' hB hT' h)
  ·exact wpAnyY_first h0 (Region.noSelect_spec hs) (fun c a w=>hQ o.dst undef c a w) hT0 _ listed a w (Region.free_spec h0 hf) hr' (.inr ⟨hw,rfl⟩) hS (wpAnyY_segs hs hQ fuel w hS l (k + 1) _ _ hl' hB hT' h)
theorem wpAnyY_seg {K:Nat} {l:List Oper} (k n:Nat) (listed listed':Array Bool) (fuel:Nat) {a:Act} {w:World} (hs:Region.noSelect l.toArray = true) (hQ:∀ (d:Option Tmp) (v:Value) c a w,Q (.panic c) (a.put d v) w → Q (.panic c) a w) (hS:S w)
  (hB:(segB l.toArray n k listed && decide (k + n ≤ l.length) && (marks n k listed == listed') && (List.range n).all fun j=>waitedB .any l.toArray K (k + j)) = true) (h:wpSegH P l.toArray S (fun a'=>wpAnyY P .any l.toArray Q S K fuel listed' a' w) ((l.drop k).take n) a):wpAnyY P .any l.toArray Q S K (n + fuel) listed a w:=by
 simp only [Bool.and_eq_true,decide_eq_true_eq,beq_iff_eq] at hB
 obtain ⟨⟨⟨hB,hn⟩,rfl⟩,hw⟩:=hB
 have hln:((l.drop k).take n).length = n:=by rw [List.length_take,List.length_drop];omega
 have:=wpAnyY_segs (P:=P) (Q:=Q) (S:=S) (K:=K) hs hQ fuel w hS ((l.drop k).take n) k listed a (fun j hj=>by
  rw [hln] at hj
  rw [List.getElem?_take,if_pos hj,List.getElem?_drop];simp) (by rw [hln];exact hB) (fun j hj=>.inl ⟨rfl,List.all_eq_true.1 hw j (List.mem_range.2 (by rw [hln] at hj;exact hj))⟩) (by rw [hln];exact h)
 rwa [hln] at this
theorem wpAnyY_segT {K:Nat} {l:List Oper} (k n:Nat) (listed listed':Array Bool) (fuel:Nat) {a:Act} {w:World} (hs:Region.noSelect l.toArray = true) (hQ:∀ (d:Option Tmp) (v:Value) c a w,Q (.panic c) (a.put d v) w → Q (.panic c) a w)
  (hB:(segB l.toArray n k listed && decide (k + n ≤ l.length) && (marks n k listed == listed')) = true) (h:wpSegH P l.toArray (fun _=>True) (fun a'=>wpAnyY P .any l.toArray Q S K fuel listed' a' w) ((l.drop k).take n) a):wpAnyY P .any l.toArray Q S K (n + fuel) listed a w:=by
 simp only [Bool.and_eq_true,decide_eq_true_eq,beq_iff_eq] at hB
 obtain ⟨⟨hB,hn⟩,rfl⟩:=hB
 have hln:((l.drop k).take n).length = n:=by rw [List.length_take,List.length_drop];omega
 have:=wpAnyY_segs (P:=P) (Q:=Q) (S:=S) (K:=K) (T:=fun _=>True) hs hQ fuel w trivial ((l.drop k).take n) k listed a (fun j hj=>by
  rw [hln] at hj
  rw [List.getElem?_take,if_pos hj,List.getElem?_drop];simp) (by rw [hln];exact hB) (fun j hj=>.inr fun _=>trivial) (by rw [hln];exact h)
 rwa [hln] at this
theorem headY {l:List Oper} {i:Nat} {a:Act} {w:World} {K:Act → World → Prop} (h1:headH P l.toArray Q K a w (l.drop i)):wpOp P l.toArray Q i K a w:=by
 cases hd:l.drop i with
 | nil=>rw [hd] at h1;exact h1.elim
 | cons o r =>
  rw [hd] at h1
  have h0:l.toArray[i]? = some o:=by
   have:(l.drop i)[0]? = some o:=by rw [hd];rfl
   rw [List.getElem?_drop] at this
   simpa using this
  unfold wpOp
  simp only [h0]
  rw [if_pos h1.1]
  exact .inl h1.2
theorem wpAnyY_one {K0:Nat} {l:List Oper} (k:Nat) (listed listed':Array Bool) (fuel:Nat) {a:Act} {w:World} (hB:(decide (Region.ready .any l.toArray listed = [k]) && (listed.setIfInBounds k true == listed')) = true)
  (h:∀ K:Act → World → Prop,(∀ a' w',S w' → wpAnyY P .any l.toArray Q S K0 fuel listed' a' w' → K a' w') → headH P l.toArray Q K a w (l.drop k)):wpAnyY P .any l.toArray Q S K0 (fuel + 1) listed a w:=by
 simp only [Bool.and_eq_true,decide_eq_true_eq,beq_iff_eq] at hB
 obtain ⟨hr,rfl⟩:=hB
 refine ⟨fun h0=>(by rw [hr] at h0;cases h0),fun i hi=>?_⟩
 rw [hr] at hi
 have hik:i = k:=by simpa using hi
 subst hik
 exact headY (h _ (fun a' w' h2 h3=>⟨.inr fun _=>h2,h3⟩))
theorem wpAnyY_late {K0:Nat} {l:List Oper} (k:Nat) (listed listed':Array Bool) (fuel:Nat) {a:Act} {w:World} (hB:(decide (Region.ready .any l.toArray listed = [k]) && (listed.setIfInBounds k true == listed') && decide (K0 ≤ k)) = true)
  (h:∀ K:Act → World → Prop,(∀ a' w',wpAnyY P .any l.toArray Q S K0 fuel listed' a' w' → K a' w') → headH P l.toArray Q K a w (l.drop k)):wpAnyY P .any l.toArray Q S K0 (fuel + 1) listed a w:=by
 simp only [Bool.and_eq_true,decide_eq_true_eq,beq_iff_eq] at hB
 obtain ⟨⟨hr,rfl⟩,he⟩:=hB
 refine ⟨fun h0=>(by rw [hr] at h0;cases h0),fun i hi=>?_⟩
 rw [hr] at hi
 have hik:i = k:=by simpa using hi
 subst hik
 exact headY (h _ (fun a' w' h3=>⟨.inl he,h3⟩))
theorem wpAnyY_done {K:Nat} {listed:Array Bool} {a:Act} {w:World} (hr:Region.ready md ops listed = []) (h:Q .normal a w):∀ fuel,wpAnyY P md ops Q S K fuel listed a w
 | 0=>⟨hr,h⟩
 | _ + 1=>⟨fun _=>h,by rw [hr];simp⟩
theorem wp_region_lexY {id:Nat} {a:Act} {w:World} {l:List Oper} (S:World → Prop) (K:Nat) (fuel:Nat) (listed:Array Bool) (hm:P.follows .mixedOrders = true) (hB:(decide (l.length = fuel) && (Array.replicate l.length false == listed)) = true)
  (h:wpAnyY P .any l.toArray (NoPanic Q) S K fuel listed a w.drew):(Code.region id l.toArray true).wp P Q a w:=by
 simp only [Bool.and_eq_true,decide_eq_true_eq,beq_iff_eq] at hB
 obtain ⟨rfl,rfl⟩:=hB
 exact wp_region_noPanic (wp_region_any hm (wpAny_of_y _ _ _ _ (by simpa using h)))
end
end Go.Proofs.YtphfaekpckbepaaGreat
open Go Go.RowKit
set_option linter.unusedVariables false
namespace Go.Proofs.YtphfaekpckbepaaGreat
structure Qd where
 p:Nat
 g:Nat
 N:Nat
 q:LQ
 xa:Option Addr
 xc:Nat
def locA (d:Qd):Asr where
 at_ w F:=F = [d.p,d.g] ∧ LocAt w d.p d.g d.N d.q
 lt:=by rintro w F ⟨rfl,h⟩ x hx;have:=h.lt;simp at hx;rcases hx with rfl | rfl <;> omega
 chg:=by rintro w w' F G ⟨rfl,h⟩ c hd;exact ⟨rfl,h.chg c (hd _ (by simp)) (hd _ (by simp))⟩
def gloA (b:Gp) (gl:List Int):Asr where
 at_ w F:=GloAt w b gl F
 lt:=fun h=>h.lt
 chg:=fun h c hd=>h.chg c hd
def locs (ds:List Qd):List Asr:=ds.map locA
theorem locs_at {ds:List Qd} {i:Nat} {d:Qd} (h:ds[i]? = some d):(locs ds)[i]? = some (locA d):=by unfold locs;rw [List.getElem?_map,h];rfl
theorem locs_set (ds:List Qd) (i:Nat) (d:Qd):(locs ds).set i (locA d) = locs (ds.set i d):=by unfold locs;rw [List.map_set]
theorem Own.lgCall {w0 w:World} {d:Qd} {q':LQ} {b:Gp} {gl gl':List Int} {R:List Asr} (h:Own w0 w (locA d :: gloA b gl :: R)) {f:FuncId} {args:Array Value} {ret:Ending → Prop}
  (hc:∀ F,LocAt w d.p d.g d.N d.q → GloAt w b gl F → d.p ∉ F → d.g ∉ F → Calls Tryz.prog f args w fun r w'=>ret r ∧ LocAt w' d.p d.g d.N q' ∧ Chg (d.p :: d.g :: F) w w' ∧ ∃ F',GloAt w' b gl' F' ∧ ∀ x ∈ F',x ∈ F ∨ w.heap.size ≤ x) :
  Calls Tryz.prog f args w fun r w'=>ret r ∧ Own w0 w' (locA ⟨d.p,d.g,d.N,q',d.xa,d.xc⟩ :: gloA b gl' :: R):=by
 refine h.call2 (fun F G hF hG hd=>?_)
 obtain ⟨rfl,h1⟩:=hF
 have hp:d.p ∉ G:=hd _ (by simp)
 have hg:d.g ∉ G:=hd _ (by simp)
 have hlt:=h1.lt
 refine (hc G h1 hG hp hg).mono ?_
 rintro r w' ⟨k1,k2,k3,F',k4,k5⟩
 exact ⟨k1,[d.p,d.g],F',⟨rfl,k2⟩,k4,fun x hx hc=>by
  simp at hx
  rcases k5 x hc with h | h
  ·rcases hx with rfl | rfl
   ·exact hp h
   ·exact hg h
  ·rcases hx with rfl | rfl <;> omega,k3,fun x hx=>.inl (by simp at hx ⊢;rcases hx with rfl | rfl <;> simp),fun x hx=>by
  rcases k5 x hx with h | h
  ·exact .inl (by simp [h])
  ·exact .inr h⟩
section
variable {w0 w:World} {d:Qd} {b:Gp} {gl:List Int} {R:List Asr}
theorem own_ready8 (h:Own w0 w (locA d :: gloA b gl :: R)) (v:Int) (hl:gl.length ≤ 1000000) :
  Calls Tryz.prog 59 #[.pointer (some ⟨d.p,0,none⟩),.int .i64 v,.pointer (some ⟨b.b,14,none⟩)] w fun r w'=>r = .returned (.int .i64 ((mReady d.N d.q v gl).2.2:Int)) ∧ Own w0 w' (locA ⟨d.p,d.g,d.N,(mReady d.N d.q v gl).1,d.xa,d.xc⟩ :: gloA b (mReady d.N d.q v gl).2.1 :: R) :=
 h.lgCall (fun F h1 h2 h3 h4=>lready_any w d.p d.g d.N b d.q gl F v h1 h2 h3 h4 hl)
theorem own_turn8 (h:Own w0 w (locA d :: gloA b gl :: R)) (hl:gl.length ≤ 1000000) :
  Calls Tryz.prog 65 #[.pointer (some ⟨d.p,0,none⟩),.pointer (some ⟨b.b,14,none⟩)] w fun r w'=>r = .returned (.int .i64 ((mTurn d.N d.q gl).2.2:Int)) ∧ Own w0 w' (locA ⟨d.p,d.g,d.N,⟨none,(mTurn d.N d.q gl).1.l⟩,d.xa,d.xc⟩ :: gloA b (mTurn d.N d.q gl).2.1 :: R) :=
 h.lgCall (fun F h1 h2 h3 h4=>lturn_any w d.p d.g d.N b d.q gl F h1 h2 h3 h4 hl)
theorem own_fetch8 (h:Own w0 w (locA d :: gloA b gl :: R)) (k:Int) (hl:gl.length ≤ 1000000) :
  Calls Tryz.prog 78 #[.pointer (some ⟨d.p,0,none⟩),.pointer (some ⟨b.b,14,none⟩),.int .i64 k] w fun r w'=>r = .returned (gotv (mFetch d.N d.q gl k).2.2) ∧ Own w0 w' (locA ⟨d.p,d.g,d.N,(mFetch d.N d.q gl k).1,d.xa,d.xc⟩ :: gloA b (mFetch d.N d.q gl k).2.1 :: R) :=
 h.lgCall (fun F h1 h2 h3 h4=>(lfetch_any w d.p d.g d.N b d.q gl F k h1 h2 h3 h4 hl).mono fun r w' ⟨k1,k2,k3,k4⟩=>⟨k1,k2,k3,F,k4,fun x hx=>.inl hx⟩)
theorem own_get8 (h:Own w0 w (locA d :: R)) :
  Calls Tryz.prog 56 #[.pointer (some ⟨d.p,0,none⟩)] w fun r w'=>r = .returned (gotv (mGet d.q).2) ∧ Own w0 w' (locA ⟨d.p,d.g,d.N,(mGet d.q).1,d.xa,d.xc⟩ :: R) :=
 h.call1 (fun F ⟨e,h1⟩=>(lget_any w d.p d.g d.N d.q h1).mono fun r w' ⟨k1,k2,k3⟩=>⟨k1,[d.p,d.g],⟨rfl,k2⟩,by rw [e];exact k3,fun x hx=>.inl (by rw [e];exact hx)⟩)
theorem own_steal8 {e:Qd} (h:Own w0 w (locA d :: locA e :: R)) :
  Calls Tryz.prog 67 #[.pointer (some ⟨d.p,0,none⟩),.pointer (some ⟨e.p,0,none⟩)] w fun r w'=>r = .returned (gotv (mSteal d.N d.q e.q).2.2) ∧ Own w0 w' (locA ⟨d.p,d.g,d.N,(mSteal d.N d.q e.q).1,d.xa,d.xc⟩ :: locA ⟨e.p,e.g,e.N,(mSteal d.N d.q e.q).2.1,e.xa,e.xc⟩ :: R):=by
 refine h.call2 (fun F G hF hG hd=>?_)
 obtain ⟨rfl,h1⟩:=hF
 obtain ⟨rfl,h2⟩:=hG
 have d1:d.p ≠ e.p:=fun hc=>hd d.p (by simp) (by simp [hc])
 have d2:d.p ≠ e.g:=fun hc=>hd d.p (by simp) (by simp [hc])
 have d3:d.g ≠ e.p:=fun hc=>hd d.g (by simp) (by simp [hc])
 have d4:d.g ≠ e.g:=fun hc=>hd d.g (by simp) (by simp [hc])
 refine (lsteal_any w d.p d.g d.N e.p e.g e.N d.q e.q h1 h2 d1 d2 d3 d4).mono ?_
 rintro r w' ⟨k1,k2,k3,k4⟩
 exact ⟨k1,[d.p,d.g],[e.p,e.g],⟨rfl,k2⟩,⟨rfl,k3⟩,hd,by simpa using k4,fun x hx=>.inl (by simp at hx ⊢;omega),fun x hx=>.inl (by simp at hx ⊢;omega)⟩
theorem own_gput8 (h:Own w0 w (gloA b gl :: R)) (a:Option Addr) (n c:Nat) (m:List Int) (hn:n = m.length) (hm:IntsAt w a m) (hl:gl.length + m.length ≤ 1000000000) :
  Calls Tryz.prog 30 #[.pointer (some ⟨b.b,14,none⟩),.slice a n c] w fun r w'=>r = .returned (.tuple #[]) ∧ Own w0 w' (gloA b (gl ++ m) :: R) :=
 h.call1 (fun F h1=>(gput_any w b gl F h1 a n c m hn hm hl).mono fun r w' ⟨k1,k2,F',k3,k4⟩=>⟨k1,F',k3,k2,k4⟩)
theorem own_gtake8 (h:Own w0 w (gloA b gl :: R)) (k:Int) (hl:gl.length ≤ 1000000) :
  Calls Tryz.prog 77 #[.pointer (some ⟨b.b,14,none⟩),.int .i64 k] w fun r w'=>∃ a' c',r = .returned (.slice a' (takes k gl.length) c') ∧ Own w0 w' (RowA a' c' (gl.take (takes k gl.length)) :: gloA b (gl.drop (takes k gl.length)) :: R):=by
 refine (Own.call (As:=[gloA b gl]) (R:=R) h (post:=fun r l=>∃ a' c',r = .returned (.slice a' (takes k gl.length) c') ∧ l = [RowA a' c' (gl.take (takes k gl.length)),gloA b (gl.drop (takes k gl.length))]) (fun F hF=>?_)).mono ?_
 ·have h1:=sep_one.1 hF
  have hlt:=h1.lt
  refine (gtake_any w b gl F k h1 hl).mono ?_
  rintro r w' ⟨a',c',k1,k2,k3,k4,k5⟩
  refine ⟨_,⟨a',c',k1,rfl⟩,blk a' ++ F,⟨blk a',F,rfl,⟨rfl,k2⟩,fun x hx hc=>by have:=k3 x hx;have:=hlt x hc;omega,sep_one.2 k4⟩,k5,fun x hx=>?_⟩
  rcases List.mem_append.1 hx with h | h
  ·exact .inr (k3 x h)
  ·exact .inl h
 ·rintro r w' ⟨_,⟨a',c',k1,rfl⟩,k3⟩
  exact ⟨a',c',k1,k3⟩
end
end Go.Proofs.YtphfaekpckbepaaGreat
open Go Go.RowKit
set_option linter.unusedVariables false
namespace Go.Proofs.YtphfaekpckbepaaGreat
structure Pm where
 N:Nat
 q:LQ
 tu:Nat
 by_:Int
instance:Inhabited Pm:=⟨⟨0,⟨none,[]⟩,0,-1⟩⟩
structure Mm where
 P:Int
 G:Int
 L:Int
instance:Inhabited Mm:=⟨⟨-1,-1,0⟩⟩
structure Sd where
 W:Wd
 ps:List Pm
 ms:List Mm
 gl:List Int
 sl:Int
 st:Nat
def Sd.p (X:Sd) (i:Nat):Pm:=X.ps.getD i default
def Sd.m (X:Sd) (i:Nat):Mm:=X.ms.getD i default
theorem Sd.p_at {X:Sd} {i:Nat} (h:i < X.ps.length):X.ps[i]? = some (X.p i):=by
 unfold Sd.p;rw [List.getD_eq_getElem?_getD,List.getElem?_eq_getElem h];rfl
theorem Sd.m_at {X:Sd} {i:Nat} (h:i < X.ms.length):X.ms[i]? = some (X.m i):=by
 unfold Sd.m;rw [List.getD_eq_getElem?_getD,List.getElem?_eq_getElem h];rfl
def Sd.setP (X:Sd) (i:Nat) (p:Pm):Sd:={ X with ps:=X.ps.set i p }
def Sd.setM (X:Sd) (i:Nat) (m:Mm):Sd:={ X with ms:=X.ms.set i m }
def holdM (X:Sd) (m:Nat):Sd × Int:=match X.ps.findIdx? (fun p=>p.by_ == -1) with
 | some i=>((X.setP i { X.p i with by_:=(m:Int) }).setM m { X.m m with P:=(i:Int) },2)
 | none=>(X,3)
def turnM (X:Sd) (i:Nat):Sd :=
 { X.setP i { X.p i with q:=(mTurn (X.p i).N (X.p i).q X.gl).1 } with gl:=(mTurn (X.p i).N (X.p i).q X.gl).2.1 }
def nearM (X:Sd) (i:Nat):Sd × Option Int :=
 if (X.p i).tu % 7 = 6 ∧ X.gl ≠ [] then ({ X with gl:=X.gl.tail },X.gl.head?)
 else match (mGet (X.p i).q).2 with
  | some g=>(X.setP i { X.p i with q:=(mGet (X.p i).q).1 },some g)
  | none=>({ X.setP i { X.p i with q:=(mFetch (X.p i).N (X.p i).q X.gl 0).1 } with gl:=(mFetch (X.p i).N (X.p i).q X.gl 0).2.1 },(mFetch (X.p i).N (X.p i).q X.gl 0).2.2)
def asksV (X:Sd) (i:Nat):Bool:=(nearM (turnM X i) i).2.isNone && decide (1 < X.ps.length)
def newTurnM (X:Sd) (i v:Nat):Sd × Int × Int :=
 let r:=nearM (turnM X i) i
 match r.2 with
 | some g=>(r.1,4,g)
 | none =>
  if 1 < X.ps.length ∧ v ≠ i then
   let s:=mSteal (r.1.p i).N (r.1.p i).q (r.1.p v).q
   match s.2.2 with
   | some g=>((r.1.setP i { r.1.p i with q:=s.1 }).setP v { r.1.p v with q:=s.2.1 },5,g)
   | none=>((r.1.setP i { r.1.p i with q:=s.1 }).setP v { r.1.p v with q:=s.2.1 },6,-1)
  else (r.1,6,-1)
def lookM (X:Sd) (m v:Nat):Sd × Int × Int :=
 let i:=(X.m m).P.toNat
 if 0 < (X.m m).L ∧ (X.p i).q.nx.isSome then
  let g:=((mGet (X.p i).q).2).getD (-1)
  ((X.setP i { X.p i with q:=(mGet (X.p i).q).1 }).setM m { X.m m with G:=g },4,g)
 else
  let r:=newTurnM X i v
  if r.2.1 = 6 then ((r.1.setP i { r.1.p i with by_:=-1 }).setM m ⟨-1,-1,0⟩,r.2)
  else ((r.1.setP i { r.1.p i with tu:=(r.1.p i).tu + 1 }).setM m { r.1.m m with G:=r.2.2,L:=r.1.sl },r.2)
def readyA (X:Sd) (i:Nat):List Int → Sd
 | []=>X
 | g :: t=>readyA { X.setP i { X.p i with q:=(mReady (X.p i).N (X.p i).q g X.gl).1 } with gl:=(mReady (X.p i).N (X.p i).q g X.gl).2.1 } i t
def runM (X:Sd) (m:Nat) (v:Int):Sd × List Int :=
 let e:=execM X.W (X.m m).G v
 let Y:=readyA { X with W:=e.1 } (X.m m).P.toNat e.2.2
 let L:=(X.m m).L - 1
 if e.2.1 = true ∧ 0 < L then (Y.setM m { Y.m m with L:=L },e.2.2)
 else ({ Y.setM m { Y.m m with G:=-1,L:=L } with gl:=if (Y.W.g (X.m m).G.toNat).st = 1 then Y.gl ++ [(X.m m).G] else Y.gl },e.2.2)
def clockM (X:Sd):Sd × List Int:=({ X with W:=(tickM X.W).1,gl:=X.gl ++ (tickM X.W).2 },(tickM X.W).2)
def overM (X:Sd):Int:=if X.W.en = 1 then 1 else if X.W.en = 2 then 2 else if stuckM X.W then 3 else 0
def LstA (l:List Asr):Asr where
 at_ w F:=Sep w l F
 lt:=fun h=>h.lt
 chg:=fun h c d=>h.chg c d
theorem Own.unl {w0 w:World} {l R:List Asr} (h:Own w0 w (LstA l :: R)):Own w0 w (l ++ R):=by
 obtain ⟨As,rfl,h1⟩:=Own.unfold h (P:=fun As=>As = l) (fun F hF=>⟨l,rfl,hF⟩)
 exact h1
theorem Own.lst {w0 w:World} {l R:List Asr} (h:Own w0 w (l ++ R)):Own w0 w (LstA l :: R):=Own.fold h (fun F hF=>hF)
theorem Own.lstPick {w0 w:World} {l R:List Asr} (h:Own w0 w (LstA l :: R)) {i:Nat} {A:Asr} (hi:l[i]? = some A) :
  ∃ R',Own w0 w (A :: (R' ++ R)) ∧ ∀ w' A' S,Own w0 w' (A' :: (R' ++ S)) → Own w0 w' (LstA (l.set i A') :: S):=by
 have hl:=(List.getElem?_eq_some_iff.1 hi).1
 refine ⟨l.eraseIdx i,?_,fun w' A' S h'=>?_⟩
 ·exact h.unl.perm ((pick_perm l i A hi).append_right R)
 ·exact Own.lst (h'.perm ((back_perm l i A' hl).append_right S))
theorem Own.lstFact {w0 w:World} {l R:List Asr} (h:Own w0 w (LstA l :: R)) {i:Nat} {A:Asr} (hi:l[i]? = some A):∃ F,A.at_ w F ∧ ∀ x ∈ F,w0.heap.size ≤ x:=by
 obtain ⟨R',h1,-⟩:=h.lstPick hi
 exact h1.head
theorem Own.lstAdd {w0 w:World} {l R:List Asr} {A:Asr} (h:Own w0 w (A :: LstA l :: R)):Own w0 w (LstA (l ++ [A]) :: R):=by
 have h1:=(h.pick 1 rfl).unl
 exact Own.lst (h1.perm (by rw [List.append_assoc];exact List.Perm.refl _))
def StkA (g n cap:Nat) (z:List Int):Asr where
 at_ w F:=F = [g] ∧ StkAt w g n cap z
 lt:=by rintro w F ⟨rfl,h⟩ x hx;simp at hx;subst hx;exact h.lt
 chg:=by rintro w w' F G ⟨rfl,h⟩ c hd;exact ⟨rfl,h.chg c (hd g (by simp))⟩
def ItemsA (v:Value) (l:List It):Asr where
 at_ w F:=F = v.ownBlock.toList ∧ ItemsAt w v l
 lt:=by rintro w F ⟨rfl,h⟩ x hx;exact h.lt x hx
 chg:=by rintro w w' F G ⟨rfl,h⟩ c hd;exact ⟨rfl,h.chg c hd⟩
def i4c (x:In4):List Value:=[.int .i64 x.1,.int .i64 x.2.1,.int .i64 x.2.2.1,.int .i64 x.2.2.2]
def i4s (l:List In4):List Value:=l.flatMap i4c
def frw (fr:List (Option Addr × Nat)) (fs:List (List In4)):List Value:=List.zipWith (fun r l=>.slice r.1 l.length r.2) fr fs
def CodeA (fa:Option Addr) (fr:List (Option Addr × Nat)) (fs:List (List In4)) (ca:Option Addr) (ks:List Cs3):Asr where
 at_ w F:=(∀ x ∈ F,x < w.heap.size) ∧ ((∀ x ∈ blk fa,x ∈ F) ∧ CellsAt w fa (frw fr fs)) ∧ ((∀ x ∈ blk ca,x ∈ F) ∧ CellsAt w ca (c3s ks)) ∧
  ∀ (i:Nat) (r:Option Addr × Nat) (l:List In4),fr[i]? = some r → fs[i]? = some l → (∀ x ∈ blk r.1,x ∈ F) ∧ CellsAt w r.1 (i4s l)
 lt:=fun h=>h.1
 chg:=by
  rintro w w' F G ⟨h1,h2,h3,h4⟩ c hd
  exact ⟨fun x hx=>Nat.lt_of_lt_of_le (h1 x hx) c.size,⟨h2.1,h2.2.chg c (fun x hx=>hd x (h2.1 x hx))⟩,⟨h3.1,h3.2.chg c (fun x hx=>hd x (h3.1 x hx))⟩,
   fun i r l hr hl=>⟨(h4 i r l hr hl).1,(h4 i r l hr hl).2.chg c (fun x hx=>hd x ((h4 i r l hr hl).1 x hx))⟩⟩
structure Wa where
 fa:Option Addr
 fc:Nat
 fr:List (Option Addr × Nat)
 ca:Option Addr
 cc:Nat
 aa:Option Addr
 ac:Nat
 sk:List (Nat × Nat)
 ha:Option Addr
 hc:Nat
 ps:List Nat
 la:Option Addr
 lc:Nat
 lp:List Nat
 sv:Value
 oa:Option Addr
 oc:Nat
def gcs (sk:List (Nat × Nat)) (gs:List Gt):List Value:=(List.zip sk gs).flatMap fun x=>[.int .i64 x.2.st,.slice (some ⟨x.1.1,0,none⟩) x.2.n x.1.2]
def stks (sk:List (Nat × Nat)) (gs:List Gt):List Asr:=List.zipWith (fun s G=>StkA s.1 G.n s.2 G.z) sk gs
def lks (lp:List Nat) (Ls:List (List Int)):List Asr:=List.zipWith LockA lp Ls
def lptr (lp:List Nat):List Value:=lp.map fun p=>.pointer (some ⟨p,0,none⟩)
def wcells (W:Wd) (D:Wa):List Value :=
 [.slice D.fa W.fs.length D.fc,.slice D.ca W.ks.length D.cc,.slice D.aa W.gs.length D.ac,.slice D.ha W.Cs.length D.hc,.slice D.la W.Ls.length D.lc,D.sv,.int .u64 (W.nx:Int),.int .u64 (W.clock:Int),.slice D.oa W.out.length D.oc,.int .i64 W.en,.int .i64 W.why]
def wparts (p:Nat) (W:Wd) (D:Wa) (T:List Value):List Asr :=
 [CelA p (wcells W D ++ T),CodeA D.fa D.fr W.fs D.ca W.ks,RowGA 2 D.aa D.ac W.gs.length (gcs D.sk W.gs),LstA (stks D.sk W.gs),RowGA 1 D.ha D.hc W.Cs.length (ptrs (List.zip D.ps W.Ns)),LstA (chs (List.zip D.ps W.Ns) W.Cs),
  RowGA 1 D.la D.lc W.Ls.length (lptr D.lp),LstA (lks D.lp W.Ls),ItemsA D.sv W.hp,RowGA 1 D.oa D.oc W.out.length (intc W.out)]
structure Wa.fits (D:Wa) (W:Wd):Prop where
 f:D.fr.length = W.fs.length
 g:D.sk.length = W.gs.length
 c:D.ps.length = W.Cs.length
 n:W.Ns.length = W.Cs.length
 l:D.lp.length = W.Ls.length
 k:W.ks.length ≤ D.cc
def dcells (p:Nat) (g:Int) (x:In4) (th:Bool) (dr:Int) (go:Bool) (ra:Option Addr) (n rc:Nat):List Value :=
 [.pointer (some ⟨p,0,none⟩),.int .i64 g,.int .i64 x.1,.int .i64 x.2.1,.int .i64 x.2.2.1,.int .i64 x.2.2.2,.bool th,.int .i64 dr,.bool go,.slice ra n rc]
theorem gcs_len (sk:List (Nat × Nat)) (gs:List Gt):(gcs sk gs).length = (List.zip sk gs).length * 2:=flat_len _ 2 (fun _=>rfl) _
theorem gcs_at {w:World} {aa:Option Addr} {sk:List (Nat × Nat)} {gs:List Gt} (h:CellsAt w aa (gcs sk gs)) {g:Nat} {s:Nat × Nat} {G:Gt} (hs:sk[g]? = some s) (hG:gs[g]? = some G) :
  ∃ b off,aa = some ⟨b,off,none⟩ ∧ w.cell? ⟨b,off + g * 2,none⟩ = some (.int .i64 G.st) ∧ w.cell? ⟨b,off + g * 2 + 1,none⟩ = some (.slice (some ⟨s.1,0,none⟩) G.n s.2):=by
 have hz:(List.zip sk gs)[g]? = some (s,G):=by rw [List.getElem?_zip_eq_some];exact ⟨hs,hG⟩
 obtain ⟨hl,he⟩:=List.getElem?_eq_some_iff.1 hz
 obtain ⟨b,off,rfl,hc⟩:=CellsAt.rec (f:=fun x:(Nat × Nat) × Gt=>[.int .i64 x.2.st,.slice (some ⟨x.1.1,0,none⟩) x.2.n x.1.2]) (s:=2) (fun _=>rfl) h g hl (by omega)
 rw [he] at hc
 exact ⟨b,off,rfl,hc 0 _ rfl,hc 1 _ rfl⟩
theorem zip_set2 {α β:Type}:∀ (l:List α) (m:List β) (i:Nat) (a:α) (b:β),(List.zip l m).set i (a,b) = List.zip (l.set i a) (m.set i b)
 | [],m,i,a,b=>by simp
 | x :: l,[],i,a,b=>by cases i <;> simp
 | x :: l,y :: m,0,a,b=>by simp
 | x :: l,y :: m,i + 1,a,b=>by simp [zip_set2 l m i a b]
theorem gcs_set (sk:List (Nat × Nat)) (gs:List Gt) (g:Nat) (s:Nat × Nat) (G:Gt) (h:g < (List.zip sk gs).length):((gcs sk gs).set (g * 2) (.int .i64 G.st)).set (g * 2 + 1) (.slice (some ⟨s.1,0,none⟩) G.n s.2) = gcs (sk.set g s) (gs.set g G):=by
 have:=flat_set (fun x:(Nat × Nat) × Gt=>[.int .i64 x.2.st,.slice (some ⟨x.1.1,0,none⟩) x.2.n x.1.2]) 2 (fun _=>rfl) (List.zip sk gs) g (s,G) h
 rw [zip_set2] at this
 exact this
theorem set_self {α:Type} (l:List α) (i:Nat) (x:α) (h:l[i]? = some x):l.set i x = l:=by
 apply List.ext_getElem?
 intro j
 by_cases e:i = j
 ·subst e;rw [List.getElem?_set_self (List.getElem?_eq_some_iff.1 h).1,h]
 ·rw [List.getElem?_set_ne e]
theorem stks_at {sk:List (Nat × Nat)} {gs:List Gt} {g:Nat} {s:Nat × Nat} {G:Gt} (hs:sk[g]? = some s) (hG:gs[g]? = some G):(stks sk gs)[g]? = some (StkA s.1 G.n s.2 G.z):=by
 unfold stks;rw [List.getElem?_zipWith,hs,hG]
theorem stks_set (sk:List (Nat × Nat)) (gs:List Gt) (g:Nat) (s:Nat × Nat) (G:Gt):(stks sk gs).set g (StkA s.1 G.n s.2 G.z) = stks (sk.set g s) (gs.set g G):=by
 apply List.ext_getElem?
 intro j
 unfold stks
 rw [List.getElem?_zipWith,List.getElem?_set,List.getElem?_set,List.getElem?_set,List.length_zipWith,List.getElem?_zipWith]
 by_cases e:g = j
 ·subst e
  by_cases h1:g < sk.length
  ·by_cases h2:g < gs.length
   ·rw [if_pos rfl,if_pos (by omega)];simp [h1,h2]
   ·rw [if_pos rfl,if_neg (by omega)];simp [h1,h2]
  ·rw [if_pos rfl,if_neg (by omega)];simp [h1]
 ·simp [e]
structure TopF (w:World) (q p g b off s m cap n c:Nat):Prop where
 d0:w.cell? ⟨q,0,none⟩ = some (.pointer (some ⟨p,0,none⟩))
 d1:w.cell? ⟨q,1,none⟩ = some (.int .i64 (g:Int))
 a:w.cell? ⟨p,2,none⟩ = some (.slice (some ⟨b,off,none⟩) n c)
 k:w.cell? ⟨b,off + g * 2 + 1,none⟩ = some (.slice (some ⟨s,0,none⟩) m cap)
 hg:g < n
 hm:1 ≤ m ∧ m ≤ 16
theorem TopF.drewN {w:World} {q p g b off s m cap n c:Nat} (h:TopF w q p g b off s m cap n c) (k:Nat):TopF (w.drewN k) q p g b off s m cap n c:=⟨h.d0,h.d1,h.a,h.k,h.hg,h.hm⟩
theorem me_any {w:World} {q p g b off s m cap n c:Nat} (h:TopF w q p g b off s m cap n c) :
  Calls Tryz.prog 92 #[.pointer (some ⟨q,0,none⟩)] w fun r w'=>r = .returned (.pointer (some ⟨b,off + g * 2,none⟩)) ∧ ∃ k,w' = w.drewN k:=by
 obtain ⟨d0,d1,a,k,hg,hm⟩:=h
 go_enter Tryz.func92,Tryz.ntmps92
 go_wp2_with fail
 go_quiet (fail)
 go_wp2
 go_ret
 exact ⟨rfl,_,rfl⟩
theorem dtop_any {w:World} {q p g b off s m cap n c:Nat} (h:TopF w q p g b off s m cap n c) :
  Calls Tryz.prog 89 #[.pointer (some ⟨q,0,none⟩)] w fun r w'=>r = .returned (.pointer (some ⟨s,(m - 1) * 11,none⟩)) ∧ ∃ k,w' = w.drewN k:=by
 have H:=Lib.hid h
 obtain ⟨d0,d1,a,k,hg,hm⟩:=h
 have ht:∀ w,Calls Tryz.prog 83 #[.slice (some ⟨s,0,none⟩) m cap] w fun e w'=>e = .returned (.pointer (some ⟨s,(m - 1) * 11,none⟩)) ∧ w' = w:=fun w=>by
  have:=top_any s (m - 1) cap w (by omega)
  rw [show m - 1 + 1 = m by omega] at this
  exact this
 have HT:=Lib.hid ht
 clear ht d0 d1 a
 go_enter Tryz.func89,Tryz.ntmps89
 go_wp2_with fail
 refine (me_any H.out).mono ?_
 rintro r w1 ⟨rfl,k1,rfl⟩
 go_wp2_with fail
 refine (HT.out _).mono ?_
 rintro r w2 ⟨rfl,rfl⟩
 go_wp2
 go_ret
 exact ⟨rfl,_,rfl⟩
theorem Wd.g_of {W:Wd} {g:Nat} {G:Gt} (h:W.gs[g]? = some G):W.g g = G:=by unfold Wd.g;rw [List.getD_eq_getElem?_getD,h];rfl
theorem Wd.g_at {W:Wd} {g:Nat} (h:g < W.gs.length):W.gs[g]? = some (W.g g):=by unfold Wd.g;rw [List.getD_eq_getElem?_getD,List.getElem?_eq_getElem h];rfl
theorem Wa.fits.sk_at {D:Wa} {W:Wd} (h:D.fits W) {g:Nat} (hg:g < W.gs.length):∃ s cap,D.sk[g]? = some (s,cap):=by
 have:g < D.sk.length:=by rw [h.g];exact hg
 exact ⟨_,_,List.getElem?_eq_getElem this⟩
theorem stk_at {w0 w:World} {p:Nat} {W:Wd} {D:Wa} {T:List Value} {R:List Asr} (h:Own w0 w (wparts p W D T ++ R)) {g s cap:Nat} (hg:g < W.gs.length) (hs:D.sk[g]? = some (s,cap)):StkAt w s (W.g g).n cap (W.g g).z ∧ w0.heap.size ≤ s:=by
 obtain ⟨F,⟨rfl,h1⟩,h2⟩:=(h.pick 3 rfl).lstFact (stks_at hs (Wd.g_at hg))
 exact ⟨h1,h2 s (by simp)⟩
theorem all_at {w0 w:World} {p:Nat} {W:Wd} {D:Wa} {T:List Value} {R:List Asr} (h:Own w0 w (wparts p W D T ++ R)) {g s cap:Nat} (hg:g < W.gs.length) (hs:D.sk[g]? = some (s,cap)) :
  ∃ b off,D.aa = some ⟨b,off,none⟩ ∧ w.cell? ⟨b,off + g * 2,none⟩ = some (.int .i64 (W.g g).st) ∧ w.frozen? ⟨b,off + g * 2,none⟩ = false ∧ w.cell? ⟨b,off + g * 2 + 1,none⟩ = some (.slice (some ⟨s,0,none⟩) (W.g g).n cap) ∧ w.frozen? ⟨b,off + g * 2 + 1,none⟩ = false:=by
 have hr:=h.rowG 2 rfl
 obtain ⟨b,off,h1,h2,h3⟩:=gcs_at hr.cells hs (Wd.g_at hg)
 rw [h1] at hr
 have hn:=hr.2.1
 obtain ⟨v,k1,k2⟩:=hr.spot (g * 2) (by omega)
 obtain ⟨v',k3,k4⟩:=hr.spot (g * 2 + 1) (by omega)
 exact ⟨b,off,h1,h2,k2,h3,by rw [Nat.add_assoc];exact k4⟩
theorem topF_of {w0 w:World} {p q:Nat} {W:Wd} {D:Wa} {T:List Value} {R:List Asr} (h:Own w0 w (wparts p W D T ++ R)) {g s cap b off:Nat} {cs:List Value} (hq:Blk w q (.pointer (some ⟨p,0,none⟩) :: .int .i64 (g:Int) :: cs)) (hg:g < W.gs.length) (hs:D.sk[g]? = some (s,cap)) (ha:D.aa = some ⟨b,off,none⟩) (hm:1 ≤ (W.g g).n ∧ (W.g g).n ≤ 16) :
  TopF w q p g b off s (W.g g).n cap W.gs.length D.ac:=by
 obtain ⟨b',off',h1,h2,-,h3,-⟩:=all_at h hg hs
 rw [ha] at h1
 simp only [Option.some.injEq,Addr.mk.injEq,and_true] at h1
 obtain ⟨rfl,rfl⟩:=h1
 have h4:=(h.cel 0 rfl 2 _ rfl).1
 rw [ha] at h4
 exact ⟨(hq 0 _ rfl).1,(hq 1 _ rfl).1,h4,h3,hg,hm⟩
theorem zip_at2 {α β:Type} {l:List α} {m:List β} {i:Nat} {a:α} {b:β} (ha:l[i]? = some a) (hb:m[i]? = some b):(List.zip l m)[i]? = some (a,b):=by rw [List.getElem?_zip_eq_some];exact ⟨ha,hb⟩
theorem gcs_same (sk:List (Nat × Nat)) (gs:List Gt) (g:Nat) (G:Gt) (h:∀ G0,gs[g]? = some G0 → G0.st = G.st ∧ G0.n = G.n):gcs sk (gs.set g G) = gcs sk gs:=by
 by_cases hz:g < (List.zip sk gs).length
 ·have h1:g < sk.length:=by rw [List.length_zip] at hz;omega
  have h2:g < gs.length:=by rw [List.length_zip] at hz;omega
  have e1:gcs sk (gs.set g G) = gcs (sk.set g sk[g]) (gs.set g G):=by rw [List.set_getElem_self]
  have e2:gcs sk gs = gcs (sk.set g sk[g]) (gs.set g gs[g]):=by rw [List.set_getElem_self,List.set_getElem_self]
  obtain ⟨k1,k2⟩:=h _ (List.getElem?_eq_getElem h2)
  rw [e1,e2,← gcs_set _ _ _ _ _ hz,← gcs_set _ _ _ _ _ hz,k1,k2]
 ·unfold gcs
  congr 1
  apply List.ext_getElem?
  intro j
  simp only [List.length_zip] at hz
  by_cases e:g = j
  ·subst e
   rw [List.getElem?_eq_none (by simp;omega),List.getElem?_eq_none (by simp;omega)]
  ·simp only [List.getElem?_zip_eq_some,List.zip,List.getElem?_zipWith,List.getElem?_set_ne e]
theorem Wa.fits.setG {D:Wa} {W:Wd} (h:D.fits W) (g:Nat) (G:Gt):D.fits (W.setG g G):=⟨h.f,by have:=h.g;simp [Wd.setG,this],h.c,h.n,h.l,h.k⟩
theorem own_z {w0 w:World} {p:Nat} {W:Wd} {D:Wa} {T:List Value} {R:List Asr} (h:Own w0 w (wparts p W D T ++ R)) {g s cap:Nat} (hg:g < W.gs.length) (hs:D.sk[g]? = some (s,cap)) (j:Nat) (v:Int) :
  Own w0 (w.setCell ⟨s,j,none⟩ (.int .i64 v)) (wparts p (W.setG g { W.g g with z:=(W.g g).z.set j v }) D T ++ R):=by
 obtain ⟨R',h1,h2⟩:=(h.pick 3 rfl).lstPick (stks_at hs (Wd.g_at hg))
 have h3:=Own.turn (As:=[StkA s (W.g g).n cap (W.g g).z]) (As':=[StkA s (W.g g).n cap ((W.g g).z.set j v)]) (R:=_) h1 (w':=w.setCell ⟨s,j,none⟩ (.int .i64 v)) (fun F hF=>by
  obtain ⟨rfl,k⟩:=sep_one.1 hF
  exact ⟨[s],sep_one.2 ⟨rfl,k.set j v⟩,(Chg.refl _ _).setCell _ (.inl (by simp)),fun x hx=>.inl hx⟩)
 have h4:=h2 _ _ _ h3
 have e:=stks_set D.sk W.gs g (s,cap) { W.g g with z:=(W.g g).z.set j v }
 simp only at e
 rw [e,set_self _ _ _ hs] at h4
 have h5:=h4.back (i:=3) (As:=wparts p W D T ++ R) (by simp [wparts])
 have e2:gcs D.sk (W.gs.set g { W.g g with z:=(W.g g).z.set j v }) = gcs D.sk W.gs:=gcs_same _ _ _ _ (fun G0 h0=>by rw [Wd.g_of h0];exact ⟨rfl,rfl⟩)
 have e3:(wparts p W D T ++ R).set 3 (LstA (stks D.sk (W.gs.set g { W.g g with z:=(W.g g).z.set j v }))) = wparts p (W.setG g { W.g g with z:=(W.g g).z.set j v }) D T ++ R:=by
  simp only [wparts,Wd.setG,wcells,e2,List.length_set]
  rfl
 rw [e3] at h5
 exact h5
theorem own_put {w0 w:World} {p:Nat} {W:Wd} {D:Wa} {T:List Value} {R:List Asr} (h:Own w0 w (wparts p W D T ++ R)) {g s cap:Nat} (hg:g < W.gs.length) (hs:D.sk[g]? = some (s,cap)) (a:Nat) (v:Int) :
  Own w0 (w.setCell ⟨s,((W.g g).n - 1) * 11 + 2 + a,none⟩ (.int .i64 v)) (wparts p (W.put g (a:Int) v) D T ++ R):=own_z h hg hs _ v
theorem own_st {w0 w:World} {p:Nat} {W:Wd} {D:Wa} {T:List Value} {R:List Asr} (h:Own w0 w (wparts p W D T ++ R)) (hf:D.fits W) {g b off:Nat} (hg:g < W.gs.length) (ha:D.aa = some ⟨b,off,none⟩) (v:Int) :
  Own w0 (w.setCell ⟨b,off + g * 2,none⟩ (.int .i64 v)) (wparts p (W.setSt g v) D T ++ R):=by
 obtain ⟨s,cap,hs⟩:=hf.sk_at hg
 have hzl:g < (List.zip D.sk W.gs).length:=by rw [List.length_zip,hf.g];omega
 have h1:=h.pick 2 rfl
 rw [ha] at h1
 have h2:=h1.rowSet (g * 2) (.int .i64 v) (by rw [gcs_len];omega)
 rw [← ha] at h2
 have e:(gcs D.sk W.gs).set (g * 2) (.int .i64 v) = gcs D.sk (W.gs.set g { W.g g with st:=v }):=by
  have k:=gcs_set D.sk W.gs g (s,cap) { W.g g with st:=v } hzl
  rw [set_self _ _ _ hs] at k
  rw [← k]
  have hc:((gcs D.sk W.gs).set (g * 2) (.int .i64 v))[g * 2 + 1]? = some (.slice (some ⟨s,0,none⟩) (W.g g).n cap):=by
   rw [List.getElem?_set_ne (by omega)]
   have:=flat_at (fun x:(Nat × Nat) × Gt=>[.int .i64 x.2.st,.slice (some ⟨x.1.1,0,none⟩) x.2.n x.1.2]) 2 (fun _=>rfl) (List.zip D.sk W.gs) g 1 hzl (by omega)
   have hz:=(List.getElem?_eq_some_iff.1 (zip_at2 hs (Wd.g_at hg))).2
   rw [hz] at this
   exact this
  exact (set_self _ _ _ hc).symm
 rw [e] at h2
 have h3:=h2.back (i:=2) (As:=wparts p W D T ++ R) (by simp [wparts])
 have e2:stks D.sk (W.gs.set g { W.g g with st:=v }) = stks D.sk W.gs:=by
  have:=stks_set D.sk W.gs g (s,cap) { W.g g with st:=v }
  rw [set_self _ _ _ hs] at this
  rw [← this]
  have k:(stks D.sk W.gs)[g]? = some (StkA s (W.g g).n cap (W.g g).z):=stks_at hs (Wd.g_at hg)
  exact set_self _ _ _ k
 have e3:(wparts p W D T ++ R).set 2 (RowGA 2 D.aa D.ac W.gs.length (gcs D.sk (W.gs.set g { W.g g with st:=v }))) = wparts p (W.setSt g v) D T ++ R:=by
  simp only [wparts,Wd.setSt,Wd.setG,wcells,e2,List.length_set]
  rfl
 rw [e3] at h3
 exact h3
theorem own_stk {w0 w:World} {p:Nat} {W:Wd} {D:Wa} {T:List Value} {R:List Asr} {s' n' cap':Nat} {z':List Int} (h:Own w0 w (StkA s' n' cap' z' :: (wparts p W D T ++ R))) (hf:D.fits W) {g b off:Nat} (hg:g < W.gs.length) (ha:D.aa = some ⟨b,off,none⟩) :
  Own w0 (w.setCell ⟨b,off + g * 2 + 1,none⟩ (.slice (some ⟨s',0,none⟩) n' cap')) (wparts p (W.setG g ⟨(W.g g).st,n',z'⟩) { D with sk:=D.sk.set g (s',cap') } T ++ R) ∧ ({ D with sk:=D.sk.set g (s',cap') }:Wa).fits (W.setG g ⟨(W.g g).st,n',z'⟩):=by
 obtain ⟨s,cap,hs⟩:=hf.sk_at hg
 have hzl:g < (List.zip D.sk W.gs).length:=by rw [List.length_zip,hf.g];omega
 refine ⟨?_,⟨hf.f,by have:=hf.g;simp [Wd.setG,this],hf.c,hf.n,hf.l,hf.k⟩⟩
 obtain ⟨R',k1,k2⟩:=(h.pick 4 rfl).lstPick (stks_at hs (Wd.g_at hg))
 have k3:=k1.drop
 have k4:Own w0 w (StkA s' n' cap' z' :: (R' ++ [CelA p (wcells W D ++ T),CodeA D.fa D.fr W.fs D.ca W.ks,RowGA 2 D.aa D.ac W.gs.length (gcs D.sk W.gs),RowGA 1 D.ha D.hc W.Cs.length (ptrs (List.zip D.ps W.Ns)),LstA (chs (List.zip D.ps W.Ns) W.Cs),
  RowGA 1 D.la D.lc W.Ls.length (lptr D.lp),LstA (lks D.lp W.Ls),ItemsA D.sv W.hp,RowGA 1 D.oa D.oc W.out.length (intc W.out)] ++ R)):=by
  rw [List.append_assoc]
  exact k3.perm List.perm_middle
 rw [List.append_assoc] at k4
 have k5:=(k2 _ _ _ k4).pick 3 rfl
 rw [ha] at k5
 have k6:=k5.rowSet (g * 2 + 1) (.slice (some ⟨s',0,none⟩) n' cap') (by rw [gcs_len];omega)
 rw [← ha,← Nat.add_assoc] at k6
 have e:(gcs D.sk W.gs).set (g * 2 + 1) (.slice (some ⟨s',0,none⟩) n' cap') = gcs (D.sk.set g (s',cap')) (W.gs.set g ⟨(W.g g).st,n',z'⟩):=by
  have k:=gcs_set D.sk W.gs g (s',cap') ⟨(W.g g).st,n',z'⟩ hzl
  rw [← k]
  have hc:(gcs D.sk W.gs)[g * 2]? = some (.int .i64 (W.g g).st):=by
   have:=flat_at (fun x:(Nat × Nat) × Gt=>[.int .i64 x.2.st,.slice (some ⟨x.1.1,0,none⟩) x.2.n x.1.2]) 2 (fun _=>rfl) (List.zip D.sk W.gs) g 0 hzl (by omega)
   have hz:=(List.getElem?_eq_some_iff.1 (zip_at2 hs (Wd.g_at hg))).2
   rw [hz] at this
   exact this
  rw [set_self _ _ _ hc]
 have e2:=stks_set D.sk W.gs g (s',cap') ⟨(W.g g).st,n',z'⟩
 simp only at e2
 rw [e,e2] at k6
 have k7:=(k6.pick 3 rfl).pick 3 rfl
 have e3:wparts p (W.setG g ⟨(W.g g).st,n',z'⟩) { D with sk:=D.sk.set g (s',cap') } T ++ R = [CelA p (wcells W D ++ T),CodeA D.fa D.fr W.fs D.ca W.ks,RowGA 2 D.aa D.ac W.gs.length (gcs (D.sk.set g (s',cap')) (W.gs.set g ⟨(W.g g).st,n',z'⟩)),LstA (stks (D.sk.set g (s',cap')) (W.gs.set g ⟨(W.g g).st,n',z'⟩)),RowGA 1 D.ha D.hc W.Cs.length (ptrs (List.zip D.ps W.Ns)),LstA (chs (List.zip D.ps W.Ns) W.Cs),
  RowGA 1 D.la D.lc W.Ls.length (lptr D.lp),LstA (lks D.lp W.Ls),ItemsA D.sv W.hp,RowGA 1 D.oa D.oc W.out.length (intc W.out)] ++ R:=by
  simp only [wparts,Wd.setG,wcells,List.length_set]
 rw [e3]
 exact k7
section
variable {P:Program} {ops:Array Oper} {Q:Exit → Act → World → Prop} {S:World → Prop} {md:Region.Mode}
def endsB (md:Region.Mode) (ops:Array Oper) (i:Nat):Bool:=(List.range ops.size).all fun j=>j == i || (match ops[i]? with
 | some o=>o.after.any fun e=>Region.binds md e && e.on == j
 | none=>false)
def wpAnyZ (P:Program) (md:Region.Mode) (ops:Array Oper) (Q:Exit → Act → World → Prop) (S:World → Prop):Nat → Array Bool → Act → World → Prop
 | 0,listed,a,w=>Region.ready md ops listed = [] ∧ Q .normal a w
 | fuel + 1,listed,a,w =>
  (Region.ready md ops listed = [] → Q .normal a w) ∧
  ∀ i ∈ Region.ready md ops listed,wpOp P ops Q i (fun a' w'=>(endsB md ops i = true ∨ S w') ∧ wpAnyZ P md ops Q S fuel (listed.setIfInBounds i true) a' w') a w
theorem wpAny_of_z:∀ (fuel:Nat) (listed:Array Bool) (a:Act) (w:World),wpAnyZ P md ops Q S fuel listed a w → wpAny P md ops Q fuel listed a w
 | 0,_,_,_,h=>h
 | fuel + 1,_,_,_,h=>⟨h.1,fun i hi=>wpOp_mono (fun a' w' h'=>wpAny_of_z fuel _ a' w' h'.2) (h.2 i hi)⟩
theorem endsB_not {i j:Nat} {listed:Array Bool} (hj:j ∈ Region.ready md ops listed) (hi:i ∈ Region.ready md ops listed) (hne:j ≠ i) (hil:i < ops.size) (he:endsB md ops j = true):False:=by
 obtain ⟨_,oj,hoj,hall⟩:=mem_ready.1 hj
 unfold endsB at he
 rw [List.all_eq_true] at he
 have h1:=he i (List.mem_range.2 hil)
 rw [hoj,Bool.or_eq_true] at h1
 rcases h1 with h1 | h1
 ·exact hne (by simpa using Eq.symm (by simpa using h1))
 ·obtain ⟨e,he1,he2⟩:=Array.any_eq_true'.1 h1
  rw [Bool.and_eq_true] at he2
  have h2:=hall e he1 he2.1
  have h3:e.on = i:=by simpa using he2.2
  rw [h3] at h2
  have h0:=(mem_ready.1 hi).1
  rcases Nat.lt_or_ge i listed.size with h' | h'
  ·simp [h'] at h0 h2;rw [h0] at h2;cases h2
  ·simp [Array.getElem?_eq_none h'] at h2
theorem wpAnyZ_first {i:Nat} {oi:Oper} {v:Value} (hi:ops[i]? = some oi) (hsel:∀ (j:Nat) (o:Oper) cs b,ops[j]? = some o → o.op ≠ .select cs b)
  (hQ:∀ c a w,Q (.panic c) (a.put oi.dst v) w → Q (.panic c) a w) :
  ∀ (fuel:Nat) (listed:Array Bool) (a:Act) (w:World),
   (∀ j oj,ops[j]? = some oj → j ≠ i → listed.getD j true = false → (∀ e ∈ oj.after,Region.binds md e = true → e.on ≠ i) → oi.apart ops oj = true) →
   i ∈ Region.ready md ops listed → YieldsIf P ops S oi v a → S w →
   wpAnyZ P md ops Q S fuel (listed.setIfInBounds i true) (a.put oi.dst v) w → wpAnyZ P md ops Q S (fuel + 1) listed a w
 | 0,listed,a,w,_,hr,hy,hS,H=>by
  refine ⟨fun h=>(by rw [h] at hr;cases hr),fun j hj=>?_⟩
  by_cases hji:j = i
  ·subst hji;exact hy.wpOp hi hS ⟨.inr hS,H⟩
  ·have:=ready_mono hj hji
   rw [H.1] at this
   cases this
 | fuel + 1,listed,a,w,hfree,hr,hy,hS,H=>by
  refine ⟨fun h=>(by rw [h] at hr;cases hr),fun j hj=>?_⟩
  by_cases hji:j = i
  ·subst hji;exact hy.wpOp hi hS ⟨.inr hS,H⟩
  ·have h1:=H.2 j (ready_mono hj hji)
   obtain ⟨hjun,oj,hoj,hall⟩:=mem_ready.1 hj
   have hil:i < ops.size:=(Array.getElem?_eq_some_iff.1 hi).1
   have hnot:∀ e ∈ oj.after,Region.binds md e = true → e.on ≠ i:=fun e he hb heq=>by
    have h2:=hall e he hb
    have h0:=(mem_ready.1 hr).1
    rw [heq] at h2
    rcases Nat.lt_or_ge i listed.size with h' | h'
    ·simp [h'] at h0 h2;rw [h0] at h2;cases h2
    ·simp [Array.getElem?_eq_none h'] at h2
   refine wpOp_mono (fun a' w' h3=>?_) (wpOp_putIf hoj (hfree j oj hoj hji hjun hnot) (fun cs b=>hsel i oi cs b hi) (fun cs b=>hsel j oj cs b hoj) hQ hy h1)
   have hS':S w':=by
    rcases h3.2.1 with h4 | h4
    ·exact (endsB_not hj hr hji hil h4).elim
    ·exact h4
   refine ⟨.inr hS',wpAnyZ_first hi hsel hQ fuel (listed.setIfInBounds j true) a' w' (fun k ok hk hki hun hno=>hfree k ok hk hki ?_ hno) (ready_mono hr (Ne.symm hji)) h3.1 hS' ?_⟩
   ·by_cases hjk:j = k
    ·subst hjk;exact hjun
    ·rw [getD_set_ne true hjk] at hun;exact hun
   ·rw [Array.setIfInBounds_comm _ _ hji]
    exact h3.2.2
theorem wpAnyZ_segs (hs:Region.noSelect ops = true) (hQ:∀ (d:Option Tmp) (v:Value) c a w,Q (.panic c) (a.put d v) w → Q (.panic c) a w) (fuel:Nat) (w:World) (hS:S w) :
  ∀ (l:List Oper) (k:Nat) (listed:Array Bool) (a:Act),(∀ j,j < l.length → l[j]? = ops[k + j]?) → segB ops l.length k listed = true →
   wpSegH P ops S (fun a'=>wpAnyZ P .any ops Q S fuel (marks l.length k listed) a' w) l a → wpAnyZ P .any ops Q S (l.length + fuel) listed a w
 | [],k,listed,a,_,_,h=>by rw [List.length_nil,Nat.zero_add];exact h
 | o :: l,k,listed,a,hl,hB,h=>by
  have h0:ops[k]? = some o:=by simpa using (hl 0 (by simp)).symm
  simp only [List.length_cons,segB,Bool.and_eq_true] at hB
  obtain ⟨⟨hr,hf⟩,hB⟩:=hB
  have hl':∀ j,j < l.length → l[j]? = ops[k + 1 + j]?:=fun j hj=>by have:=hl (j + 1) (by simp;omega);simpa [Nat.add_assoc,Nat.add_comm 1 j] using this
  rw [List.length_cons,show l.length + 1 + fuel = (l.length + fuel) + 1 by omega]
  have hr':k ∈ Region.ready .any ops listed:=by simpa using hr
  rcases h with ⟨hw,v,hv,h⟩ | ⟨hw,h⟩
  ·exact wpAnyZ_first h0 (Region.noSelect_spec hs) (fun c a w=>hQ o.dst v c a w) _ listed a w (Region.free_spec h0 hf) hr' (.inl ⟨hw,hv⟩) hS (wpAnyZ_segs hs hQ fuel w hS l (k + 1) _ _ hl' hB h)
  ·exact wpAnyZ_first h0 (Region.noSelect_spec hs) (fun c a w=>hQ o.dst undef c a w) _ listed a w (Region.free_spec h0 hf) hr' (.inr ⟨hw,rfl⟩) hS (wpAnyZ_segs hs hQ fuel w hS l (k + 1) _ _ hl' hB h)
theorem wpAnyZ_seg {l:List Oper} (k n:Nat) (listed listed':Array Bool) (fuel:Nat) {a:Act} {w:World} (hs:Region.noSelect l.toArray = true) (hQ:∀ (d:Option Tmp) (v:Value) c a w,Q (.panic c) (a.put d v) w → Q (.panic c) a w) (hS:S w)
  (hB:(segB l.toArray n k listed && decide (k + n ≤ l.length) && (marks n k listed == listed')) = true) (h:wpSegH P l.toArray S (fun a'=>wpAnyZ P .any l.toArray Q S fuel listed' a' w) ((l.drop k).take n) a):wpAnyZ P .any l.toArray Q S (n + fuel) listed a w:=by
 simp only [Bool.and_eq_true,decide_eq_true_eq,beq_iff_eq] at hB
 obtain ⟨⟨hB,hn⟩,rfl⟩:=hB
 have hln:((l.drop k).take n).length = n:=by rw [List.length_take,List.length_drop];omega
 have:=wpAnyZ_segs (P:=P) (Q:=Q) (S:=S) hs hQ fuel w hS ((l.drop k).take n) k listed a (fun j hj=>by
  rw [hln] at hj
  rw [List.getElem?_take,if_pos hj,List.getElem?_drop];simp) (by rw [hln];exact hB) (by rw [hln];exact h)
 rwa [hln] at this
theorem headZ {l:List Oper} {i:Nat} {a:Act} {w:World} {K:Act → World → Prop} (h1:headH P l.toArray Q K a w (l.drop i)):wpOp P l.toArray Q i K a w:=by
 cases hd:l.drop i with
 | nil=>rw [hd] at h1;exact h1.elim
 | cons o r =>
  rw [hd] at h1
  have h0:l.toArray[i]? = some o:=by
   have:(l.drop i)[0]? = some o:=by rw [hd];rfl
   rw [List.getElem?_drop] at this
   simpa using this
  unfold wpOp
  simp only [h0]
  rw [if_pos h1.1]
  exact .inl h1.2
theorem wpAnyZ_one {l:List Oper} (k:Nat) (listed listed':Array Bool) (fuel:Nat) {a:Act} {w:World} (hB:(decide (Region.ready .any l.toArray listed = [k]) && (listed.setIfInBounds k true == listed')) = true)
  (h:∀ K:Act → World → Prop,(∀ a' w',S w' → wpAnyZ P .any l.toArray Q S fuel listed' a' w' → K a' w') → headH P l.toArray Q K a w (l.drop k)):wpAnyZ P .any l.toArray Q S (fuel + 1) listed a w:=by
 simp only [Bool.and_eq_true,decide_eq_true_eq,beq_iff_eq] at hB
 obtain ⟨hr,rfl⟩:=hB
 refine ⟨fun h0=>(by rw [hr] at h0;cases h0),fun i hi=>?_⟩
 rw [hr] at hi
 have hik:i = k:=by simpa using hi
 subst hik
 exact headZ (h _ (fun a' w' h2 h3=>⟨.inr h2,h3⟩))
theorem wpAnyZ_two {l:List Oper} (k k':Nat) (listed listed' listed'':Array Bool) (fuel:Nat) {a:Act} {w:World} (hB:(decide (Region.ready .any l.toArray listed = [k,k']) && (listed.setIfInBounds k true == listed') && (listed.setIfInBounds k' true == listed'')) = true)
  (h1:∀ K:Act → World → Prop,(∀ a' w',S w' → wpAnyZ P .any l.toArray Q S fuel listed' a' w' → K a' w') → headH P l.toArray Q K a w (l.drop k))
  (h2:∀ K:Act → World → Prop,(∀ a' w',S w' → wpAnyZ P .any l.toArray Q S fuel listed'' a' w' → K a' w') → headH P l.toArray Q K a w (l.drop k')):wpAnyZ P .any l.toArray Q S (fuel + 1) listed a w:=by
 simp only [Bool.and_eq_true,decide_eq_true_eq,beq_iff_eq] at hB
 obtain ⟨⟨hr,rfl⟩,rfl⟩:=hB
 refine ⟨fun h0=>(by rw [hr] at h0;cases h0),fun i hi=>?_⟩
 rw [hr] at hi
 have hik:i = k ∨ i = k':=by simpa using hi
 rcases hik with rfl | rfl
 ·exact headZ (h1 _ (fun a' w' h2 h3=>⟨.inr h2,h3⟩))
 ·exact headZ (h2 _ (fun a' w' h2 h3=>⟨.inr h2,h3⟩))
theorem wpAnyZ_end {l:List Oper} (k:Nat) (listed listed':Array Bool) {a:Act} {w:World} (hB:(decide (Region.ready .any l.toArray listed = [k]) && (listed.setIfInBounds k true == listed') && endsB .any l.toArray k && decide (Region.ready .any l.toArray listed' = [])) = true)
  (h:∀ K:Act → World → Prop,(∀ a' w',Q .normal a' w' → K a' w') → headH P l.toArray Q K a w (l.drop k)):wpAnyZ P .any l.toArray Q S (0 + 1) listed a w:=by
 simp only [Bool.and_eq_true,decide_eq_true_eq,beq_iff_eq] at hB
 obtain ⟨⟨⟨hr,rfl⟩,he⟩,h0⟩:=hB
 refine ⟨fun h0=>(by rw [hr] at h0;cases h0),fun i hi=>?_⟩
 rw [hr] at hi
 have hik:i = k:=by simpa using hi
 subst hik
 exact headZ (h _ (fun a' w' h3=>⟨.inl he,h0,h3⟩))
theorem wp_region_lexZ {id:Nat} {a:Act} {w:World} {l:List Oper} (S:World → Prop) (fuel:Nat) (listed:Array Bool) (hm:P.follows .mixedOrders = true) (hB:(decide (l.length = fuel) && (Array.replicate l.length false == listed)) = true)
  (h:wpAnyZ P .any l.toArray (NoPanic Q) S fuel listed a w.drew):(Code.region id l.toArray true).wp P Q a w:=by
 simp only [Bool.and_eq_true,decide_eq_true_eq,beq_iff_eq] at hB
 obtain ⟨rfl,rfl⟩:=hB
 exact wp_region_noPanic (wp_region_any hm (wpAny_of_z _ _ _ _ (by simpa using h)))
end
end Go.Proofs.YtphfaekpckbepaaGreat
open Go Go.RowKit
set_option linter.unusedVariables false
namespace Go.Proofs.YtphfaekpckbepaaGreat
section
variable {P:Program} {ops:Array Oper} {Q:Exit → Act → World → Prop} {S:World → Prop} {md:Region.Mode}
def closedB (md:Region.Mode) (ops:Array Oper) (listed:Array Bool):Bool :=
 (List.range ops.size).all fun j=>!(listed.getD j false) || (match ops[j]? with
  | some o=>o.after.all fun e=>!(Region.binds md e) || listed.getD e.on false
  | none=>true)
theorem closedB_spec {listed:Array Bool}:closedB md ops listed = true ↔ ∀ j oj,ops[j]? = some oj → listed.getD j false = true → ∀ e ∈ oj.after,Region.binds md e = true → listed.getD e.on false = true:=by
 unfold closedB
 rw [List.all_eq_true]
 constructor
 ·intro h j oj hj hl e he hb
  have h1:=h j (List.mem_range.2 (Array.getElem?_eq_some_iff.1 hj).1)
  rw [hl,hj] at h1
  simp only [Bool.not_true,Bool.false_or] at h1
  have h2:=Array.all_eq_true_iff_forall_mem.1 h1 e he
  rw [hb] at h2
  simpa using h2
 ·intro h j hj
  have hlt:=List.mem_range.1 hj
  cases hl:listed.getD j false with
  | false=>rfl
  | true =>
   rw [Array.getElem?_eq_getElem hlt]
   simp only [Bool.not_true,Bool.false_or]
   refine Array.all_eq_true_iff_forall_mem.2 (fun e he=>?_)
   cases hb:Region.binds md e with
   | false=>rfl
   | true=>simp only [Bool.not_true,Bool.false_or];exact h j _ (Array.getElem?_eq_getElem hlt) hl e he hb
theorem closedB_set {listed:Array Bool} {i:Nat} (h:closedB md ops listed = true) (hi:i ∈ Region.ready md ops listed):closedB md ops (listed.setIfInBounds i true) = true:=by
 rw [closedB_spec] at *
 obtain ⟨_,oi,hoi,hall⟩:=mem_ready.1 hi
 intro j oj hj hl e he hb
 by_cases hij:i = j
 ·subst hij
  have:oj = oi:=Option.some.inj (hj.symm.trans hoi)
  subst this
  exact getD_set_true (hall e he hb)
 ·rw [getD_set_ne false hij] at hl
  exact getD_set_true (h j oj hj hl e he hb)
def phaseB (md:Region.Mode) (ops:Array Oper) (full:Array Bool):Bool :=
 (List.range ops.size).all fun i=>!(full.getD i false) || !(closedB md ops (full.setIfInBounds i false)) || (Region.ready md ops (full.setIfInBounds i false)).all fun j=>full.getD j false
def wpAnyK (P:Program) (md:Region.Mode) (ops:Array Oper) (Q:Exit → Act → World → Prop) (S:World → Prop) (g:Nat) (full:Array Bool):Nat → Array Bool → Act → World → Prop
 | 0,listed,a,w=>listed = full ∧ wpAny P md ops Q g full a w
 | fuel + 1,listed,a,w=>Region.ready md ops listed ≠ [] ∧
  ∀ i ∈ Region.ready md ops listed,wpOp P ops Q i (fun a' w'=>S w' ∧ wpAnyK P md ops Q S g full fuel (listed.setIfInBounds i true) a' w') a w
theorem wpAny_of_k {g:Nat} {full:Array Bool}:∀ (fuel:Nat) (listed:Array Bool) (a:Act) (w:World),wpAnyK P md ops Q S g full fuel listed a w → wpAny P md ops Q (fuel + g) listed a w
 | 0,_,_,_,h=>by obtain ⟨rfl,h⟩:=h;rw [Nat.zero_add];exact h
 | fuel + 1,_,_,_,h=>by
  rw [show fuel + 1 + g = (fuel + g) + 1 by omega]
  exact ⟨fun h0=>absurd h0 h.1,fun i hi=>wpOp_mono (fun a' w' h'=>wpAny_of_k fuel _ a' w' h'.2) (h.2 i hi)⟩
theorem phase_not {full listed:Array Bool} {i j:Nat} (hcl:closedB md ops listed = true) (hB:phaseB md ops full = true) (hi:i < ops.size) (hl:listed.setIfInBounds i true = full) (hu:listed.getD i true = false) (hj:j ∈ Region.ready md ops listed) (hne:j ≠ i):False:=by
 have hil:i < listed.size:=by
  rcases Nat.lt_or_ge i listed.size with h | h
  ·exact h
  ·simp [Array.getElem?_eq_none h] at hu
 have h1:full.getD i false = true:=by rw [← hl];simp [hil]
 have h2:full.setIfInBounds i false = listed:=by
  rw [← hl]
  apply Array.ext_getElem?
  intro k
  by_cases e:i = k
  ·subst e;simp [hil] at hu ⊢;exact hu
  ·simp [Array.getElem?_setIfInBounds_ne e]
 unfold phaseB at hB
 have h3:=List.all_eq_true.1 hB i (List.mem_range.2 hi)
 rw [h1,h2,hcl] at h3
 simp only [Bool.not_true,Bool.false_or] at h3
 have h4:=List.all_eq_true.1 h3 j hj
 have h5:=(mem_ready.1 hj).1
 rw [← hl,getD_set_ne false (Ne.symm hne)] at h4
 rcases Nat.lt_or_ge j listed.size with h | h
 ·simp [h] at h4 h5;rw [h5] at h4;cases h4
 ·simp [Array.getElem?_eq_none h] at h4
theorem wpAnyK_first {i:Nat} {oi:Oper} {v:Value} {g:Nat} {full:Array Bool} (hi:ops[i]? = some oi) (hsel:∀ (j:Nat) (o:Oper) cs b,ops[j]? = some o → o.op ≠ .select cs b)
  (hQ:∀ c a w,Q (.panic c) (a.put oi.dst v) w → Q (.panic c) a w) (hB:phaseB md ops full = true) :
  ∀ (fuel:Nat) (listed:Array Bool) (a:Act) (w:World),
   (∀ j oj,ops[j]? = some oj → j ≠ i → listed.getD j true = false → (∀ e ∈ oj.after,Region.binds md e = true → e.on ≠ i) → oi.apart ops oj = true) →
   closedB md ops listed = true → i ∈ Region.ready md ops listed → YieldsIf P ops S oi v a → S w →
   wpAnyK P md ops Q S g full fuel (listed.setIfInBounds i true) (a.put oi.dst v) w → wpAnyK P md ops Q S g full (fuel + 1) listed a w
 | 0,listed,a,w,_,hcl,hr,hy,hS,H=>by
  refine ⟨fun h=>(by rw [h] at hr;cases hr),fun j hj=>?_⟩
  by_cases hji:j = i
  ·subst hji;exact hy.wpOp hi hS ⟨hS,H⟩
  ·exact (phase_not hcl hB (Array.getElem?_eq_some_iff.1 hi).1 H.1 (mem_ready.1 hr).1 hj hji).elim
 | fuel + 1,listed,a,w,hfree,hcl,hr,hy,hS,H=>by
  refine ⟨fun h=>(by rw [h] at hr;cases hr),fun j hj=>?_⟩
  by_cases hji:j = i
  ·subst hji;exact hy.wpOp hi hS ⟨hS,H⟩
  ·have h1:=H.2 j (ready_mono hj hji)
   obtain ⟨hjun,oj,hoj,hall⟩:=mem_ready.1 hj
   have hnot:∀ e ∈ oj.after,Region.binds md e = true → e.on ≠ i:=fun e he hb heq=>by
    have h2:=hall e he hb
    have h0:=(mem_ready.1 hr).1
    rw [heq] at h2
    rcases Nat.lt_or_ge i listed.size with h' | h'
    ·simp [h'] at h0 h2;rw [h0] at h2;cases h2
    ·simp [Array.getElem?_eq_none h'] at h2
   refine wpOp_mono (fun a' w' h3=>?_) (wpOp_putIf hoj (hfree j oj hoj hji hjun hnot) (fun cs b=>hsel i oi cs b hi) (fun cs b=>hsel j oj cs b hoj) hQ hy h1)
   have hS':S w':=h3.2.1
   refine ⟨hS',wpAnyK_first hi hsel hQ hB fuel (listed.setIfInBounds j true) a' w' (fun k ok hk hki hun hno=>hfree k ok hk hki ?_ hno) (closedB_set hcl hj) (ready_mono hr (Ne.symm hji)) h3.1 hS' ?_⟩
   ·by_cases hjk:j = k
    ·subst hjk;exact hjun
    ·rw [getD_set_ne true hjk] at hun;exact hun
   ·rw [Array.setIfInBounds_comm _ _ hji]
    exact h3.2.2
theorem wpAnyK_segs {g:Nat} {full:Array Bool} (hs:Region.noSelect ops = true) (hP:phaseB .any ops full = true) (hQ:∀ (d:Option Tmp) (v:Value) c a w,Q (.panic c) (a.put d v) w → Q (.panic c) a w) (fuel:Nat) (w:World) (hS:S w) :
  ∀ (l:List Oper) (k:Nat) (listed:Array Bool) (a:Act),(∀ j,j < l.length → l[j]? = ops[k + j]?) → closedB .any ops listed = true → segB ops l.length k listed = true →
   wpSegH P ops S (fun a'=>wpAnyK P .any ops Q S g full fuel (marks l.length k listed) a' w) l a → wpAnyK P .any ops Q S g full (l.length + fuel) listed a w
 | [],k,listed,a,_,_,_,h=>by rw [List.length_nil,Nat.zero_add];exact h
 | o :: l,k,listed,a,hl,hcl,hB,h=>by
  have h0:ops[k]? = some o:=by simpa using (hl 0 (by simp)).symm
  simp only [List.length_cons,segB,Bool.and_eq_true] at hB
  obtain ⟨⟨hr,hf⟩,hB⟩:=hB
  have hl':∀ j,j < l.length → l[j]? = ops[k + 1 + j]?:=fun j hj=>by have:=hl (j + 1) (by simp;omega);simpa [Nat.add_assoc,Nat.add_comm 1 j] using this
  rw [List.length_cons,show l.length + 1 + fuel = (l.length + fuel) + 1 by omega]
  have hr':k ∈ Region.ready .any ops listed:=by simpa using hr
  rcases h with ⟨hw,v,hv,h⟩ | ⟨hw,h⟩
  ·exact wpAnyK_first h0 (Region.noSelect_spec hs) (fun c a w=>hQ o.dst v c a w) hP _ listed a w (Region.free_spec h0 hf) hcl hr' (.inl ⟨hw,hv⟩) hS (wpAnyK_segs hs hP hQ fuel w hS l (k + 1) _ _ hl' (closedB_set hcl hr') hB h)
  ·exact wpAnyK_first h0 (Region.noSelect_spec hs) (fun c a w=>hQ o.dst undef c a w) hP _ listed a w (Region.free_spec h0 hf) hcl hr' (.inr ⟨hw,rfl⟩) hS (wpAnyK_segs hs hP hQ fuel w hS l (k + 1) _ _ hl' (closedB_set hcl hr') hB h)
theorem wpAnyK_seg {l:List Oper} (k n:Nat) (listed listed':Array Bool) (fuel:Nat) {g:Nat} {full:Array Bool} {a:Act} {w:World} (hs:Region.noSelect l.toArray = true) (hQ:∀ (d:Option Tmp) (v:Value) c a w,Q (.panic c) (a.put d v) w → Q (.panic c) a w) (hS:S w)
  (hB:(segB l.toArray n k listed && decide (k + n ≤ l.length) && (marks n k listed == listed') && phaseB .any l.toArray full && closedB .any l.toArray listed) = true) (h:wpSegH P l.toArray S (fun a'=>wpAnyK P .any l.toArray Q S g full fuel listed' a' w) ((l.drop k).take n) a):wpAnyK P .any l.toArray Q S g full (n + fuel) listed a w:=by
 simp only [Bool.and_eq_true,decide_eq_true_eq,beq_iff_eq] at hB
 obtain ⟨⟨⟨⟨hB,hn⟩,rfl⟩,hP⟩,hcl⟩:=hB
 have hln:((l.drop k).take n).length = n:=by rw [List.length_take,List.length_drop];omega
 have:=wpAnyK_segs (P:=P) (Q:=Q) (S:=S) (g:=g) (full:=full) hs hP hQ fuel w hS ((l.drop k).take n) k listed a (fun j hj=>by
  rw [hln] at hj
  rw [List.getElem?_take,if_pos hj,List.getElem?_drop];simp) hcl (by rw [hln];exact hB) (by rw [hln];exact h)
 rwa [hln] at this
theorem headK {l:List Oper} {i:Nat} {a:Act} {w:World} {K:Act → World → Prop} (h1:headH P l.toArray Q K a w (l.drop i)):wpOp P l.toArray Q i K a w:=by
 cases hd:l.drop i with
 | nil=>rw [hd] at h1;exact h1.elim
 | cons o r =>
  rw [hd] at h1
  have h0:l.toArray[i]? = some o:=by
   have:(l.drop i)[0]? = some o:=by rw [hd];rfl
   rw [List.getElem?_drop] at this
   simpa using this
  unfold wpOp
  simp only [h0]
  rw [if_pos h1.1]
  exact .inl h1.2
theorem wpAnyK_one {l:List Oper} (k:Nat) (listed listed':Array Bool) (fuel:Nat) {g:Nat} {full:Array Bool} {a:Act} {w:World} (hB:(decide (Region.ready .any l.toArray listed = [k]) && (listed.setIfInBounds k true == listed')) = true)
  (h:∀ K:Act → World → Prop,(∀ a' w',S w' → wpAnyK P .any l.toArray Q S g full fuel listed' a' w' → K a' w') → headH P l.toArray Q K a w (l.drop k)):wpAnyK P .any l.toArray Q S g full (fuel + 1) listed a w:=by
 simp only [Bool.and_eq_true,decide_eq_true_eq,beq_iff_eq] at hB
 obtain ⟨hr,rfl⟩:=hB
 refine ⟨fun h0=>(by rw [hr] at h0;cases h0),fun i hi=>?_⟩
 rw [hr] at hi
 have hik:i = k:=by simpa using hi
 subst hik
 exact headK (h _ (fun a' w' h2 h3=>⟨h2,h3⟩))
theorem wpAnyK_next {listed:Array Bool} {g:Nat} {a:Act} {w:World} (h:wpAny P md ops Q g listed a w):wpAnyK P md ops Q S g listed 0 listed a w:=⟨rfl,h⟩
theorem wpAnyK_phase {listed:Array Bool} (S:World → Prop) (fuel g:Nat) (full:Array Bool) {a:Act} {w:World} (h:wpAnyK P md ops Q S g full fuel listed a w):wpAny P md ops Q (fuel + g) listed a w:=wpAny_of_k _ _ _ _ h
theorem wpAnyK_seq {l:List Oper} (k:Nat) {listed:Array Bool} {a:Act} {w:World} (hB:(Region.seqB .any l.toArray (l.drop k).length k listed) = true) (h:wpList P l.toArray Q (l.drop k) a w):wpAny P .any l.toArray Q (l.drop k).length listed a w :=
 wpAny_of_seq (l.drop k) k listed a w (fun j=>by rw [List.getElem?_drop];simp) hB h
theorem wpAnyK_done {listed:Array Bool} {a:Act} {w:World} (hr:Region.ready md ops listed = []) (h:Q .normal a w):wpAny P md ops Q 0 listed a w:=⟨hr,h⟩
theorem wp_region_lexK {id:Nat} {a:Act} {w:World} {l:List Oper} (S:World → Prop) (fuel g:Nat) (listed full:Array Bool) (hm:P.follows .mixedOrders = true) (hB:(decide (l.length = fuel + g) && (Array.replicate l.length false == listed)) = true)
  (h:wpAnyK P .any l.toArray (NoPanic Q) S g full fuel listed a w.drew):(Code.region id l.toArray true).wp P Q a w:=by
 simp only [Bool.and_eq_true,decide_eq_true_eq,beq_iff_eq] at hB
 obtain ⟨hl,rfl⟩:=hB
 have h1:=wpAny_of_k _ _ _ _ h
 rw [← hl] at h1
 exact wp_region_noPanic (wp_region_any hm (by simpa using h1))
end
end Go.Proofs.YtphfaekpckbepaaGreat
open Go Go.RowKit
set_option linter.unusedVariables false
namespace Go.Proofs.YtphfaekpckbepaaGreat
structure Dq where
 q:Nat
 g:Nat
 x:In4
 th:Bool
 dr:Int
 go:Bool
def dlist (w0 w:World) (p:Nat) (T:List Value) (d:Dq) (W:Wd) (D:Wa) (rd:List Int) (ra:Option Addr) (rc:Nat) (R:List Asr):Prop :=
 D.fits W ∧ Own w0 w (wparts p W D T ++ (CelA d.q (dcells p (d.g:Int) d.x d.th d.dr d.go ra rd.length rc) :: RowGA 1 ra rc rd.length (intc rd) :: R))
def DAt (w0 w:World) (p:Nat) (T:List Value) (d:Dq) (W:Wd) (rd:List Int) (R:List Asr):Prop:=∃ D ra rc,dlist w0 w p T d W D rd ra rc R
def trapE (k:Int):Ending:=.panicked [{ v:=.iface 189 (.int .i64 k),recovered:=false }]
def DdR (d:Dd):Ending:=match d.tr with
 | none=>.returned (.tuple #[])
 | some k=>trapE k
def DPost (w0:World) (p:Nat) (T:List Value) (d:Dq) (R:List Asr) (m:Dd) (r:Ending) (w':World):Prop:=r = DdR m ∧ DAt w0 w' p T d m.W m.rd R
theorem DAt.step {w0 w w':World} {p:Nat} {T:List Value} {d:Dq} {W:Wd} {rd:List Int} {R:List Asr} (h:DAt w0 w p T d W rd R) (hb:Below w.heap.size w w'):DAt w0 w' p T d W rd R:=by
 obtain ⟨D,ra,rc,hf,h⟩:=h
 exact ⟨D,ra,rc,hf,h.step hb⟩
theorem reg_at {w:World} {s cap:Nat} {G:Gt} (h:StkAt w s G.n cap G.z) (hn:1 ≤ G.n) (a:Nat) (ha:a < 8):w.cell? ⟨s,(G.n - 1) * 11 + 2 + a,none⟩ = some (.int .i64 (G.rg (a:Int))) ∧ w.frozen? ⟨s,(G.n - 1) * 11 + 2 + a,none⟩ = false:=by
 obtain ⟨x,hx,h1,h2⟩:=h.cell ((G.n - 1) * 11 + 2 + a) (by omega)
 have e:G.rg (a:Int) = x:=by unfold Gt.rg Gt.o;rw [List.getD_eq_getElem?_getD];simp only [Int.toNat_natCast];rw [hx];rfl
 rw [e]
 exact ⟨h1,h2⟩
theorem nat_of {a:Int} {n:Nat} (h:0 ≤ a ∧ a < (n:Int)):∃ k:Nat,a = (k:Int) ∧ k < n:=⟨a.toNat,by omega,by omega⟩
theorem below_dN (w:World) (k:Nat):Below w.heap.size w (w.drewN k):=⟨rfl,rfl,rfl,Nat.le_refl _,fun _ _=>rfl⟩
theorem Own.q2 {w0 w w':World} {As:List Asr} {j k:Nat} (h:Own w0 w As) (e:w' = (w.drewN j).drewN k):Own w0 w' As:=by rw [e];exact (h.step (below_dN w j)).step (below_dN _ k)
theorem Own.q1 {w0 w w':World} {As:List Asr} {k:Nat} (h:Own w0 w As) (e:w' = w.drewN k):Own w0 w' As:=by rw [e];exact h.step (below_dN w k)
theorem q_q2 {w w':World} {j k:Nat} (e:w' = (w.drewN j).drewN k):∃ n,w' = w.drewN n:=⟨j + k,by rw [e,World.drewN_drewN]⟩
theorem drew_q (w:World):∃ n,w.drew = w.drewN n:=⟨1,rfl⟩
structure OpF (w0 w:World) (p:Nat) (T:List Value) (d:Dq) (W:Wd) (D:Wa) (b off s cap:Nat):Prop where
 top:TopF w d.q p d.g b off s (W.g d.g).n cap W.gs.length D.ac
 aa:D.aa = some ⟨b,off,none⟩
 sk:D.sk[d.g]? = some (s,cap)
 stk:StkAt w s (W.g d.g).n cap (W.g d.g).z
 st:w.cell? ⟨b,off + d.g * 2,none⟩ = some (.int .i64 (W.g d.g).st) ∧ w.frozen? ⟨b,off + d.g * 2,none⟩ = false
 sl:w.frozen? ⟨b,off + d.g * 2 + 1,none⟩ = false
theorem opF_of {w0 w:World} {p:Nat} {T:List Value} {d:Dq} {W:Wd} {D:Wa} {ra:Option Addr} {n rc:Nat} {Y:List Asr} (hf:D.fits W) (h:Own w0 w (wparts p W D T ++ (CelA d.q (dcells p (d.g:Int) d.x d.th d.dr d.go ra n rc) :: Y))) (hg:d.g < W.gs.length) (hm:1 ≤ (W.g d.g).n ∧ (W.g d.g).n ≤ 16) :
  ∃ b off s cap,OpF w0 w p T d W D b off s cap:=by
 obtain ⟨s,cap,hs⟩:=hf.sk_at hg
 obtain ⟨b,off,h1,h2,h3,h4,h5⟩:=all_at h hg hs
 exact ⟨b,off,s,cap,topF_of h (h.cel 10 rfl) hg hs h1 hm,h1,hs,(stk_at h hg hs).1,⟨h2,h3⟩,h5⟩
theorem OpF.htop {w0 w:World} {p:Nat} {T:List Value} {d:Dq} {W:Wd} {D:Wa} {b off s cap m:Nat} (h:OpF w0 w p T d W D b off s cap) (hm:m = (W.g d.g).n - 1) (k:Nat) :
  Calls Tryz.prog 89 #[.pointer (some ⟨d.q,0,none⟩)] (w.drewN k) fun r w'=>r = .returned (.pointer (some ⟨s,m * 11,none⟩)) ∧ ∃ j,w' = (w.drewN k).drewN j:=by
 rw [hm];exact dtop_any (h.top.drewN k)
theorem OpF.hme {w0 w:World} {p:Nat} {T:List Value} {d:Dq} {W:Wd} {D:Wa} {b off s cap:Nat} (h:OpF w0 w p T d W D b off s cap) (k:Nat) :
  Calls Tryz.prog 92 #[.pointer (some ⟨d.q,0,none⟩)] (w.drewN k) fun r w'=>r = .returned (.pointer (some ⟨b,off + d.g * 2,none⟩)) ∧ ∃ j,w' = (w.drewN k).drewN j:=me_any (h.top.drewN k)
theorem lks_at {lp:List Nat} {Ls:List (List Int)} {i pt:Nat} {L:List Int} (hp:lp[i]? = some pt) (hL:Ls[i]? = some L):(lks lp Ls)[i]? = some (LockA pt L):=by
 unfold lks;rw [List.getElem?_zipWith,hp,hL]
theorem lks_set {lp:List Nat} {Ls:List (List Int)} {i pt:Nat} (L:List Int) (hp:lp[i]? = some pt) (hi:i < Ls.length):(lks lp Ls).set i (LockA pt L) = lks lp (Ls.set i L):=by
 apply List.ext_getElem?
 intro j
 have hpl:=(List.getElem?_eq_some_iff.1 hp).1
 unfold lks
 rw [List.getElem?_set]
 by_cases e:i = j
 ·subst e
  rw [if_pos rfl,if_pos (by simp;omega),List.getElem?_zipWith,hp,List.getElem?_set_self hi]
 ·rw [if_neg e,List.getElem?_zipWith,List.getElem?_zipWith,List.getElem?_set_ne e]
theorem Wd.lk_at {W:Wd} {i:Nat} (hi:i < W.Ls.length):W.Ls[i]? = some (W.lk (i:Int)):=by unfold Wd.lk;rw [List.getD_eq_getElem?_getD,Int.toNat_natCast,List.getElem?_eq_getElem hi];rfl
theorem Wd.ch_at {W:Wd} {i:Nat} (hi:i < W.Cs.length):W.Cs[i]? = some (W.ch (i:Int)):=by unfold Wd.ch;rw [List.getD_eq_getElem?_getD,Int.toNat_natCast,List.getElem?_eq_getElem hi];rfl
theorem Wd.g_setG (W:Wd) (i j:Nat) (G:Gt) (hi:i < W.gs.length):(W.setG i G).g j = if i = j then G else W.g j:=by
 unfold Wd.g Wd.setG
 simp only [List.getD_eq_getElem?_getD,List.getElem?_set]
 by_cases e:i = j
 ·rw [if_pos e,if_pos e,if_pos hi];rfl
 ·rw [if_neg e,if_neg e]
theorem Wd.put_len (W:Wd) (i:Nat) (k v:Int):(W.put i k v).gs.length = W.gs.length:=by unfold Wd.put Wd.setG;simp
theorem Wd.put_n (W:Wd) (i j:Nat) (k v:Int) (hi:i < W.gs.length):((W.put i k v).g j).n = (W.g j).n:=by
 unfold Wd.put
 rw [Wd.g_setG _ _ _ _ hi]
 split
 ·rename_i e;subst e;rfl
 ·rfl
theorem own_lock {w0 w:World} {p:Nat} {W:Wd} {D:Wa} {T:List Value} {R:List Asr} (h:Own w0 w (wparts p W D T ++ R)) (hf:D.fits W) {i:Nat} (hi:i < W.Ls.length) :
  ∃ pt b off R',D.la = some ⟨b,off,none⟩ ∧ w.cell? ⟨b,off + i,none⟩ = some (.pointer (some ⟨pt,0,none⟩)) ∧ Own w0 w (LockA pt (W.lk (i:Int)) :: R') ∧
   ∀ w' L',Own w0 w' (LockA pt L' :: R') → Own w0 w' (wparts p { W with Ls:=W.Ls.set i L' } D T ++ R) ∧ D.fits { W with Ls:=W.Ls.set i L' }:=by
 have hlp:i < D.lp.length:=by rw [hf.l];exact hi
 have hp:=List.getElem?_eq_getElem hlp
 obtain ⟨b,off,h1,h2⟩:=(h.rowG 6 rfl).cells i (.pointer (some ⟨D.lp[i],0,none⟩)) (by unfold lptr;rw [List.getElem?_map,hp];rfl)
 obtain ⟨R',k1,k2⟩:=(h.pick 7 rfl).lstPick (lks_at hp (Wd.lk_at hi))
 refine ⟨D.lp[i],b,off,_,h1,h2,k1,fun w' L' h'=>⟨?_,⟨hf.f,hf.g,hf.c,hf.n,by simp [hf.l],hf.k⟩⟩⟩
 have h3:=k2 w' _ _ h'
 rw [lks_set L' hp hi] at h3
 have h4:=h3.back (i:=7) (As:=wparts p W D T ++ R) (by simp [wparts])
 have e:(wparts p W D T ++ R).set 7 (LstA (lks D.lp (W.Ls.set i L'))) = wparts p { W with Ls:=W.Ls.set i L' } D T ++ R:=by
  simp only [wparts,wcells,List.length_set];rfl
 rw [e] at h4
 exact h4
theorem own_chan {w0 w:World} {p:Nat} {W:Wd} {D:Wa} {T:List Value} {R:List Asr} (h:Own w0 w (wparts p W D T ++ R)) (hf:D.fits W) {i:Nat} (hi:i < W.Cs.length) :
  ∃ pt b off R',D.ps[i]? = some pt ∧ D.ha = some ⟨b,off,none⟩ ∧ w.cell? ⟨b,off + i,none⟩ = some (.pointer (some ⟨pt,0,none⟩)) ∧ Own w0 w (ChanA pt (W.Ns.getD i 0) (W.ch (i:Int)) :: R') ∧
   ∀ w' C',Own w0 w' (ChanA pt (W.Ns.getD i 0) C' :: R') → Own w0 w' (wparts p (W.setCh (i:Int) C') D T ++ R) ∧ D.fits (W.setCh (i:Int) C'):=by
 have hlp:i < D.ps.length:=by rw [hf.c];exact hi
 have hln:i < W.Ns.length:=by rw [hf.n];exact hi
 have hz:(List.zip D.ps W.Ns)[i]? = some (D.ps[i],W.Ns.getD i 0):=zip_at2 (List.getElem?_eq_getElem hlp) (by rw [List.getD_eq_getElem?_getD,List.getElem?_eq_getElem hln];rfl)
 obtain ⟨b,off,h1,h2⟩:=(h.rowG 4 rfl).cells i _ (ptrs_at _ i _ hz)
 obtain ⟨R',k1,k2⟩:=(h.pick 5 rfl).lstPick (chs_at hz (Wd.ch_at hi))
 refine ⟨D.ps[i],b,off,_,List.getElem?_eq_getElem hlp,h1,h2,k1,fun w' C' h'=>⟨?_,⟨hf.f,hf.g,by simp [hf.c,Wd.setCh],by simp [hf.n,Wd.setCh],hf.l,hf.k⟩⟩⟩
 have h3:=k2 w' _ _ h'
 rw [chs_set C' hz hi] at h3
 have h4:=h3.back (i:=5) (As:=wparts p W D T ++ R) (by simp [wparts])
 have e:(wparts p W D T ++ R).set 5 (LstA (chs (List.zip D.ps W.Ns) (W.Cs.set i C'))) = wparts p (W.setCh (i:Int) C') D T ++ R:=by
  simp only [wparts,wcells,List.length_set,Wd.setCh,Int.toNat_natCast];rfl
 rw [e] at h4
 exact h4
theorem size_cas:∀ w,(sizeOf (Tryz.prog.elem 32)).run Tryz.prog w = .ok 3 w:=fun w=>by kernel_rfl
theorem under_cas:Tryz.prog.underlying 32 = some (.slice (Tryz.prog.elem 32)):=by kernel_rfl
theorem slice_mid {P:Program} {t:TypeId} {s:Nat} (ht:P.underlying t = some (.slice (P.elem t))) (hs:∀ w,(sizeOf (P.elem t)).run P w = .ok s w) (a:Option Addr) (n cap A B:Nat) (hB:1 ≤ B) (hn:A + B ≤ n) (hc:n ≤ cap) :
  ∃ a',(∀ w,(Instr.slice t (.slice a n cap) (some (.int .i64 (A:Int))) (some (.int .i64 ((A:Int) + (B:Int)))) none).run P w = .ok (.slice a' B (cap - A)) w) ∧ blk a' = blk a ∧
   ∀ w cs,CellsAt w a cs → CellsAt w a' ((cs.drop (A * s)).take (B * s)):=by
 refine ⟨a.map (·.add (A * s)),fun w=>?_,?_,fun w cs h=>?_⟩
 ·rw [run_slice_lh (P:=P) (w:=w) t a n cap ht .i64 .i64 (A:Int) ((A:Int) + (B:Int)) (by omega) (by omega) (by omega),hs w]
  have e1:((A:Int) + (B:Int)).toNat = A + B:=by omega
  have e2:(A:Int).toNat = A:=by omega
  have e3:¬ cap = A:=by omega
  have e4:A + B - A = B:=by omega
  simp only [Result.andThen,sliced,e1,e2,if_neg e3,e4]
 ·cases a with
  | none=>rfl
  | some x=>simp [blk,Addr.add];cases x;simp [Addr.add];split <;> rfl
 ·intro j v hj
  rw [List.getElem?_take] at hj
  split at hj
  ·rw [List.getElem?_drop] at hj
   obtain ⟨b,off,rfl,hc⟩:=h _ _ hj
   exact ⟨b,off + A * s,by simp [Addr.add],by rw [Nat.add_assoc];exact hc⟩
  ·cases hj
def CasX (W:Wd) (x:In4):Prop:=x.1 = 13 ∨ x.1 = 14 ∨ x.1 = 16 ∧ 0 ≤ x.2.1 ∧ 1 ≤ x.2.2.1 ∧ x.2.1 + x.2.2.1 ≤ (W.ks.length:Int)
def CasP (D:Wa) (W:Wd) (x:In4) (a:Option Addr) (Z:Asr):Prop:=∀ w F G,(CodeA D.fa D.fr W.fs D.ca W.ks).at_ w F → Z.at_ w G → CellsAt w a (c3s (W.cas x))
theorem c3s_drop (l:List Cs3) (n:Nat):c3s (l.drop n) = (c3s l).drop (n * 3):=wtc_drop l n
theorem c3s_take (l:List Cs3) (n:Nat):c3s (l.take n) = (c3s l).take (n * 3):=wtc_take l n
theorem c3s_len (l:List Cs3):(c3s l).length = l.length * 3:=wtc_len l
theorem CasP.cells {D:Wa} {W:Wd} {x:In4} {a:Option Addr} {Z:Asr} (hP:CasP D W x a Z) {w0 w:World} {As:List Asr} (h:Own w0 w As) (i k:Nat) (hi:As[i]? = some (CodeA D.fa D.fr W.fs D.ca W.ks)) (hk:As[k]? = some Z):CellsAt w a (c3s (W.cas x)):=by
 obtain ⟨F,h1,-⟩:=h.fact i hi
 obtain ⟨G,h2,-⟩:=h.fact k hk
 exact hP w F G h1 h2
theorem cases_any {w0 w:World} {p:Nat} {W:Wd} {D:Wa} {T:List Value} {Y:List Asr} (h:Own w0 w (wparts p W D T ++ Y)) (hf:D.fits W) (x:In4) (hx:CasX W x) (hk:W.ks.length ≤ 1000) :
  Calls Tryz.prog 87 #[.pointer (some ⟨p,0,none⟩),.agg #[.int .i64 x.1,.int .i64 x.2.1,.int .i64 x.2.2.1,.int .i64 x.2.2.2]] w fun r w'=>∃ a c Z,r = .returned (.slice a (W.cas x).length c) ∧ CasP D W x a Z ∧ (W.cas x).length ≤ 1000 ∧ Own w0 w' (Z :: (wparts p W D T ++ Y)) ∧ Below w.heap.size w w':=by
 obtain ⟨op,A,B,C⟩:=x
 have hw1:w.heap.size < (w.alloc (.cells #[.int .i64 op,.int .i64 A,.int .i64 B,.int .i64 C] 29)).heap.size:=by simp
 have hB:=below_alloc1 w (.cells #[.int .i64 op,.int .i64 A,.int .i64 B,.int .i64 C] 29)
 have HX:=Blk.mk w [.int .i64 op,.int .i64 A,.int .i64 B,.int .i64 C] 29 w.heap.size rfl
 have x0:=(HX 0 _ rfl).1
 have x1:=(HX 1 _ rfl).1
 have x2:=(HX 2 _ rfl).1
 have h1:=h.step hB
 have p1:=(h1.cel 0 rfl 1 _ rfl).1
 go_enter Tryz.func87,Tryz.ntmps87
 go_upto_region 1 with fail
 generalize w.alloc (.cells #[.int .i64 op,.int .i64 A,.int .i64 B,.int .i64 C] 29) = w1 at *
 generalize hsz:w.heap.size = sz at *
 have HSZ:=Lib.hid hsz
 clear hsz
 have HB:=Lib.hid hB
 have H1:=Lib.hid h1
 clear hB h1 h HX
 rcases hx with hx | hx | ⟨hx,hA0,hB0,hAB⟩
 ·simp only at hx
  subst hx
  have HZ:Hid (∃ a c Z,Value.slice (some ⟨w1.heap.size,0,none⟩) 1 1 = .slice a (W.cas (13,A,B,C)).length c ∧ CasP D W (13,A,B,C) a Z ∧ (W.cas (13,A,B,C)).length ≤ 1000 ∧ Own w0 (w1.alloc (.cells #[.int .i64 1,.int .i64 A,.int .i64 B] 119)) (Z :: (wparts p W D T ++ Y)) ∧ Below sz w (w1.alloc (.cells #[.int .i64 1,.int .i64 A,.int .i64 B] 119))):=Lib.hid
   ⟨_,1,RowGA 3 (some ⟨w1.heap.size,0,none⟩) 1 1 (c3s [(1,A,B)]),rfl,fun w F G hF hG=>hG.2.cells,by simp [Wd.cas],H1.out.add (below_alloc1 _ _) (F:=[w1.heap.size]) ⟨rfl,RowG.new 3 1 w1 (c3s [(1,A,B)]) _ rfl (by simp [maxLen]) rfl⟩ (fun x hx=>by simp at hx;omega),HB.out.trans ((below_alloc1 w1 _).mono (by omega))⟩
  clear p1 H1 HB
  go_wp2
  go_ret
  obtain ⟨a,c,Z,e,k⟩:=HZ.out
  rw [HSZ.out]
  exact ⟨a,c,Z,by rw [e];rfl,k⟩
 ·simp only at hx
  subst hx
  have HZ:Hid (∃ a c Z,Value.slice (some ⟨w1.heap.size,0,none⟩) 1 1 = .slice a (W.cas (14,A,B,C)).length c ∧ CasP D W (14,A,B,C) a Z ∧ (W.cas (14,A,B,C)).length ≤ 1000 ∧ Own w0 (w1.alloc (.cells #[.int .i64 0,.int .i64 A,.int .i64 B] 119)) (Z :: (wparts p W D T ++ Y)) ∧ Below sz w (w1.alloc (.cells #[.int .i64 0,.int .i64 A,.int .i64 B] 119))):=Lib.hid
   ⟨_,1,RowGA 3 (some ⟨w1.heap.size,0,none⟩) 1 1 (c3s [(0,A,B)]),rfl,fun w F G hF hG=>hG.2.cells,by simp [Wd.cas],H1.out.add (below_alloc1 _ _) (F:=[w1.heap.size]) ⟨rfl,RowG.new 3 1 w1 (c3s [(0,A,B)]) _ rfl (by simp [maxLen]) rfl⟩ (fun x hx=>by simp at hx;omega),HB.out.trans ((below_alloc1 w1 _).mono (by omega))⟩
  clear p1 H1 HB
  go_wp2
  go_ret
  obtain ⟨a,c,Z,e,k⟩:=HZ.out
  rw [HSZ.out]
  exact ⟨a,c,Z,by rw [e];rfl,k⟩
 ·simp only at hx hA0 hB0 hAB
  subst hx
  obtain ⟨a,rfl⟩:=Int.eq_ofNat_of_zero_le hA0
  obtain ⟨n,rfl⟩:=Int.eq_ofNat_of_zero_le (by omega:0 ≤ B)
  obtain ⟨a',s1,s2,s3⟩:=slice_mid under_cas size_cas D.ca W.ks.length D.cc a n (by omega) (by omega) hf.k
  have hw:IntKind.i64.wrap ((a:Int) + (n:Int)) = (a:Int) + (n:Int):=by rw [IntKind.wrap_i64];omega
  have e:W.cas (16,(a:Int),(n:Int),C) = (W.ks.drop a).take n:=by simp [Wd.cas]
  have el:((W.ks.drop a).take n).length = n:=by rw [List.length_take,List.length_drop];omega
  have He:=Lib.hid e
  have Hel:=Lib.hid el
  have HZ:Hid (∀ k,∃ Z,CasP D W (16,(a:Int),(n:Int),C) a' Z ∧ Own w0 (w1.drewN k) (Z :: (wparts p W D T ++ Y)) ∧ Below sz w (w1.drewN k)):=Lib.hid
   (fun k=>⟨EmpA,fun w F G hF hG=>by rw [e,c3s_take,c3s_drop];exact s3 w _ hF.2.2.1.2,(H1.out.step (below_dN w1 k)).add (Below.refl _ _) (F:=[]) rfl (fun x hx=>by simp at hx),HB.out.trans ((below_dN w1 k).mono (by omega))⟩)
  have HS:=Lib.hid s1
  have hn1:n ≤ 1000:=by omega
  clear s2 s3 H1 HB e el hf hAB
  go_upto_region 6 with fail
  refine wp_region_lexK (fun wx=>∃ nq,wx = World.drewN (w1) nq) 13 0 (Array.replicate 13 false) #[true,true,true,true,true,true,true,true,true,true,true,true,true] (by kernel_rfl) (by kernel_rfl) ?_
  refine wpAnyK_seg 0 13 _ #[true,true,true,true,true,true,true,true,true,true,true,true,true] 0 (by kernel_rfl) noPanic_put (drew_q w1) (by kernel_rfl) ?_
  simp only [List.take_succ_cons,List.take_zero,List.drop_zero]
  repeat ((first | refine wpSegH_no (by rfl) ?_ | (refine wpSegH_yes (by rfl) ?_;apply Exists.intro;apply And.intro;(· (rintro wx ⟨nq,rfl⟩;go_simp;first | done | with_reducible rfl))));simp only [Act.put,List.setIfInBounds_toArray,List.set_cons_zero,List.set_cons_succ])
  refine wpSegH_nil ?_
  refine wpAnyK_next ?_
  refine wpAnyK_done (by kernel_rfl) (NoPanic.normal ?_)
  go_wp2
  go_ret
  obtain ⟨Z,k1,k2⟩:=HZ.out 1
  rw [HSZ.out,He.out,Hel.out]
  exact ⟨a',D.cc - a,Z,rfl,k1,hn1,k2⟩
theorem Own.mid {w0 w:World} {A:Asr} {L Y:List Asr} (h:Own w0 w (A :: (L ++ Y))):Own w0 w (L ++ (A :: Y)):=h.perm (List.perm_middle).symm
theorem Own.unmid {w0 w:World} {A:Asr} {L Y:List Asr} (h:Own w0 w (L ++ (A :: Y))):Own w0 w (A :: (L ++ Y)):=h.perm List.perm_middle
structure FinOk (W:Wd) (x:In4) (by_:Wt):Prop where
 ix:CasX W x
 k:W.ks.length ≤ 1000
 g:0 ≤ by_.1 ∧ by_.1 < (W.gs.length:Int)
 gl:W.gs.length ≤ 1000
 n:1 ≤ (W.g by_.1.toNat).n ∧ (W.g by_.1.toNat).n ≤ 16
 j:0 ≤ by_.2.1 ∧ by_.2.1 < ((W.cas x).length:Int)
 c:∀ c ∈ W.cas x,c.1 = 0 → 0 ≤ c.2.2 ∧ c.2.2 < 8
 r:x.1 = 14 ∨ x.1 = 16 → 0 ≤ x.2.2.2 ∧ x.2.2.2 < 8
theorem fin_any {w0 w:World} {p:Nat} {W:Wd} {D:Wa} {T:List Value} {Y:List Asr} {x:In4} {by_:Wt} (some_:Bool) (h:Own w0 w (wparts p W D T ++ Y)) (hf:D.fits W) (ok:FinOk W x by_) :
  Calls Tryz.prog 144 #[.pointer (some ⟨p,0,none⟩),.agg #[.int .i64 x.1,.int .i64 x.2.1,.int .i64 x.2.2.1,.int .i64 x.2.2.2],wv by_,.bool some_] w fun r w'=>r = .returned (.tuple #[]) ∧ Own w0 w' (wparts p (W.fin x by_ some_) D T ++ Y) ∧ D.fits (W.fin x by_ some_):=by
 obtain ⟨hx,hk,hg,hgl,hm,hj,hc,hr⟩:=ok
 obtain ⟨k,hK,hk8⟩:=nat_of (n:=W.gs.length) hg
 obtain ⟨j,hJ,hj8⟩:=nat_of (n:=(W.cas x).length) hj
 obtain ⟨op,A,B,C⟩:=x
 obtain ⟨b1,b2,v⟩:=by_
 simp only at hK hJ
 subst hK hJ
 simp only [Int.toNat_natCast] at hm
 obtain ⟨s,cap,hs⟩:=hf.sk_at hk8
 have hA:=(((h.alloc [.int .i64 op,.int .i64 A,.int .i64 B,.int .i64 C] 29 (b:=w.heap.size) rfl).alloc [.int .i64 (k:Int),.int .i64 (j:Int),.int .i64 v] 211 (b:=w.heap.size + 1) (by simp)).mid (L:=CelA w.heap.size [.int .i64 op,.int .i64 A,.int .i64 B,.int .i64 C] :: wparts p W D T)).mid
 unfold wv
 simp only
 obtain ⟨m,hmm⟩:∃ m,m = (W.g k).n - 1:=⟨_,rfl⟩
 have htop:∀ w,Calls Tryz.prog 83 #[.slice (some ⟨s,0,none⟩) (W.g k).n cap] w fun e w'=>e = .returned (.pointer (some ⟨s,m * 11,none⟩)) ∧ w' = w:=fun w=>by
  have:=top_any s m cap w (by omega)
  rw [show m + 1 = (W.g k).n by omega] at this
  exact this
 have HT:=Lib.hid htop
 have HS:Hid (∀ (W1:Wd) (wx:World) (Y1:List Asr),Own w0 wx (wparts p W1 D T ++ Y1) → D.fits W1 → W1.gs.length = W.gs.length → (W1.g k).n = (W.g k).n → ∀ (a:Nat) (u:Int),a < 8 →
   (∃ v0,wx.cell? ⟨s,m * 11 + 2 + a,none⟩ = some v0) ∧ wx.frozen? ⟨s,m * 11 + 2 + a,none⟩ = false ∧ Own w0 (wx.setCell ⟨s,m * 11 + 2 + a,none⟩ (.int .i64 u)) (wparts p (W1.put k (a:Int) u) D T ++ Y1) ∧ D.fits (W1.put k (a:Int) u)):=Lib.hid (fun W1 wx Y1 ho hf1 hl1 hn1 a u ha=>by
  have hk1:k < W1.gs.length:=by omega
  obtain ⟨r0,r1⟩:=reg_at (stk_at ho hk1 hs).1 (by rw [hn1];exact hm.1) a ha
  have r2:=own_put ho hk1 hs a u
  rw [hn1,← hmm] at r0 r1 r2
  exact ⟨⟨_,r0⟩,r1,r2,hf1.setG _ _⟩)
 clear htop
 obtain ⟨b,off,haa,-,-,sl,-⟩:=all_at hA hk8 hs
 have p2:=(hA.cel 0 rfl 2 _ rfl).1
 have q0:=(hA.cel 11 rfl 0 _ rfl).1
 rw [haa] at p2
 have k0:(0:Int) ≤ (k:Int):=by omega
 have k8:(k:Int) < (W.gs.length:Int):=by omega
 have j0:(0:Int) ≤ (j:Int):=by omega
 have j8:(j:Int) < ((W.cas (op,A,B,C)).length:Int):=by omega
 have HA:=Lib.hid hA
 have HK:=Lib.hid hk
 have HX:=Lib.hid hx
 obtain ⟨n,hn⟩:∃ n,n = (W.g k).n:=⟨_,rfl⟩
 obtain ⟨N,hN⟩:∃ N,N = W.gs.length:=⟨_,rfl⟩
 rw [← hn] at HT sl
 rw [← hN] at p2 k8
 have HN:=Lib.hid hN
 have Hn:=Lib.hid hn
 have HF:=Lib.hid hf
 have HCx:=Lib.hid hc
 have HRx:=Lib.hid hr
 have HK8:=Lib.hid hk8
 clear hA h hs hmm haa hm hgl hg hj hN hn hf hk hx hc hr hk8
 go_enter Tryz.func144,Tryz.ntmps144
 go_upto_region 1 with fail
 generalize ((w.alloc (.cells #[.int .i64 op,.int .i64 A,.int .i64 B,.int .i64 C] 29)).alloc (.cells #[.int .i64 (k:Int),.int .i64 (j:Int),.int .i64 v] 211)) = w1 at *
 generalize w.heap.size = bx at *
 refine wp_region_lexK (fun wx=>∃ nq,wx = World.drewN (w1) nq) 13 0 (Array.replicate 13 false) #[true,true,true,true,true,true,true,true,true,true,true,true,true] (by kernel_rfl) (by kernel_rfl) ?_
 refine wpAnyK_seg 0 9 _ #[true,true,true,true,true,true,true,true,true,false,false,false,false] 4 (by kernel_rfl) noPanic_put (drew_q w1) (by kernel_rfl) ?_
 simp only [List.take_succ_cons,List.take_zero,List.drop_zero]
 repeat ((first | refine wpSegH_no (by rfl) ?_ | (refine wpSegH_yes (by rfl) ?_;apply Exists.intro;apply And.intro;(· (rintro wx ⟨nq,rfl⟩;go_simp;first | done | with_reducible rfl))));simp only [Act.put,List.setIfInBounds_toArray,List.set_cons_zero,List.set_cons_succ])
 refine wpSegH_nil ?_
 refine wpAnyK_one 9 _ #[true,true,true,true,true,true,true,true,true,true,false,false,false] 3 (by kernel_rfl) (fun K hK=>?_)
 have HKK:=Lib.hid hK
 clear hK
 simp only [List.drop_succ_cons,List.drop_zero]
 refine headH_mk (by rfl) ?_
 go_simp
 refine (HT.out _).mono ?_
 rintro r w2 ⟨rfl,rfl⟩
 refine HKK.out _ _ (drew_q w1) ?_
 clear HKK K
 refine wpAnyK_seg 10 3 _ #[true,true,true,true,true,true,true,true,true,true,true,true,true] 0 (by kernel_rfl) noPanic_put (drew_q w1) (by kernel_rfl) ?_
 simp only [List.take_succ_cons,List.take_zero,List.drop_succ_cons,List.drop_zero]
 repeat ((first | refine wpSegH_no (by rfl) ?_ | (refine wpSegH_yes (by rfl) ?_;apply Exists.intro;apply And.intro;(· (rintro wx ⟨nq,rfl⟩;go_simp;first | done | with_reducible rfl))));simp only [Act.put,List.setIfInBounds_toArray,List.set_cons_zero,List.set_cons_succ])
 refine wpSegH_nil ?_
 refine wpAnyK_next ?_
 refine wpAnyK_done (by kernel_rfl) (NoPanic.normal ?_)
 go_upto_region 2 with fail
 have H1:=Lib.hid (HA.out.step (below_drew1 w1))
 clear HA q0 p2 sl
 obtain ⟨c0,c1,c2,hcc⟩:∃ c0 c1 c2,(W.cas (op,A,B,C))[j]? = some (c0,c1,c2):=⟨_,_,_,List.getElem?_eq_getElem hj8⟩
 have HCC:=Lib.hid hcc
 have hge:(W.cas (op,A,B,C))[j] = (c0,c1,c2):=(List.getElem?_eq_some_iff.1 hcc).2
 have HGE:=Lib.hid hge
 clear hcc hge
 go_cut [9] (fun s9 wx=>∃ cb c0 c1 c2,s9 = .pointer (some ⟨cb,0,none⟩) ∧ (W.cas (op,A,B,C))[j]? = some (c0,c1,c2) ∧ Own w0 wx (wparts p W D T ++ (CelA cb [.int .i64 c0,.int .i64 c1,.int .i64 c2] :: CelA bx [.int .i64 op,.int .i64 A,.int .i64 B,.int .i64 C] :: CelA (bx + 1) [.int .i64 (k:Int),.int .i64 (j:Int),.int .i64 v] :: Y)))
 case first =>
  have SB:∀ (wx:World) (Z:List Asr),Own w0 wx (wparts p W D T ++ (CelA bx [.int .i64 op,.int .i64 A,.int .i64 B,.int .i64 C] :: CelA (bx + 1) [.int .i64 (k:Int),.int .i64 (j:Int),.int .i64 v] :: Z)) →
    wx.cell? ⟨bx,0,none⟩ = some (.int .i64 op) ∧ wx.cell? ⟨bx,1,none⟩ = some (.int .i64 A) ∧ wx.cell? ⟨bx,2,none⟩ = some (.int .i64 B) ∧ wx.cell? ⟨bx,3,none⟩ = some (.int .i64 C) ∧ wx.cell? ⟨bx + 1,1,none⟩ = some (.int .i64 (j:Int)) ∧ bx < wx.heap.size:=by
   intro wx Z ho
   have hc:=ho.cel 10 rfl
   exact ⟨(hc 0 _ rfl).1,(hc 1 _ rfl).1,(hc 2 _ rfl).1,(hc 3 _ rfl).1,(ho.cel 11 rfl 1 _ rfl).1,World.block_lt_of_cell? wx _ (hc 0 _ rfl).1⟩
  have o1:=H1.out.step (below_drew1 _)
  refine wp_region_lexZ (fun wx=>wx.cell? ⟨bx,0,none⟩ = some (.int .i64 op) ∧ wx.cell? ⟨bx,1,none⟩ = some (.int .i64 A) ∧ wx.cell? ⟨bx,2,none⟩ = some (.int .i64 B) ∧ wx.cell? ⟨bx,3,none⟩ = some (.int .i64 C) ∧ wx.cell? ⟨bx + 1,1,none⟩ = some (.int .i64 (j:Int)) ∧ bx < wx.heap.size) 9 (Array.replicate 9 false) (by kernel_rfl) (by kernel_rfl) ?_
  refine wpAnyZ_seg 0 2 _ #[true,true,false,false,false,false,false,false,false] 7 (by kernel_rfl) noPanic_put (SB _ _ o1) (by kernel_rfl) ?_
  simp only [List.take_succ_cons,List.take_zero,List.drop_zero]
  repeat ((first | refine wpSegH_no (by rfl) ?_ | (refine wpSegH_yes (by rfl) ?_;apply Exists.intro;apply And.intro;(· (intro wx hS;(try dsimp only at hS);go_simp;first | done | with_reducible rfl))));simp only [Act.put,List.setIfInBounds_toArray,List.set_cons_zero,List.set_cons_succ])
  refine wpSegH_nil ?_
  refine wpAnyZ_seg 3 2 _ #[true,true,false,true,true,false,false,false,false] 5 (by kernel_rfl) noPanic_put (SB _ _ o1) (by kernel_rfl) ?_
  simp only [List.take_succ_cons,List.take_zero,List.drop_succ_cons,List.drop_zero]
  repeat ((first | refine wpSegH_no (by rfl) ?_ | (refine wpSegH_yes (by rfl) ?_;apply Exists.intro;apply And.intro;(· (intro wx hS;(try dsimp only at hS);go_simp;first | done | with_reducible rfl))));simp only [Act.put,List.setIfInBounds_toArray,List.set_cons_zero,List.set_cons_succ])
  refine wpSegH_nil ?_
  refine wpAnyZ_two 2 7 _ #[true,true,true,true,true,false,false,false,false] #[true,true,false,true,true,false,false,true,false] 4 (by kernel_rfl) (fun K hK=>?_) (fun K hK=>?_)
  ·skip
   have HKK:=Lib.hid hK
   clear hK
   simp only [List.drop_succ_cons,List.drop_zero]
   refine headH_mk (by rfl) ?_
   go_simp
   refine (cases_any o1 HF.out (op,A,B,C) HX.out HK.out).mono ?_
   rintro r w3 ⟨a,ca,Z,rfl,hP,hl,o3,-⟩
   obtain ⟨cbk,co,rfl,y0,y1,y2⟩:=(hP.cells o3 2 0 rfl rfl).wt j (by simpa using hj8)
   rw [HGE.out] at y0 y1 y2
   have o4:=o3.drop
   refine HKK.out _ _ (SB _ _ o4) ?_
   clear HKK K
   refine wpAnyZ_seg 5 1 _ #[true,true,true,true,true,true,false,false,false] 3 (by kernel_rfl) noPanic_put (SB _ _ o4) (by kernel_rfl) ?_
   simp only [List.take_succ_cons,List.take_zero,List.drop_succ_cons,List.drop_zero]
   repeat ((first | refine wpSegH_no (by rfl) ?_ | (refine wpSegH_yes (by rfl) ?_;apply Exists.intro;apply And.intro;(· (intro wx hS;(try dsimp only at hS);go_simp;first | done | with_reducible rfl))));simp only [Act.put,List.setIfInBounds_toArray,List.set_cons_zero,List.set_cons_succ])
   refine wpSegH_nil ?_
   refine wpAnyZ_two 6 7 _ #[true,true,true,true,true,true,true,false,false] #[true,true,true,true,true,true,false,true,false] 2 (by kernel_rfl) (fun K hK=>?_) (fun K hK=>?_)
   ·skip
    have HKK:=Lib.hid hK
    clear hK
    simp only [List.drop_succ_cons,List.drop_zero]
    refine headH_mk (by rfl) ?_
    go_simp
    refine HKK.out _ _ (SB _ _ o4) ?_
    clear HKK K
    have o5:=o4.alloc [.int .i64 0,.int .i64 0,.int .i64 0] 119 (b:=w3.heap.size) rfl
    refine wpAnyZ_one 7 _ #[true,true,true,true,true,true,true,true,false] 1 (by kernel_rfl) (fun K hK=>?_)
    have HKK:=Lib.hid hK
    clear hK
    simp only [List.drop_succ_cons,List.drop_zero]
    refine headH_mk (by rfl) ?_
    go_simp
    refine HKK.out _ _ (SB _ _ o5.drop) ?_
    clear HKK K
    have HOx:=Lib.hid ((o4.alloc [.int .i64 c0,.int .i64 c1,.int .i64 c2] 119 (b:=w3.heap.size) rfl).mid)
    refine wpAnyZ_end 8 _ #[true,true,true,true,true,true,true,true,true] (by kernel_rfl) (fun K hK=>?_)
    have HKK:=Lib.hid hK
    clear hK
    simp only [List.drop_succ_cons,List.drop_zero]
    refine headH_mk (by rfl) ?_
    go_simp
    refine HKK.out _ _ (NoPanic.normal ?_)
    clear HKK K
    go_wp2_with fail
    go_meet
    exact ⟨_,c0,c1,c2,rfl,HCC.out,HOx.out⟩
   ·skip
    have HKK:=Lib.hid hK
    clear hK
    simp only [List.drop_succ_cons,List.drop_zero]
    refine headH_mk (by rfl) ?_
    go_simp
    have o5:=o4.alloc [.int .i64 0,.int .i64 0,.int .i64 0] 119 (b:=w3.heap.size) rfl
    refine HKK.out _ _ (SB _ _ o5.drop) ?_
    clear HKK K
    have y0':∀ q,(w3.alloc q).cell? ⟨cbk,co + j * 3,none⟩ = some (.int .i64 c0):=fun q=>cell_below y0 (below_alloc1 w3 q)
    have y1':∀ q,(w3.alloc q).cell? ⟨cbk,co + j * 3 + 1,none⟩ = some (.int .i64 c1):=fun q=>cell_below y1 (below_alloc1 w3 q)
    have y2':∀ q,(w3.alloc q).cell? ⟨cbk,co + j * 3 + 2,none⟩ = some (.int .i64 c2):=fun q=>cell_below y2 (below_alloc1 w3 q)
    refine wpAnyZ_one 6 _ #[true,true,true,true,true,true,true,true,false] 1 (by kernel_rfl) (fun K hK=>?_)
    have HKK:=Lib.hid hK
    clear hK
    simp only [List.drop_succ_cons,List.drop_zero]
    refine headH_mk (by rfl) ?_
    go_simp
    refine HKK.out _ _ (SB _ _ o5.drop) ?_
    clear HKK K
    have HOx:=Lib.hid ((o4.alloc [.int .i64 c0,.int .i64 c1,.int .i64 c2] 119 (b:=w3.heap.size) rfl).mid)
    refine wpAnyZ_end 8 _ #[true,true,true,true,true,true,true,true,true] (by kernel_rfl) (fun K hK=>?_)
    have HKK:=Lib.hid hK
    clear hK
    simp only [List.drop_succ_cons,List.drop_zero]
    refine headH_mk (by rfl) ?_
    go_simp
    refine HKK.out _ _ (NoPanic.normal ?_)
    clear HKK K
    go_wp2_with fail
    go_meet
    exact ⟨_,c0,c1,c2,rfl,HCC.out,HOx.out⟩
  ·skip
   have o5:=(o1.alloc [.int .i64 0,.int .i64 0,.int .i64 0] 119 (b:=w1.heap.size) rfl).mid
   have hcb:=World.block_lt_of_cell? _ _ (o5.cel 10 rfl 0 _ rfl).1
   have HKK:=Lib.hid hK
   clear hK
   simp only [List.drop_succ_cons,List.drop_zero]
   refine headH_mk (by rfl) ?_
   go_simp
   refine HKK.out _ _ (SB _ _ o5.unmid.drop) ?_
   clear HKK K
   refine wpAnyZ_one 2 _ #[true,true,true,true,true,false,false,true,false] 3 (by kernel_rfl) (fun K hK=>?_)
   have HKK:=Lib.hid hK
   clear hK
   simp only [List.drop_succ_cons,List.drop_zero]
   refine headH_mk (by rfl) ?_
   go_simp
   refine (cases_any o5 HF.out (op,A,B,C) HX.out HK.out).mono ?_
   rintro r w3 ⟨a,ca,Z,rfl,hP,hl,o3,-⟩
   obtain ⟨cbk,co,rfl,y0,y1,y2⟩:=(hP.cells o3 2 0 rfl rfl).wt j (by simpa using hj8)
   rw [HGE.out] at y0 y1 y2
   have o6:=o3.drop
   refine HKK.out _ _ (SB _ _ o6.unmid.drop) ?_
   clear HKK K
   refine wpAnyZ_seg 5 1 _ #[true,true,true,true,true,true,false,true,false] 2 (by kernel_rfl) noPanic_put (SB _ _ o6.unmid.drop) (by kernel_rfl) ?_
   simp only [List.take_succ_cons,List.take_zero,List.drop_succ_cons,List.drop_zero]
   repeat ((first | refine wpSegH_no (by rfl) ?_ | (refine wpSegH_yes (by rfl) ?_;apply Exists.intro;apply And.intro;(· (intro wx hS;(try dsimp only at hS);go_simp;first | done | with_reducible rfl))));simp only [Act.put,List.setIfInBounds_toArray,List.set_cons_zero,List.set_cons_succ])
   refine wpSegH_nil ?_
   refine wpAnyZ_one 6 _ #[true,true,true,true,true,true,true,true,false] 1 (by kernel_rfl) (fun K hK=>?_)
   have HKK:=Lib.hid hK
   clear hK
   simp only [List.drop_succ_cons,List.drop_zero]
   refine headH_mk (by rfl) ?_
   go_simp
   refine HKK.out _ _ (SB _ _ o6.unmid.drop) ?_
   clear HKK K
   obtain ⟨z0,f0⟩:=o6.cel 10 rfl 0 _ rfl
   obtain ⟨z1,f1⟩:=o6.cel 10 rfl 1 _ rfl
   obtain ⟨z2,f2⟩:=o6.cel 10 rfl 2 _ rfl
   have HOx:=Lib.hid (((o6.unmid.set 0 (.int .i64 c0)).set 1 (.int .i64 c1)).set 2 (.int .i64 c2)).mid
   refine wpAnyZ_end 8 _ #[true,true,true,true,true,true,true,true,true] (by kernel_rfl) (fun K hK=>?_)
   have HKK:=Lib.hid hK
   clear hK
   simp only [List.drop_succ_cons,List.drop_zero]
   refine headH_mk (by rfl) ?_
   go_simp
   refine HKK.out _ _ (NoPanic.normal ?_)
   clear HKK K
   go_wp2_with fail
   go_meet
   exact ⟨_,c0,c1,c2,rfl,HCC.out,HOx.out⟩
 case rest =>
  obtain ⟨cb,d0,d1,d2,rfl,hdd,ho⟩:=hcut
  have hd:(d0,d1,d2) = (c0,c1,c2):=by have:=HCC.out;rw [hdd] at this;exact Option.some.inj this
  simp only [Prod.mk.injEq] at hd
  obtain ⟨rfl,rfl,rfl⟩:=hd
  clear hdd
  have e:W.fin (op,A,B,C) ((k:Int),(j:Int),v) some_ = (let W1:=if d0 = 0 then W.put k d2 v else W;if op = 16 then W1.put k C (j:Int) else if op = 14 then W1.put k C (if some_ then 1 else 0) else W1):=by
   unfold Wd.fin
   simp only [Int.toNat_natCast,List.getD_eq_getElem?_getD,HCC.out,Option.getD_some]
  have HE:=Lib.hid e
  clear e
  have hb0:=(ho.cel 10 rfl 0 _ rfl).1
  have hb2:=(ho.cel 10 rfl 2 _ rfl).1
  have hv2:=(ho.cel 12 rfl 2 _ rfl).1
  have HO:=Lib.hid ho
  clear ho H1
  go_upto_if 31 with fail
  go_cut [] (fun wx=>∃ W1:Wd,W1 = (if d0 = 0 then W.put k d2 v else W) ∧ W1.gs.length = W.gs.length ∧ (W1.g k).n = (W.g k).n ∧ D.fits W1 ∧ Own w0 wx (wparts p W1 D T ++ (CelA cb [.int .i64 d0,.int .i64 d1,.int .i64 d2] :: CelA bx [.int .i64 op,.int .i64 A,.int .i64 B,.int .i64 C] :: CelA (bx + 1) [.int .i64 (k:Int),.int .i64 (j:Int),.int .i64 v] :: Y)))
  case first =>
   by_cases h0:d0 = 0
   ·have h2:=HCx.out _ (List.mem_of_getElem? HCC.out) h0
    simp only at h2
    obtain ⟨a,ha,ha8⟩:=nat_of (n:=8) h2
    have ht:(d0 == 0) = true:=by simp [h0]
    have a0:(0:Int) ≤ (a:Int):=by omega
    have a8:(a:Int) < 8:=by omega
    have hX:Hid (∀ W1:Wd,W1 = W.put k d2 v → ∃ W1:Wd,W1 = (if d0 = 0 then W.put k d2 v else W) ∧ W1.gs.length = W.gs.length ∧ (W1.g k).n = (W.g k).n ∧ D.fits W1 ∧ True):=Lib.hid (fun W1 e=>⟨W1,by rw [if_pos h0,e],by rw [e,Wd.put_len],by rw [e,Wd.put_n _ _ _ _ _ HK8.out],by rw [e];exact HF.out.setG _ _,trivial⟩)
    rw [ha] at hb2
    obtain ⟨⟨v0,r0⟩,r1,r2,r3⟩:=HS.out W _ _ HO.out HF.out rfl rfl a v ha8
    have HO2:=Lib.hid (r2.step (below_drew1 _))
    have H0:=Lib.hid h0
    have HAa:=Lib.hid ha
    clear h0 ha h2 r2
    go_upto_region 4 with fail
    refine wp_region_lexK (fun wx=>∃ nq,wx = World.drewN (wc) nq) 7 1 (Array.replicate 8 false) #[true,true,true,true,true,true,true,false] (by kernel_rfl) (by kernel_rfl) ?_
    refine wpAnyK_seg 0 7 _ #[true,true,true,true,true,true,true,false] 0 (by kernel_rfl) noPanic_put (drew_q wc) (by kernel_rfl) ?_
    simp only [List.take_succ_cons,List.take_zero,List.drop_zero]
    repeat ((first | refine wpSegH_no (by rfl) ?_ | (refine wpSegH_yes (by rfl) ?_;apply Exists.intro;apply And.intro;(· (rintro wx ⟨nq,rfl⟩;go_simp;first | done | with_reducible rfl))));simp only [Act.put,List.setIfInBounds_toArray,List.set_cons_zero,List.set_cons_succ])
    refine wpSegH_nil ?_
    refine wpAnyK_next ?_
    refine wpAnyK_seq 7 (by kernel_rfl) ?_
    simp only [List.drop_succ_cons,List.drop_zero]
    have r0':wc.drew.cell? ⟨s,m * 11 + 2 + a,none⟩ = some v0:=r0
    have r1':wc.drew.frozen? ⟨s,m * 11 + 2 + a,none⟩ = false:=r1
    go_wp2_with fail
    refine NoPanic.normal ?_
    go_wp2_with fail
    go_meet
    exact ⟨W.put k d2 v,by rw [if_pos H0.out],Wd.put_len _ _ _ _,Wd.put_n _ _ _ _ _ HK8.out,by rw [HAa.out];exact r3,by have:=HO2.out;rw [← HAa.out] at this;exact this⟩
   ·have ht:(d0 == 0) = false:=by simp [h0]
    have H0:=Lib.hid h0
    clear h0
    go_wp2_with fail
    go_meet
    exact ⟨W,by rw [if_neg H0.out],rfl,rfl,HF.out,HO.out⟩
  case rest =>
   obtain ⟨W1,hW1,hl1,hn1,hf1,ho1⟩:=hcut
   have HW1:=Lib.hid hW1
   have hx0:=(ho1.cel 11 rfl 0 _ rfl).1
   have hx3:=(ho1.cel 11 rfl 3 _ rfl).1
   have hbj:=(ho1.cel 12 rfl 1 _ rfl).1
   have HO1:=Lib.hid ho1
   clear hW1 ho1 HO hb0 hb2 hv2
   rcases HX.out with hx | hx | ⟨hx,-⟩
   ·simp only at hx
    subst hx
    have HF1:=Lib.hid hf1
    clear hf1
    go_wp2
    all_goals
     go_end0
     rw [HE.out,← HW1.out]
     exact ⟨rfl,HO1.out.unmid.drop.unmid.drop.unmid.drop,HF1.out⟩
   ·simp only at hx
    subst hx
    have hC8:=HRx.out (.inl rfl)
    simp only at hC8
    cases some_ with
    | true =>
     obtain ⟨a,ha,ha8⟩:=nat_of (n:=8) hC8
     subst ha
     have a0:(0:Int) ≤ (a:Int):=by omega
     have a8:(a:Int) < 8:=by omega
     obtain ⟨⟨v0,r0⟩,r1,r2,r3⟩:=HS.out W1 _ _ HO1.out hf1 hl1 hn1 a 1 ha8
     have HO2:=Lib.hid (r2.step (below_drew1 _))
     have HF2:=Lib.hid r3
     clear r2 r3 hf1
     go_upto_region 8 with fail
     refine wp_region_lexK (fun wx=>∃ nq,wx = World.drewN (wc) nq) 5 1 (Array.replicate 6 false) #[true,true,true,true,true,false] (by kernel_rfl) (by kernel_rfl) ?_
     refine wpAnyK_seg 0 5 _ #[true,true,true,true,true,false] 0 (by kernel_rfl) noPanic_put (drew_q wc) (by kernel_rfl) ?_
     simp only [List.take_succ_cons,List.take_zero,List.drop_zero]
     repeat ((first | refine wpSegH_no (by rfl) ?_ | (refine wpSegH_yes (by rfl) ?_;apply Exists.intro;apply And.intro;(· (rintro wx ⟨nq,rfl⟩;go_simp;first | done | with_reducible rfl))));simp only [Act.put,List.setIfInBounds_toArray,List.set_cons_zero,List.set_cons_succ])
     refine wpSegH_nil ?_
     refine wpAnyK_next ?_
     refine wpAnyK_seq 5 (by kernel_rfl) ?_
     simp only [List.drop_succ_cons,List.drop_zero]
     go_wp2_with fail
     refine NoPanic.normal ?_
     go_wp2_with fail
     go_end0
     rw [HE.out,← HW1.out]
     exact ⟨rfl,HO2.out.unmid.drop.unmid.drop.unmid.drop,HF2.out⟩
    | false =>
     obtain ⟨a,ha,ha8⟩:=nat_of (n:=8) hC8
     subst ha
     have a0:(0:Int) ≤ (a:Int):=by omega
     have a8:(a:Int) < 8:=by omega
     obtain ⟨⟨v0,r0⟩,r1,r2,r3⟩:=HS.out W1 _ _ HO1.out hf1 hl1 hn1 a 0 ha8
     have HO2:=Lib.hid (r2.step (below_drew1 _))
     have HF2:=Lib.hid r3
     clear r2 r3 hf1
     go_upto_region 10 with fail
     refine wp_region_lexK (fun wx=>∃ nq,wx = World.drewN (wc) nq) 5 1 (Array.replicate 6 false) #[true,true,true,true,true,false] (by kernel_rfl) (by kernel_rfl) ?_
     refine wpAnyK_seg 0 5 _ #[true,true,true,true,true,false] 0 (by kernel_rfl) noPanic_put (drew_q wc) (by kernel_rfl) ?_
     simp only [List.take_succ_cons,List.take_zero,List.drop_zero]
     repeat ((first | refine wpSegH_no (by rfl) ?_ | (refine wpSegH_yes (by rfl) ?_;apply Exists.intro;apply And.intro;(· (rintro wx ⟨nq,rfl⟩;go_simp;first | done | with_reducible rfl))));simp only [Act.put,List.setIfInBounds_toArray,List.set_cons_zero,List.set_cons_succ])
     refine wpSegH_nil ?_
     refine wpAnyK_next ?_
     refine wpAnyK_seq 5 (by kernel_rfl) ?_
     simp only [List.drop_succ_cons,List.drop_zero]
     go_wp2_with fail
     refine NoPanic.normal ?_
     go_wp2_with fail
     go_end0
     rw [HE.out,← HW1.out]
     exact ⟨rfl,HO2.out.unmid.drop.unmid.drop.unmid.drop,HF2.out⟩
   ·simp only at hx
    subst hx
    have hC8:=HRx.out (.inr rfl)
    simp only at hC8
    obtain ⟨a,ha,ha8⟩:=nat_of (n:=8) hC8
    subst ha
    have a0:(0:Int) ≤ (a:Int):=by omega
    have a8:(a:Int) < 8:=by omega
    obtain ⟨⟨v0,r0⟩,r1,r2,r3⟩:=HS.out W1 _ _ HO1.out hf1 hl1 hn1 a (j:Int) ha8
    have HO2:=Lib.hid (r2.step (below_drew1 _))
    have HF2:=Lib.hid r3
    clear r2 r3 hf1
    go_upto_region 6 with fail
    refine wp_region_lexK (fun wx=>∃ nq,wx = World.drewN (wc) nq) 7 1 (Array.replicate 8 false) #[true,true,true,true,true,true,true,false] (by kernel_rfl) (by kernel_rfl) ?_
    refine wpAnyK_seg 0 7 _ #[true,true,true,true,true,true,true,false] 0 (by kernel_rfl) noPanic_put (drew_q wc) (by kernel_rfl) ?_
    simp only [List.take_succ_cons,List.take_zero,List.drop_zero]
    repeat ((first | refine wpSegH_no (by rfl) ?_ | (refine wpSegH_yes (by rfl) ?_;apply Exists.intro;apply And.intro;(· (rintro wx ⟨nq,rfl⟩;go_simp;first | done | with_reducible rfl))));simp only [Act.put,List.setIfInBounds_toArray,List.set_cons_zero,List.set_cons_succ])
    refine wpSegH_nil ?_
    refine wpAnyK_next ?_
    refine wpAnyK_seq 7 (by kernel_rfl) ?_
    simp only [List.drop_succ_cons,List.drop_zero]
    go_wp2_with fail
    refine NoPanic.normal ?_
    go_wp2_with fail
    go_end0
    rw [HE.out,← HW1.out]
    exact ⟨rfl,HO2.out.unmid.drop.unmid.drop.unmid.drop,HF2.out⟩
theorem dwake_any {w0 w:World} {p:Nat} {T:List Value} {d:Dq} {W:Wd} {rd:List Int} {R:List Asr} (h:DAt w0 w p T d W rd R) (k:Nat) (hk:k < W.gs.length) (hk2:W.gs.length ≤ 1000) (hr:rd.length ≤ 1000000) :
  Calls Tryz.prog 129 #[.pointer (some ⟨d.q,0,none⟩),.int .i64 (k:Int)] w fun r w'=>r = .returned (.tuple #[]) ∧ DAt w0 w' p T d (W.setSt k 1) (rd ++ [(k:Int)]) R:=by
 obtain ⟨D,ra,rc,hf,h⟩:=h
 obtain ⟨s,cap,hs⟩:=hf.sk_at hk
 obtain ⟨b,off,haa,c0,c1,-,-⟩:=all_at h hk hs
 have q0:=(h.cel 10 rfl 0 _ rfl).1
 have p2:=(h.cel 0 rfl 2 _ rfl).1
 rw [haa] at p2
 have o1:=own_st h hf hk haa 1
 have hf1:D.fits (W.setSt k 1):=hf.setG _ _
 have q9:=(o1.cel 10 rfl 9 _ rfl).1
 have q0':=(o1.cel 10 rfl 0 _ rfl).1
 have k0:(0:Int) ≤ (k:Int):=by omega
 have k8:(k:Int) < (W.gs.length:Int):=by omega
 have hrow:=o1.rowG 11 rfl
 have H1:=Lib.hid o1
 have HF:=Lib.hid hf1
 have HR:=Lib.hid hrow
 obtain ⟨i0,hi0,hz0,hz1,hz2⟩:=info_parts info_int
 have Hi:=Lib.hid hi0;clear hi0
 have Hz0:=Lib.hid hz0;clear hz0
 have Hz1:=Lib.hid hz1;clear hz1
 have Hz2:=Lib.hid hz2;clear hz2
 obtain ⟨n,hn⟩:∃ n,n = rd.length:=⟨_,rfl⟩
 rw [← hn] at q9 HR hr
 have HN:=Lib.hid hn
 generalize W.gs.length = N at *
 clear hrow hf h o1 hf1 hs hn hk haa
 go_enter Tryz.func129,Tryz.ntmps129
 go_upto_region 1 with fail
 generalize w.setCell ⟨b,off + k * 2,none⟩ (.int .i64 1) = w1 at *
 go_wp2_with (at_builtin;refine wpList_append_rowG (m:=1) (ds:=intc [(k:Int)]) rfl _ _ 22 rfl 3 i0 _ Tryz.underlying22 Hi.out Hz0.out Hz1.out Hz2.out rfl (by omega) (by omega) rfl rfl (HR.out.below (below_alloc1 _ _)) (CellsAt.new _ (intc [(k:Int)]) _ rfl) rfl (intc_one _) (by omega) ?_)
 intro a9 c9 w9 k9 ch9 f9
 have o3:=H1.out.step (below_alloc1 w1 (.cells #[.int .i64 (k:Int)] 3))
 have e1:(rd ++ [(k:Int)]).length = n + 1:=by rw [List.length_append,← HN.out];rfl
 have o4:=(Own.rowTurn (o3.pick 11 rfl) k9 ch9 (by simpa using f9)).back (i:=11) (As:=wparts p (W.setSt k 1) D T ++ (CelA d.q (dcells p (d.g:Int) d.x d.th d.dr d.go ra rd.length rc) :: RowGA 1 ra rc rd.length (intc rd) :: R)) (by simp [wparts])
 have o5:=o4.setAt 10 rfl 9 (.slice a9 (n + 1) c9)
 obtain ⟨z9,f9'⟩:=o4.cel 10 rfl 9 _ rfl
 have HFin:Hid (DAt w0 (w9.setCell ⟨d.q,9,none⟩ (.slice a9 (n + 1) c9)) p T d (W.setSt k 1) (rd ++ [(k:Int)]) R):=Lib.hid ⟨D,a9,c9,HF.out,by
  rw [e1,intc_app]
  exact o5⟩
 clear o3 o4 o5 k9 ch9 f9 e1 H1 HF HR
 go_wp2
 go_end0
 exact ⟨rfl,HFin.out⟩
def statusM (W:Wd) (k:Int):Int:=if 0 ≤ k ∧ k < (W.gs.length:Int) then (W.g k.toNat).st else 0
theorem status_any {w0 w:World} {p:Nat} {W:Wd} {D:Wa} {T:List Value} {Y:List Asr} (h:Own w0 w (wparts p W D T ++ Y)) (hf:D.fits W) (k:Int) :
  Calls Tryz.prog 13 #[.pointer (some ⟨p,0,none⟩),.int .i64 k] w fun r w'=>r = .returned (.int .i64 (statusM W k)) ∧ w' = w:=by
 have p2:=(h.cel 0 rfl 2 _ rfl).1
 have HH:=Lib.hid (fun w=>hasG_any D.aa W.gs.length D.ac k w)
 by_cases hk:0 ≤ k ∧ k < (W.gs.length:Int)
 ·obtain ⟨n,rfl,hn⟩:=nat_of (n:=W.gs.length) hk
  obtain ⟨s,cap,hs⟩:=hf.sk_at hn
  obtain ⟨b,off,haa,c0,-,-,-⟩:=all_at h hn hs
  have e:statusM W (n:Int) = (W.g n).st:=by unfold statusM;rw [if_pos hk];rfl
  rw [e]
  have hd:decide (0 ≤ (n:Int) ∧ (n:Int) < (W.gs.length:Int)) = true:=decide_eq_true hk
  rw [hd,haa] at HH
  rw [haa] at p2
  have k0:(0:Int) ≤ (n:Int):=by omega
  have k8:(n:Int) < (W.gs.length:Int):=by omega
  generalize W.gs.length = N at *
  clear h hf hk hs haa hd e
  go_enter Tryz.func13,Tryz.ntmps13
  go_wp2_with fail
  refine (HH.out _).mono ?_
  rintro r w1 ⟨rfl,rfl⟩
  go_wp2
  go_ret
  exact ⟨rfl,rfl⟩
 ·have e:statusM W k = 0:=by unfold statusM;rw [if_neg hk]
  rw [e]
  have hd:decide (0 ≤ k ∧ k < (W.gs.length:Int)) = false:=decide_eq_false hk
  rw [hd] at HH
  generalize W.gs.length = N at *
  clear h hf hk hd e
  go_enter Tryz.func13,Tryz.ntmps13
  go_wp2_with fail
  refine (HH.out _).mono ?_
  rintro r w1 ⟨rfl,rfl⟩
  go_wp2
  go_ret
  exact ⟨rfl,rfl⟩
theorem code_at {w0 w:World} {p:Nat} {W:Wd} {D:Wa} {T:List Value} {Y:List Asr} (h:Own w0 w (wparts p W D T ++ Y)) (hf:D.fits W) {fn i:Nat} {l:List In4} {x:In4} (hl:W.fs[fn]? = some l) (hx:l[i]? = some x) :
  ∃ b off c bb oo,D.fa = some ⟨b,off,none⟩ ∧ w.cell? ⟨b,off + fn,none⟩ = some (.slice (some ⟨bb,oo,none⟩) l.length c) ∧ w.cell? ⟨bb,oo + i * 4,none⟩ = some (.int .i64 x.1) ∧ w.cell? ⟨bb,oo + i * 4 + 1,none⟩ = some (.int .i64 x.2.1) ∧ w.cell? ⟨bb,oo + i * 4 + 2,none⟩ = some (.int .i64 x.2.2.1) ∧ w.cell? ⟨bb,oo + i * 4 + 3,none⟩ = some (.int .i64 x.2.2.2):=by
 have hfl:fn < D.fr.length:=by rw [hf.f];exact (List.getElem?_eq_some_iff.1 hl).1
 obtain ⟨F,⟨-,⟨-,h2⟩,-,h4⟩,-⟩:=h.fact 1 rfl
 have hr:=List.getElem?_eq_getElem hfl
 obtain ⟨b,off,e1,e2⟩:=h2 fn (.slice (D.fr[fn]).1 l.length (D.fr[fn]).2) (by unfold frw;rw [List.getElem?_zipWith,hr,hl])
 obtain ⟨hi,hxe⟩:=List.getElem?_eq_some_iff.1 hx
 obtain ⟨bb,oo,e3,e4⟩:=CellsAt.rec (f:=i4c) (s:=4) (fun _=>rfl) (h4 fn _ l hr hl).2 i hi (by omega)
 rw [hxe] at e4
 rw [e3] at e2
 exact ⟨b,off,_,bb,oo,e1,e2,e4 0 _ rfl,e4 1 _ rfl,e4 2 _ rfl,e4 3 _ rfl⟩
theorem own_chs {w0 w:World} {p:Nat} {W:Wd} {D:Wa} {T:List Value} {Y:List Asr} (h:Own w0 w (wparts p W D T ++ Y)) (hf:D.fits W) :
  ∃ R',Own w0 w (chs (List.zip D.ps W.Ns) W.Cs ++ RowGA 1 D.ha D.hc W.Cs.length (ptrs (List.zip D.ps W.Ns)) :: R') ∧
   ∀ w' Cs',Cs'.length = W.Cs.length → Own w0 w' (chs (List.zip D.ps W.Ns) Cs' ++ RowGA 1 D.ha D.hc W.Cs.length (ptrs (List.zip D.ps W.Ns)) :: R') → Own w0 w' (wparts p { W with Cs:=Cs' } D T ++ Y) ∧ D.fits { W with Cs:=Cs' }:=by
 have h1:=((h.pick 5 rfl).pick 5 rfl).pick 1 rfl
 refine ⟨_,h1.unl,fun w' Cs' hl h'=>⟨?_,⟨hf.f,hf.g,by simp [hf.c,hl],by simp [hf.n,hl],hf.l,hf.k⟩⟩⟩
 have h2:=(((((Own.lst h').pick 1 rfl).pick 5 rfl).pick 5 rfl).pick 5 rfl).pick 5 rfl
 simp only [wparts,wcells,hl]
 exact h2
theorem put_gs (W:Wd) (i:Nat) (k v:Int):∃ gs',W.put i k v = { W with gs:=gs' } ∧ gs'.length = W.gs.length:=⟨_,rfl,by simp⟩
theorem fin_gs (W:Wd) (x:In4) (by_:Wt) (some_:Bool):∃ gs',W.fin x by_ some_ = { W with gs:=gs' } ∧ gs'.length = W.gs.length:=by
 have h1:∀ W1:Wd,(∃ gs',W1 = { W with gs:=gs' } ∧ gs'.length = W.gs.length) → ∀ i k v,∃ gs',W1.put i k v = { W with gs:=gs' } ∧ gs'.length = W.gs.length:=by
  rintro W1 ⟨gs',rfl,hl⟩ i k v
  obtain ⟨g2,e,hl2⟩:=put_gs { W with gs:=gs' } i k v
  exact ⟨g2,e,by rw [hl2];exact hl⟩
 have h0:∃ gs',W = { W with gs:=gs' } ∧ gs'.length = W.gs.length:=⟨W.gs,rfl,rfl⟩
 unfold Wd.fin
 simp only
 split <;> split <;> (try split) <;> (try split) <;> first | exact h0 | exact h1 _ h0 _ _ _ | exact h1 _ (h1 _ h0 _ _ _) _ _ _
structure GoOk (W:Wd) (by_:Wt):Prop where
 g:0 ≤ by_.1 ∧ by_.1 < (W.gs.length:Int)
 gl:W.gs.length ≤ 1000
 ins:(W.g by_.1.toNat).st = 2 → ∃ x,W.insAt (W.g by_.1.toNat).fn ((W.g by_.1.toNat).pc - 1) = some x ∧ FinOk W x by_ ∧ 0 ≤ (W.g by_.1.toNat).fn ∧ (W.g by_.1.toNat).pc ≤ 100000
 cs:Lim 100000 W.Cs ∧ W.Cs.length ≤ 100000
theorem dgo_any {w0 w:World} {p:Nat} {T:List Value} {d:Dq} {W:Wd} {rd:List Int} {R:List Asr} (h:DAt w0 w p T d W rd R) (by_:Wt) (some_:Bool) (ok:GoOk W by_) (hr:rd.length ≤ 1000000) :
  Calls Tryz.prog 133 #[.pointer (some ⟨d.q,0,none⟩),wv by_,.bool some_] w fun r w'=>r = .returned (.tuple #[]) ∧ DAt w0 w' p T d (goOnM W rd by_ some_).1 (goOnM W rd by_ some_).2 R:=by
 obtain ⟨hg,hgl,hins,hlim,hcl⟩:=ok
 obtain ⟨D,ra,rc,hf,h⟩:=h
 obtain ⟨k,hK,hk8⟩:=nat_of (n:=W.gs.length) hg
 obtain ⟨b1,b2,v⟩:=by_
 simp only at hK
 subst hK
 simp only [Int.toNat_natCast] at hins
 have hA:=(h.alloc [.int .i64 (k:Int),.int .i64 b2,.int .i64 v] 211 (b:=w.heap.size) rfl).mid (L:=wparts p W D T)
 have q0:=(hA.cel 11 rfl 0 _ rfl).1
 have z0:=(hA.cel 10 rfl 0 _ rfl).1
 have hst:=Lib.hid (status_any (hA.step (below_drew1 _)) hf (k:Int))
 have es:statusM W (k:Int) = (W.g k).st:=by unfold statusM;rw [if_pos hg];rfl
 rw [es] at hst
 unfold wv
 simp only
 by_cases hw:(W.g k).st = 2
 ·obtain ⟨x,hx,okf,hfn,hpc⟩:=hins hw
  have e:goOnM W rd ((k:Int),b2,v) some_ = (((W.fin x ((k:Int),b2,v) some_).leave (k:Int)).setSt k 1,rd ++ [(k:Int)]):=by
   unfold goOnM;simp only [Int.toNat_natCast];rw [if_pos hw,hx]
  have HE:=Lib.hid e
  obtain ⟨f,hfe⟩:=Int.eq_ofNat_of_zero_le hfn
  have hx':=hx
  unfold Wd.insAt at hx'
  have hpc1:¬ (W.g k).pc - 1 < 0:=by intro hh;rw [if_pos hh] at hx';cases hx'
  rw [if_neg hpc1,hfe,Int.toNat_natCast,List.getD_eq_getElem?_getD] at hx'
  obtain ⟨i,hie⟩:=Int.eq_ofNat_of_zero_le (by omega:0 ≤ (W.g k).pc - 1)
  rw [hie,Int.toNat_natCast] at hx'
  obtain ⟨l,hl⟩:∃ l,W.fs[f]? = some l:=by
   cases hc:W.fs[f]? with
   | none=>rw [hc] at hx';simp at hx'
   | some l=>exact ⟨l,rfl⟩
  rw [hl,Option.getD_some] at hx'
  obtain ⟨s,cap,hs⟩:=hf.sk_at hk8
  obtain ⟨b,off,haa,-,-,sl,-⟩:=all_at hA hk8 hs
  obtain ⟨cb0,co0,cc,cbb,coo,hfa,y1,x0,x1,x2,x3⟩:=code_at hA hf hl hx'
  have p2:=(hA.cel 0 rfl 2 _ rfl).1
  have p0:=(hA.cel 0 rfl 0 _ rfl).1
  have p3:=(hA.cel 0 rfl 3 _ rfl).1
  have z1:=(hA.cel 10 rfl 1 _ rfl).1
  have z2:=(hA.cel 10 rfl 2 _ rfl).1
  rw [haa] at p2
  rw [hfa] at p0
  obtain ⟨m,hmm⟩:∃ m,m = (W.g k).n - 1:=⟨_,rfl⟩
  have hm:=okf.n
  simp only [Int.toNat_natCast] at hm
  have hS:=(stk_at hA hk8 hs).1
  have hfc:((w.alloc (.cells #[.int .i64 (k:Int),.int .i64 b2,.int .i64 v] 211))).cell? ⟨s,m * 11,none⟩ = some (.int .i64 (f:Int)):=by
   refine (hS.at ?_).1
   have hlt:m * 11 < (W.g k).z.length:=by rw [hS.len];omega
   rw [List.getElem?_eq_getElem hlt,← hfe]
   unfold Gt.fn Gt.o
   rw [List.getD_eq_getElem?_getD,← hmm,List.getElem?_eq_getElem hlt];rfl
  obtain ⟨pc,hpe⟩:∃ pc,pc = (W.g k).pc:=⟨_,rfl⟩
  have hac:((w.alloc (.cells #[.int .i64 (k:Int),.int .i64 b2,.int .i64 v] 211))).cell? ⟨s,m * 11 + 1,none⟩ = some (.int .i64 pc):=by
   refine (hS.at ?_).1
   have hlt:m * 11 + 1 < (W.g k).z.length:=by rw [hS.len];omega
   rw [List.getElem?_eq_getElem hlt,hpe]
   unfold Gt.pc Gt.o
   rw [List.getD_eq_getElem?_getD,← hmm,List.getElem?_eq_getElem hlt];rfl
  have hil:i < l.length:=(List.getElem?_eq_some_iff.1 hx').1
  have hsub:IntKind.i64.wrap (pc - 1) = (i:Int):=by rw [IntKind.wrap_i64];omega
  have f0:(0:Int) ≤ (f:Int):=by omega
  have f8:(f:Int) < (W.fs.length:Int):=by have:=(List.getElem?_eq_some_iff.1 hl).1;omega
  have i0:(0:Int) ≤ (i:Int):=by omega
  have i8:(i:Int) < (l.length:Int):=by omega
  have k0:(0:Int) ≤ (k:Int):=by omega
  have k8:(k:Int) < (W.gs.length:Int):=by omega
  have htop:∀ w,Calls Tryz.prog 83 #[.slice (some ⟨s,0,none⟩) (W.g k).n cap] w fun e w'=>e = .returned (.pointer (some ⟨s,m * 11,none⟩)) ∧ w' = w:=fun w=>by
   have:=top_any s m cap w (by omega)
   rw [show m + 1 = (W.g k).n by omega] at this
   exact this
  have HT:=Lib.hid htop
  have HFn:=Lib.hid (fun j=>fin_any some_ (hA.step (below_dN _ j)) hf okf)
  have HLim:=Lib.hid hlim
  have HCl:=Lib.hid hcl
  have HG:=Lib.hid hgl
  obtain ⟨g2,hge,hgl2⟩:=fin_gs W x ((k:Int),b2,v) some_
  have HGE:=Lib.hid hge
  have HG2:=Lib.hid hgl2
  have HK8:=Lib.hid hk8
  have hpx:p < (w.alloc (.cells #[.int .i64 (k:Int),.int .i64 b2,.int .i64 v] 211)).heap.size:=World.block_lt_of_cell? _ _ p0
  rw [hw] at hst
  obtain ⟨N,hN⟩:∃ N,N = W.gs.length:=⟨_,rfl⟩
  rw [← hN] at p2 k8
  obtain ⟨NF,hNF⟩:∃ NF,NF = W.fs.length:=⟨_,rfl⟩
  rw [← hNF] at p0 f8
  obtain ⟨n,hn⟩:∃ n,n = (W.g k).n:=⟨_,rfl⟩
  rw [← hn] at HT sl
  clear hN hNF hw e es hA h hins hlim hcl hf hg hgl hx hx' hl hs haa hfa hS okf hfn hpc hfe hpc1 hie hmm hm hpe hil htop hge hgl2 hk8 hn
  unfold wv at HFn
  simp only at HFn
  go_enter Tryz.func133,Tryz.ntmps133
  go_upto_region 1 with fail
  generalize w.alloc (.cells #[.int .i64 (k:Int),.int .i64 b2,.int .i64 v] 211) = w1 at *
  generalize w.heap.size = bb at *
  refine wp_region_lexK (fun wx=>∃ nq,wx = World.drewN (w1) nq) 8 0 (Array.replicate 8 false) #[true,true,true,true,true,true,true,true] (by kernel_rfl) (by kernel_rfl) ?_
  refine wpAnyK_seg 0 6 _ #[true,true,true,true,true,true,false,false] 2 (by kernel_rfl) noPanic_put (drew_q w1) (by kernel_rfl) ?_
  simp only [List.take_succ_cons,List.take_zero,List.drop_zero]
  repeat ((first | refine wpSegH_no (by rfl) ?_ | (refine wpSegH_yes (by rfl) ?_;apply Exists.intro;apply And.intro;(· (rintro wx ⟨nq,rfl⟩;go_simp;first | done | with_reducible rfl))));simp only [Act.put,List.setIfInBounds_toArray,List.set_cons_zero,List.set_cons_succ])
  refine wpSegH_nil ?_
  refine wpAnyK_one 6 _ #[true,true,true,true,true,true,true,false] 1 (by kernel_rfl) (fun K hK=>?_)
  have HKK:=Lib.hid hK
  clear hK
  simp only [List.drop_succ_cons,List.drop_zero]
  refine headH_mk (by rfl) ?_
  go_simp
  refine hst.out.mono ?_
  rintro r w2 ⟨rfl,rfl⟩
  refine HKK.out _ _ (drew_q w1) ?_
  clear HKK K
  refine wpAnyK_seg 7 1 _ #[true,true,true,true,true,true,true,true] 0 (by kernel_rfl) noPanic_put (drew_q w1) (by kernel_rfl) ?_
  simp only [List.take_succ_cons,List.take_zero,List.drop_succ_cons,List.drop_zero]
  repeat ((first | refine wpSegH_no (by rfl) ?_ | (refine wpSegH_yes (by rfl) ?_;apply Exists.intro;apply And.intro;(· (rintro wx ⟨nq,rfl⟩;go_simp;first | done | with_reducible rfl))));simp only [Act.put,List.setIfInBounds_toArray,List.set_cons_zero,List.set_cons_succ])
  refine wpSegH_nil ?_
  refine wpAnyK_next ?_
  refine wpAnyK_done (by kernel_rfl) (NoPanic.normal ?_)
  go_upto_region 2 with fail
  refine wp_region_lexK (fun wx=>∃ nq,wx = World.drewN (w1.drew) nq) 14 0 (Array.replicate 14 false) #[true,true,true,true,true,true,true,true,true,true,true,true,true,true] (by kernel_rfl) (by kernel_rfl) ?_
  refine wpAnyK_seg 0 12 _ #[true,true,true,true,true,true,true,true,true,true,true,true,false,false] 2 (by kernel_rfl) noPanic_put (drew_q w1.drew) (by kernel_rfl) ?_
  simp only [List.take_succ_cons,List.take_zero,List.drop_zero]
  repeat ((first | refine wpSegH_no (by rfl) ?_ | (refine wpSegH_yes (by rfl) ?_;apply Exists.intro;apply And.intro;(· (rintro wx ⟨nq,rfl⟩;go_simp;first | done | with_reducible rfl))));simp only [Act.put,List.setIfInBounds_toArray,List.set_cons_zero,List.set_cons_succ])
  refine wpSegH_nil ?_
  refine wpAnyK_one 12 _ #[true,true,true,true,true,true,true,true,true,true,true,true,true,false] 1 (by kernel_rfl) (fun K hK=>?_)
  have HKK:=Lib.hid hK
  clear hK
  simp only [List.drop_succ_cons,List.drop_zero]
  refine headH_mk (by rfl) ?_
  go_simp
  refine (HT.out _).mono ?_
  rintro r w2 ⟨rfl,rfl⟩
  refine HKK.out _ _ ((by first | exact ⟨1,rfl⟩ | exact ⟨_,rfl⟩)) ?_
  clear HKK K
  refine wpAnyK_seg 13 1 _ #[true,true,true,true,true,true,true,true,true,true,true,true,true,true] 0 (by kernel_rfl) noPanic_put ((by first | exact ⟨1,rfl⟩ | exact ⟨_,rfl⟩)) (by kernel_rfl) ?_
  simp only [List.take_succ_cons,List.take_zero,List.drop_succ_cons,List.drop_zero]
  repeat ((first | refine wpSegH_no (by rfl) ?_ | (refine wpSegH_yes (by rfl) ?_;apply Exists.intro;apply And.intro;(· (rintro wx ⟨nq,rfl⟩;go_simp;first | done | with_reducible rfl))));simp only [Act.put,List.setIfInBounds_toArray,List.set_cons_zero,List.set_cons_succ])
  refine wpSegH_nil ?_
  refine wpAnyK_next ?_
  refine wpAnyK_done (by kernel_rfl) (NoPanic.normal ?_)
  go_upto_region 3 with fail
  refine wp_region_lexK (fun wx=>∃ nq,wx = World.drewN (w1) nq) 26 1 (Array.replicate 27 false) #[true,true,true,true,true,true,true,true,true,true,true,true,true,true,true,true,true,true,true,true,true,true,true,true,true,true,false] (by kernel_rfl) (by kernel_rfl) ?_
  refine wpAnyK_seg 0 26 _ #[true,true,true,true,true,true,true,true,true,true,true,true,true,true,true,true,true,true,true,true,true,true,true,true,true,true,false] 0 (by kernel_rfl) noPanic_put ((by first | exact ⟨3,rfl⟩ | exact ⟨_,rfl⟩)) (by kernel_rfl) ?_
  simp only [List.take_succ_cons,List.take_zero,List.drop_zero]
  repeat ((first | refine wpSegH_no (by rfl) ?_ | (refine wpSegH_yes (by rfl) ?_;apply Exists.intro;apply And.intro;(· (rintro wx ⟨nq,rfl⟩;go_simp;first | done | with_reducible rfl))));simp only [Act.put,List.setIfInBounds_toArray,List.set_cons_zero,List.set_cons_succ])
  refine wpSegH_nil ?_
  refine wpAnyK_next ?_
  refine wpAnyK_seq 26 (by kernel_rfl) ?_
  simp only [List.drop_succ_cons,List.drop_zero]
  go_wp2_with fail
  refine (HFn.out 3).mono ?_
  rintro r w3 ⟨rfl,h3,hf3⟩
  go_wp2_with fail
  refine NoPanic.normal ?_
  generalize hWf:W.fin x ((k:Int),b2,v) some_ = W3 at *
  have hg3:W3.gs.length = W.gs.length:=by rw [HGE.out];exact HG2.out
  have hC3:W3.Cs = W.Cs:=by rw [HGE.out]
  obtain ⟨R',o1,o2⟩:=own_chs h3 hf3
  have hpl:W3.Cs.length = (List.zip D.ps W3.Ns).length:=by rw [List.length_zip,hf3.c,hf3.n];omega
  have hlv:=Lib.hid (fun j=>leave_any (o1.step (below_dN w3 j)) hpl (by rw [hpl]) (k:Int) (by rw [hC3];exact HLim.out) (by rw [hC3];exact HCl.out))
  have HO2:Hid (∀ w',Own w0 w' (chs (List.zip D.ps W3.Ns) (W3.Cs.map (leF (k:Int))) ++ RowGA 1 D.ha D.hc W3.Cs.length (ptrs (List.zip D.ps W3.Ns)) :: R') → DAt w0 w' p T d (W3.leave (k:Int)) rd R ∧ w'.cell? ⟨bb,0,none⟩ = some (.int .i64 (k:Int))):=Lib.hid (fun w' h'=>by
   obtain ⟨k1,k2⟩:=o2 w' (W3.Cs.map (leF (k:Int))) (by simp) h'
   exact ⟨⟨D,ra,rc,k2,k1.unmid.drop⟩,(k1.cel 10 rfl 0 _ rfl).1⟩)
  have p3:=(h3.cel 0 rfl 3 _ rfl).1
  have q0:=(h3.cel 11 rfl 0 _ rfl).1
  have z0:=(h3.cel 10 rfl 0 _ rfl).1
  have HWk:Hid (∀ w',DAt w0 w' p T d (W3.leave (k:Int)) rd R → Calls Tryz.prog 129 #[.pointer (some ⟨d.q,0,none⟩),.int .i64 (k:Int)] w' fun r w''=>r = .returned (.tuple #[]) ∧ DAt w0 w'' p T d ((W3.leave (k:Int)).setSt k 1) (rd ++ [(k:Int)]) R) :=
   Lib.hid (fun w' h'=>dwake_any h' k (by show k < W3.gs.length;rw [hg3];exact HK8.out) (by show W3.gs.length ≤ 1000;rw [hg3];exact HG.out) hr)
  have HWf:=Lib.hid hWf
  clear o1 o2 h3 hf3 HFn hg3 hC3 hpl hWf HGE
  generalize W3.Cs.length = NC at *
  go_upto_region 4 with fail
  refine wp_region_lexK (fun wx=>∃ nq,wx = World.drewN (w3) nq) 9 1 (Array.replicate 10 false) #[true,true,true,true,true,true,true,true,true,false] (by kernel_rfl) (by kernel_rfl) ?_
  refine wpAnyK_seg 0 9 _ #[true,true,true,true,true,true,true,true,true,false] 0 (by kernel_rfl) noPanic_put ((by first | exact ⟨1,rfl⟩ | exact ⟨_,rfl⟩)) (by kernel_rfl) ?_
  simp only [List.take_succ_cons,List.take_zero,List.drop_zero]
  repeat ((first | refine wpSegH_no (by rfl) ?_ | (refine wpSegH_yes (by rfl) ?_;apply Exists.intro;apply And.intro;(· (rintro wx ⟨nq,rfl⟩;go_simp;first | done | with_reducible rfl))));simp only [Act.put,List.setIfInBounds_toArray,List.set_cons_zero,List.set_cons_succ])
  refine wpSegH_nil ?_
  refine wpAnyK_next ?_
  refine wpAnyK_seq 9 (by kernel_rfl) ?_
  simp only [List.drop_succ_cons,List.drop_zero]
  go_wp2_with fail
  refine (hlv.out 1).mono ?_
  rintro r w4 ⟨rfl,h4⟩
  have H4:=Lib.hid (HO2.out _ h4).1
  have hb4:=(HO2.out _ h4).2
  clear h4 HO2 hlv
  go_wp2_with fail
  refine NoPanic.normal ?_
  go_wp2_with fail
  refine (HWk.out _ H4.out).mono ?_
  rintro r w5 ⟨rfl,h5⟩
  have H5:=Lib.hid h5
  clear h5 H4 HWk
  go_wp2
  go_end0
  rw [HE.out]
  exact ⟨rfl,H5.out⟩
 ·have e:goOnM W rd ((k:Int),b2,v) some_ = (W,rd):=by unfold goOnM;simp only [Int.toNat_natCast];rw [if_neg hw]
  have HE:=Lib.hid e
  have HW:=Lib.hid (show DAt w0 (w.alloc (.cells #[.int .i64 (k:Int),.int .i64 b2,.int .i64 v] 211)) p T d W rd R from ⟨D,ra,rc,hf,hA.unmid.drop⟩)
  have ht:((W.g k).st == 2) = false:=by simpa using hw
  have ht2:((W.g k).st != 2) = true:=by simpa using hw
  have ht3:(!((W.g k).st == 2)) = true:=by simpa using hw
  generalize (W.g k).st = st at *
  clear hw e es hA h hins hlim hcl hf hg
  go_enter Tryz.func133,Tryz.ntmps133
  go_upto_region 1 with fail
  generalize w.alloc (.cells #[.int .i64 (k:Int),.int .i64 b2,.int .i64 v] 211) = w1 at *
  generalize w.heap.size = bb at *
  refine wp_region_lexK (fun wx=>∃ nq,wx = World.drewN (w1) nq) 8 0 (Array.replicate 8 false) #[true,true,true,true,true,true,true,true] (by kernel_rfl) (by kernel_rfl) ?_
  refine wpAnyK_seg 0 6 _ #[true,true,true,true,true,true,false,false] 2 (by kernel_rfl) noPanic_put (drew_q w1) (by kernel_rfl) ?_
  simp only [List.take_succ_cons,List.take_zero,List.drop_zero]
  repeat ((first | refine wpSegH_no (by rfl) ?_ | (refine wpSegH_yes (by rfl) ?_;apply Exists.intro;apply And.intro;(· (rintro wx ⟨nq,rfl⟩;go_simp;first | done | with_reducible rfl))));simp only [Act.put,List.setIfInBounds_toArray,List.set_cons_zero,List.set_cons_succ])
  refine wpSegH_nil ?_
  refine wpAnyK_one 6 _ #[true,true,true,true,true,true,true,false] 1 (by kernel_rfl) (fun K hK=>?_)
  have HKK:=Lib.hid hK
  clear hK
  simp only [List.drop_succ_cons,List.drop_zero]
  refine headH_mk (by rfl) ?_
  go_simp
  refine hst.out.mono ?_
  rintro r w2 ⟨rfl,rfl⟩
  refine HKK.out _ _ (drew_q w1) ?_
  clear HKK K
  refine wpAnyK_seg 7 1 _ #[true,true,true,true,true,true,true,true] 0 (by kernel_rfl) noPanic_put (drew_q w1) (by kernel_rfl) ?_
  simp only [List.take_succ_cons,List.take_zero,List.drop_succ_cons,List.drop_zero]
  repeat ((first | refine wpSegH_no (by rfl) ?_ | (refine wpSegH_yes (by rfl) ?_;apply Exists.intro;apply And.intro;(· (rintro wx ⟨nq,rfl⟩;go_simp;first | done | with_reducible rfl))));simp only [Act.put,List.setIfInBounds_toArray,List.set_cons_zero,List.set_cons_succ])
  refine wpSegH_nil ?_
  refine wpAnyK_next ?_
  refine wpAnyK_done (by kernel_rfl) (NoPanic.normal ?_)
  go_wp2
  exact bodyPost_ret (v:=.tuple #[]) (by simp [results,Tryz.results133]) rfl ⟨rfl,by rw [HE.out];exact HW.out.step (below_drew1 _)⟩
def TPost (w0:World) (p:Nat) (T:List Value) (d:Dq) (R:List Asr) (W:Wd) (rd:List Int) (o:Option Dd) (r:Ending) (w':World):Prop :=
 match o with
 | none=>r = .returned (.bool false) ∧ DAt w0 w' p T d W rd R
 | some m=>(r = match m.tr with
  | none=>.returned (.bool true)
  | some k=>trapE k) ∧ DAt w0 w' p T d m.W m.rd R
theorem top_own {w0 w:World} {p q:Nat} {W:Wd} {D:Wa} {T:List Value} {Y:List Asr} (h:Own w0 w (wparts p W D T ++ Y)) {g s cap:Nat} {cs:List Value} (hq:Blk w q (.pointer (some ⟨p,0,none⟩) :: .int .i64 (g:Int) :: cs)) (hg:g < W.gs.length) (hs:D.sk[g]? = some (s,cap)) (hm:1 ≤ (W.g g).n ∧ (W.g g).n ≤ 16) :
  Calls Tryz.prog 89 #[.pointer (some ⟨q,0,none⟩)] w fun r w'=>r = .returned (.pointer (some ⟨s,((W.g g).n - 1) * 11,none⟩)) ∧ ∃ k,w' = w.drewN k:=by
 obtain ⟨b,off,h1,-,-,-,-⟩:=all_at h hg hs
 exact dtop_any (topF_of h hq hg hs h1 hm)
theorem setCh_same (W:Wd) (i:Nat) (hi:i < W.Cs.length):W.setCh (i:Int) (W.ch (i:Int)) = W:=by
 unfold Wd.setCh
 rw [Int.toNat_natCast,set_self _ _ _ (Wd.ch_at hi)]
theorem mSend_err (N:Nat) (C:Ch) (v:Int):(mSend N C v).2.2.2 = 10 ∧ (mSend N C v).1 = C ∨ (mSend N C v).2.2.2 = 0 ∨ (mSend N C v).2.2.2 = 6 ∧ (mSend N C v).1 = C:=by
 unfold mSend
 split
 ·left;exact ⟨rfl,rfl⟩
 ·split
  ·right;left;rfl
  ·split
   ·right;left;rfl
   ·right;right;exact ⟨rfl,rfl⟩
structure SendOk (W:Wd) (rd:List Int) (g:Nat) (x:In4) (c:Cs3) (place:Int):Prop where
 c0:0 ≤ c.2.1 ∧ c.2.1 < (W.Cs.length:Int)
 cl:W.Cs.length ≤ 1000
 r:0 ≤ c.2.2 ∧ c.2.2 < 8
 lim:Lim 100000 W.Cs
 go:(mSend (W.Ns.getD c.2.1.toNat 0) (W.ch c.2.1) ((W.g g).rg c.2.2)).2.2.1 = true → GoOk (W.setCh c.2.1 (mSend (W.Ns.getD c.2.1.toNat 0) (W.ch c.2.1) ((W.g g).rg c.2.2)).1) (mSend (W.Ns.getD c.2.1.toNat 0) (W.ch c.2.1) ((W.g g).rg c.2.2)).2.1
 fin:(mSend (W.Ns.getD c.2.1.toNat 0) (W.ch c.2.1) ((W.g g).rg c.2.2)).2.2.2 = 0 → FinOk (if (mSend (W.Ns.getD c.2.1.toNat 0) (W.ch c.2.1) ((W.g g).rg c.2.2)).2.2.1 then goOnM (W.setCh c.2.1 (mSend (W.Ns.getD c.2.1.toNat 0) (W.ch c.2.1) ((W.g g).rg c.2.2)).1) rd (mSend (W.Ns.getD c.2.1.toNat 0) (W.ch c.2.1) ((W.g g).rg c.2.2)).2.1 true else (W.setCh c.2.1 (mSend (W.Ns.getD c.2.1.toNat 0) (W.ch c.2.1) ((W.g g).rg c.2.2)).1,rd)).1 x ((g:Int),place,0)
theorem dsend_any {w0 w:World} {p:Nat} {T:List Value} {d:Dq} {W:Wd} {rd:List Int} {R:List Asr} (h:DAt w0 w p T d W rd R) (hg:d.g < W.gs.length) (hm:1 ≤ (W.g d.g).n ∧ (W.g d.g).n ≤ 16) (c:Cs3) (place:Int) (ok:SendOk W rd d.g d.x c place) (hr:rd.length ≤ 1000) :
  Calls Tryz.prog 141 #[.pointer (some ⟨d.q,0,none⟩),.agg #[.int .i64 c.1,.int .i64 c.2.1,.int .i64 c.2.2],.int .i64 place] w fun r w'=>TPost w0 p T d R W rd (sendM W rd d.g d.x c place) r w':=by
 obtain ⟨D,ra,rc,hf,h⟩:=h
 obtain ⟨hc0,hcl,hreg,hlim,hgo,hfin⟩:=ok
 obtain ⟨k1,k2,k3⟩:=c
 simp only at *
 obtain ⟨i,rfl,hi8⟩:=nat_of (n:=W.Cs.length) hc0
 obtain ⟨a,rfl,ha8⟩:=nat_of (n:=8) hreg
 obtain ⟨v,hv⟩:∃ v,v = (W.g d.g).rg (a:Int):=⟨_,rfl⟩
 obtain ⟨m,hmm⟩:∃ m,m = (W.g d.g).n - 1:=⟨_,rfl⟩
 have hA:=(h.alloc [.int .i64 k1,.int .i64 (i:Int),.int .i64 (a:Int)] 119 (b:=w.heap.size) rfl).mid (L:=wparts p W D T)
 obtain ⟨s,cap,hs⟩:=hf.sk_at hg
 obtain ⟨pt,hb,ho,-,hpt,hha,-,-,-⟩:=own_chan hA hf hi8
 rw [Int.toNat_natCast] at *
 obtain ⟨N,hN⟩:∃ N,N = W.Ns.getD i 0:=⟨_,rfl⟩
 obtain ⟨C,hC⟩:∃ C,C = W.ch (i:Int):=⟨_,rfl⟩
 rw [← hN,← hC,← hv] at hgo hfin
 have e:sendM W rd d.g d.x (k1,(i:Int),(a:Int)) place = (if (mSend N C v).2.2.2 = 10 then some ⟨W,rd,some (-1)⟩ else if (mSend N C v).2.2.2 = 0 then (let y:=if (mSend N C v).2.2.1 then goOnM (W.setCh (i:Int) (mSend N C v).1) rd (mSend N C v).2.1 true else (W.setCh (i:Int) (mSend N C v).1,rd);some ⟨y.1.fin d.x ((d.g:Int),place,0) false,y.2,none⟩) else none):=by
  unfold sendM
  simp only [Int.toNat_natCast]
  rw [← hN,← hC,← hv]
 rw [e]
 have SB:∀ (W':Wd) (wx:World) (Z:List Asr),W'.gs = W.gs → W'.Cs.length = W.Cs.length → D.fits W' → Own w0 wx (wparts p W' D T ++ (CelA w.heap.size [.int .i64 k1,.int .i64 (i:Int),.int .i64 (a:Int)] :: CelA d.q (dcells p (d.g:Int) d.x d.th d.dr d.go ra rd.length rc) :: Z)) →
   wx.cell? ⟨d.q,0,none⟩ = some (.pointer (some ⟨p,0,none⟩)) ∧ wx.cell? ⟨p,3,none⟩ = some (.slice (some ⟨hb,ho,none⟩) W.Cs.length D.hc) ∧ wx.cell? ⟨hb,ho + i,none⟩ = some (.pointer (some ⟨pt,0,none⟩)) ∧ wx.cell? ⟨w.heap.size,1,none⟩ = some (.int .i64 (i:Int)) ∧ wx.cell? ⟨w.heap.size,2,none⟩ = some (.int .i64 (a:Int)) ∧ wx.cell? ⟨s,m * 11 + 2 + a,none⟩ = some (.int .i64 v):=by
  intro W' wx Z hgs hcs hf' hx
  have hp3:=(hx.cel 0 rfl 3 _ rfl).1
  rw [hha,hcs] at hp3
  obtain ⟨pt',hb',ho',R',h0,h1,h2,-,-⟩:=own_chan hx hf' (i:=i) (by rw [hcs];exact hi8)
  rw [hha] at h1
  rw [hpt] at h0
  simp only [Option.some.injEq,Addr.mk.injEq,and_true] at h0 h1
  obtain ⟨rfl,rfl⟩:=h1
  subst h0
  have hgg:W'.g d.g = W.g d.g:=by unfold Wd.g;rw [hgs]
  have hrg:=(reg_at (stk_at hx (by rw [hgs];exact hg) hs).1 (by rw [hgg];exact hm.1) a ha8).1
  rw [hgg,← hmm,← hv] at hrg
  exact ⟨(hx.cel 11 rfl 0 _ rfl).1,hp3,h2,(hx.cel 10 rfl 1 _ rfl).1,(hx.cel 10 rfl 2 _ rfl).1,hrg⟩
 have HTop:Hid (∀ (wx:World) (Z:List Asr),Own w0 wx (wparts p W D T ++ (CelA w.heap.size [.int .i64 k1,.int .i64 (i:Int),.int .i64 (a:Int)] :: CelA d.q (dcells p (d.g:Int) d.x d.th d.dr d.go ra rd.length rc) :: Z)) →
   Calls Tryz.prog 89 #[.pointer (some ⟨d.q,0,none⟩)] wx fun r w'=>r = .returned (.pointer (some ⟨s,m * 11,none⟩)) ∧ ∃ k,w' = wx.drewN k):=Lib.hid (fun wx Z hx=>by
  rw [hmm];exact top_own hx (hx.cel 11 rfl) hg hs hm)
 have HTop2:Hid (∀ (wx:World) (A:Asr) (Z:List Asr),Own w0 wx (wparts p W D T ++ (A :: CelA w.heap.size [.int .i64 k1,.int .i64 (i:Int),.int .i64 (a:Int)] :: CelA d.q (dcells p (d.g:Int) d.x d.th d.dr d.go ra rd.length rc) :: Z)) →
   Calls Tryz.prog 89 #[.pointer (some ⟨d.q,0,none⟩)] wx fun r w'=>r = .returned (.pointer (some ⟨s,m * 11,none⟩)) ∧ ∃ k,w' = wx.drewN k):=Lib.hid (fun wx A Z hx=>by
  rw [hmm];exact top_own hx (hx.cel 12 rfl) hg hs hm)
 have HSnd:Hid (∀ (wx:World) (Z:List Asr),Own w0 wx (wparts p W D T ++ Z) → Calls Tryz.prog 151 #[.pointer (some ⟨pt,0,none⟩),.int .i64 v] wx fun r w'=>r = .returned (.tuple #[wv (mSend N C v).2.1,.bool (mSend N C v).2.2.1,.int .i64 (mSend N C v).2.2.2]) ∧ Own w0 w' (wparts p (W.setCh (i:Int) (mSend N C v).1) D T ++ Z) ∧ D.fits (W.setCh (i:Int) (mSend N C v).1)):=Lib.hid (fun wx Z hx=>by
  obtain ⟨pt',hb',ho',R',h0,-,-,h3,h4⟩:=own_chan hx hf hi8
  rw [hpt] at h0
  simp only [Option.some.injEq] at h0
  subst h0
  rw [← hN,← hC] at h3
  rw [← hN] at h4
  have hL:=hlim _ (List.mem_of_getElem? (Wd.ch_at hi8))
  rw [← hC] at hL
  exact (csend_any h3 v hL.1 hL.2.2).mono (fun r w' hh=>⟨hh.1,h4 _ _ hh.2⟩))
 have hW1:∀ C',(W.setCh (i:Int) C').gs = W.gs ∧ (W.setCh (i:Int) C').Cs.length = W.Cs.length:=fun C'=>⟨rfl,by unfold Wd.setCh;simp⟩
 have hsame:=setCh_same W i hi8
 rw [← hC] at hsame
 have herr:=mSend_err N C v
 generalize mSend N C v = M at *
 obtain ⟨C1,⟨r1,r2,r3⟩,wk,er⟩:=M
 unfold wv at HSnd
 simp only at *
 obtain ⟨W1,hWe⟩:∃ W1,W1 = W.setCh (i:Int) C1:=⟨_,rfl⟩
 rw [← hWe] at hgo hfin HSnd ⊢
 have HS0:=Lib.hid (SB W · · rfl rfl hf)
 have hf1:D.fits W1:=by rw [hWe];exact ⟨hf.f,hf.g,by simp [hf.c,Wd.setCh],by simp [hf.n,Wd.setCh],hf.l,hf.k⟩
 have HS1:=Lib.hid (SB W1 · · (by rw [hWe];exact (hW1 C1).1) (by rw [hWe];exact (hW1 C1).2) hf1)
 have HA:=Lib.hid hA
 have HF:=Lib.hid hf
 have HF1:=Lib.hid hf1
 have HWe:=Lib.hid hWe
 have HSame:=Lib.hid hsame
 have HErr:=Lib.hid herr
 have HGo:=Lib.hid hgo
 have HFi:=Lib.hid hfin
 have i0:(0:Int) ≤ (i:Int):=by omega
 have i8:(i:Int) < (W.Cs.length:Int):=by omega
 have a0:(0:Int) ≤ (a:Int):=by omega
 have a8:(a:Int) < 8:=by omega
 obtain ⟨NC,hNC⟩:∃ NC,NC = W.Cs.length:=⟨_,rfl⟩
 rw [← hNC] at HS0 HS1 i8
 generalize hoe:(if er = 10 then some (Dd.mk W rd (some (-1))) else if er = 0 then (let y:=if wk then goOnM W1 rd (r1,r2,r3) true else (W1,rd);some (Dd.mk (y.1.fin d.x ((d.g:Int),place,0) false) y.2 none)) else none) = o
 have HOE:=Lib.hid hoe
 have HRD:=Lib.hid hr
 clear hA h hf hf1 hWe hsame herr hgo hfin SB hW1 hoe hN hC hv hmm hha hpt hs hi8 hlim hcl hc0 hg hm hNC e hreg
 go_enter Tryz.func141,Tryz.ntmps141
 go_upto_region 1 with fail
 generalize w.alloc (.cells #[.int .i64 k1,.int .i64 (i:Int),.int .i64 (a:Int)] 119) = w1 at *
 generalize w.heap.size = bc at *
 go_cut [7,8,9] (fun s7 s8 s9 wx=>∃ b7,s7 = .pointer (some ⟨b7,0,none⟩) ∧ s8 = .bool wk ∧ s9 = .int .i64 er ∧ Own w0 wx (wparts p W1 D T ++ (CelA b7 [.int .i64 r1,.int .i64 r2,.int .i64 r3] :: CelA bc [.int .i64 k1,.int .i64 (i:Int),.int .i64 (a:Int)] :: CelA d.q (dcells p (d.g:Int) d.x d.th d.dr d.go ra rd.length rc) :: RowGA 1 ra rc rd.length (intc rd) :: R)))
 case first =>
  have o1:=HA.out.step (below_drew1 _)
  refine wp_region_lexH (fun wx=>wx.cell? ⟨d.q,0,none⟩ = some (.pointer (some ⟨p,0,none⟩)) ∧ wx.cell? ⟨p,3,none⟩ = some (.slice (some ⟨hb,ho,none⟩) NC D.hc) ∧ wx.cell? ⟨hb,ho + i,none⟩ = some (.pointer (some ⟨pt,0,none⟩)) ∧ wx.cell? ⟨bc,1,none⟩ = some (.int .i64 (i:Int)) ∧ wx.cell? ⟨bc,2,none⟩ = some (.int .i64 (a:Int)) ∧ wx.cell? ⟨s,m * 11 + 2 + a,none⟩ = some (.int .i64 v)) 28 (Array.replicate 28 false) (by kernel_rfl) (by kernel_rfl) ?_
  refine wpAnyH_seg 0 12 _ #[true,true,true,true,true,true,true,true,true,true,true,true,false,false,false,false,false,false,false,false,false,false,false,false,false,false,false,false] 16 (by kernel_rfl) noPanic_put (HS0.out _ _ o1) (by kernel_rfl) ?_
  simp only [List.take_succ_cons,List.take_zero,List.drop_zero]
  repeat ((first | refine wpSegH_no (by rfl) ?_ | (refine wpSegH_yes (by rfl) ?_;apply Exists.intro;apply And.intro;(· (intro wx hS;(try dsimp only at hS);go_simp;first | done | with_reducible rfl))));simp only [Act.put,List.setIfInBounds_toArray,List.set_cons_zero,List.set_cons_succ])
  refine wpSegH_nil ?_
  refine wpAnyH_seg 13 2 _ #[true,true,true,true,true,true,true,true,true,true,true,true,false,true,true,false,false,false,false,false,false,false,false,false,false,false,false,false] 14 (by kernel_rfl) noPanic_put (HS0.out _ _ o1) (by kernel_rfl) ?_
  simp only [List.take_succ_cons,List.take_zero,List.drop_succ_cons,List.drop_zero]
  repeat ((first | refine wpSegH_no (by rfl) ?_ | (refine wpSegH_yes (by rfl) ?_;apply Exists.intro;apply And.intro;(· (intro wx hS;(try dsimp only at hS);go_simp;first | done | with_reducible rfl))));simp only [Act.put,List.setIfInBounds_toArray,List.set_cons_zero,List.set_cons_succ])
  refine wpSegH_nil ?_
  refine wpAnyH_two 12 24 _ #[true,true,true,true,true,true,true,true,true,true,true,true,true,true,true,false,false,false,false,false,false,false,false,false,false,false,false,false] #[true,true,true,true,true,true,true,true,true,true,true,true,false,true,true,false,false,false,false,false,false,false,false,false,true,false,false,false] 13 (by kernel_rfl) (fun K hK=>?_) (fun K hK=>?_)
  ·skip
   have HKK:=Lib.hid hK
   clear hK
   simp only [List.drop_succ_cons,List.drop_zero]
   refine headH_mk (by rfl) ?_
   go_simp
   refine (HTop.out _ _ o1).mono ?_
   rintro r w2 ⟨rfl,k2,hw2⟩
   have o2:=o1.q1 hw2
   clear hw2
   refine HKK.out _ _ (HS0.out _ _ o2) ?_
   clear HKK K
   refine wpAnyH_seg 15 4 _ #[true,true,true,true,true,true,true,true,true,true,true,true,true,true,true,true,true,true,true,false,false,false,false,false,false,false,false,false] 9 (by kernel_rfl) noPanic_put (HS0.out _ _ o2) (by kernel_rfl) ?_
   simp only [List.take_succ_cons,List.take_zero,List.drop_succ_cons,List.drop_zero]
   repeat ((first | refine wpSegH_no (by rfl) ?_ | (refine wpSegH_yes (by rfl) ?_;apply Exists.intro;apply And.intro;(· (intro wx hS;(try dsimp only at hS);go_simp;first | done | with_reducible rfl))));simp only [Act.put,List.setIfInBounds_toArray,List.set_cons_zero,List.set_cons_succ])
   refine wpSegH_nil ?_
   refine wpAnyH_two 19 24 _ #[true,true,true,true,true,true,true,true,true,true,true,true,true,true,true,true,true,true,true,true,false,false,false,false,false,false,false,false] #[true,true,true,true,true,true,true,true,true,true,true,true,true,true,true,true,true,true,true,false,false,false,false,false,true,false,false,false] 8 (by kernel_rfl) (fun K hK=>?_) (fun K hK=>?_)
   ·skip
    have HKK:=Lib.hid hK
    clear hK
    simp only [List.drop_succ_cons,List.drop_zero]
    refine headH_mk (by rfl) ?_
    go_simp
    refine (HSnd.out _ _ o2).mono ?_
    rintro r w3 ⟨rfl,o3,-⟩
    refine HKK.out _ _ (HS1.out _ _ o3) ?_
    clear HKK K
    refine wpAnyH_seg 20 4 _ #[true,true,true,true,true,true,true,true,true,true,true,true,true,true,true,true,true,true,true,true,true,true,true,true,false,false,false,false] 4 (by kernel_rfl) noPanic_put (HS1.out _ _ o3) (by kernel_rfl) ?_
    simp only [List.take_succ_cons,List.take_zero,List.drop_succ_cons,List.drop_zero]
    repeat ((first | refine wpSegH_no (by rfl) ?_ | (refine wpSegH_yes (by rfl) ?_;apply Exists.intro;apply And.intro;(· (intro wx hS;(try dsimp only at hS);go_simp;first | done | with_reducible rfl))));simp only [Act.put,List.setIfInBounds_toArray,List.set_cons_zero,List.set_cons_succ])
    refine wpSegH_nil ?_
    have o4:=o3.alloc [.int .i64 0,.int .i64 0,.int .i64 0] 211 (b:=w3.heap.size) rfl
    refine wpAnyH_one 24 _ #[true,true,true,true,true,true,true,true,true,true,true,true,true,true,true,true,true,true,true,true,true,true,true,true,true,false,false,false] 3 (by kernel_rfl) (fun K hK=>?_)
    have HKK:=Lib.hid hK
    clear hK
    simp only [List.drop_succ_cons,List.drop_zero]
    refine headH_mk (by rfl) ?_
    go_simp
    refine HKK.out _ _ (HS1.out _ _ o4.drop) ?_
    clear HKK K
    have o5:=o3.alloc [.int .i64 r1,.int .i64 r2,.int .i64 r3] 211 (b:=w3.heap.size) rfl
    refine wpAnyH_one 25 _ #[true,true,true,true,true,true,true,true,true,true,true,true,true,true,true,true,true,true,true,true,true,true,true,true,true,true,false,false] 2 (by kernel_rfl) (fun K hK=>?_)
    have HKK:=Lib.hid hK
    clear hK
    simp only [List.drop_succ_cons,List.drop_zero]
    refine headH_mk (by rfl) ?_
    go_simp
    refine HKK.out _ _ (HS1.out _ _ o5.drop) ?_
    clear HKK K
    refine wpAnyH_seg 26 2 _ #[true,true,true,true,true,true,true,true,true,true,true,true,true,true,true,true,true,true,true,true,true,true,true,true,true,true,true,true] 0 (by kernel_rfl) noPanic_put (HS1.out _ _ o5.drop) (by kernel_rfl) ?_
    simp only [List.take_succ_cons,List.take_zero,List.drop_succ_cons,List.drop_zero]
    repeat ((first | refine wpSegH_no (by rfl) ?_ | (refine wpSegH_yes (by rfl) ?_;apply Exists.intro;apply And.intro;(· (intro wx hS;(try dsimp only at hS);go_simp;first | done | with_reducible rfl))));simp only [Act.put,List.setIfInBounds_toArray,List.set_cons_zero,List.set_cons_succ])
    refine wpSegH_nil ?_
    refine wpAnyH_done (by kernel_rfl) (NoPanic.normal ?_) _
    go_wp2_with fail
    go_meet
    exact ⟨_,rfl,rfl,rfl,o5.mid⟩
   ·skip
    have o3:=(o2.alloc [.int .i64 0,.int .i64 0,.int .i64 0] 211 (b:=w2.heap.size) rfl).mid
    have hlt:=World.block_lt_of_cell? _ _ (o3.cel 10 rfl 0 _ rfl).1
    have HKK:=Lib.hid hK
    clear hK
    simp only [List.drop_succ_cons,List.drop_zero]
    refine headH_mk (by rfl) ?_
    go_simp
    refine HKK.out _ _ (HS0.out _ _ o3.unmid.drop) ?_
    clear HKK K
    refine wpAnyH_one 19 _ #[true,true,true,true,true,true,true,true,true,true,true,true,true,true,true,true,true,true,true,true,false,false,false,false,true,false,false,false] 7 (by kernel_rfl) (fun K hK=>?_)
    have HKK:=Lib.hid hK
    clear hK
    simp only [List.drop_succ_cons,List.drop_zero]
    refine headH_mk (by rfl) ?_
    go_simp
    refine (HSnd.out _ _ o3).mono ?_
    rintro r w3 ⟨rfl,o4,-⟩
    refine HKK.out _ _ (HS1.out _ _ o4.unmid.drop) ?_
    clear HKK K
    refine wpAnyH_seg 20 4 _ #[true,true,true,true,true,true,true,true,true,true,true,true,true,true,true,true,true,true,true,true,true,true,true,true,true,false,false,false] 3 (by kernel_rfl) noPanic_put (HS1.out _ _ o4.unmid.drop) (by kernel_rfl) ?_
    simp only [List.take_succ_cons,List.take_zero,List.drop_succ_cons,List.drop_zero]
    repeat ((first | refine wpSegH_no (by rfl) ?_ | (refine wpSegH_yes (by rfl) ?_;apply Exists.intro;apply And.intro;(· (intro wx hS;(try dsimp only at hS);go_simp;first | done | with_reducible rfl))));simp only [Act.put,List.setIfInBounds_toArray,List.set_cons_zero,List.set_cons_succ])
    refine wpSegH_nil ?_
    obtain ⟨z0,f0⟩:=o4.cel 10 rfl 0 _ rfl
    obtain ⟨z1,f1⟩:=o4.cel 10 rfl 1 _ rfl
    obtain ⟨z2,f2⟩:=o4.cel 10 rfl 2 _ rfl
    have o5:=((o4.unmid.set 0 (.int .i64 r1)).set 1 (.int .i64 r2)).set 2 (.int .i64 r3)
    refine wpAnyH_one 25 _ #[true,true,true,true,true,true,true,true,true,true,true,true,true,true,true,true,true,true,true,true,true,true,true,true,true,true,false,false] 2 (by kernel_rfl) (fun K hK=>?_)
    have HKK:=Lib.hid hK
    clear hK
    simp only [List.drop_succ_cons,List.drop_zero]
    refine headH_mk (by rfl) ?_
    go_simp
    refine HKK.out _ _ (HS1.out _ _ o5.drop) ?_
    clear HKK K
    refine wpAnyH_seg 26 2 _ #[true,true,true,true,true,true,true,true,true,true,true,true,true,true,true,true,true,true,true,true,true,true,true,true,true,true,true,true] 0 (by kernel_rfl) noPanic_put (HS1.out _ _ o5.drop) (by kernel_rfl) ?_
    simp only [List.take_succ_cons,List.take_zero,List.drop_succ_cons,List.drop_zero]
    repeat ((first | refine wpSegH_no (by rfl) ?_ | (refine wpSegH_yes (by rfl) ?_;apply Exists.intro;apply And.intro;(· (intro wx hS;(try dsimp only at hS);go_simp;first | done | with_reducible rfl))));simp only [Act.put,List.setIfInBounds_toArray,List.set_cons_zero,List.set_cons_succ])
    refine wpSegH_nil ?_
    refine wpAnyH_done (by kernel_rfl) (NoPanic.normal ?_) _
    go_wp2_with fail
    go_meet
    exact ⟨_,rfl,rfl,rfl,o5.mid⟩
  ·skip
   have o2:=(o1.alloc [.int .i64 0,.int .i64 0,.int .i64 0] 211 (b:=w1.heap.size) rfl).mid
   have hlt:=World.block_lt_of_cell? _ _ (o2.cel 10 rfl 0 _ rfl).1
   have HKK:=Lib.hid hK
   clear hK
   simp only [List.drop_succ_cons,List.drop_zero]
   refine headH_mk (by rfl) ?_
   go_simp
   refine HKK.out _ _ (HS0.out _ _ o2.unmid.drop) ?_
   clear HKK K
   refine wpAnyH_one 12 _ #[true,true,true,true,true,true,true,true,true,true,true,true,true,true,true,false,false,false,false,false,false,false,false,false,true,false,false,false] 12 (by kernel_rfl) (fun K hK=>?_)
   have HKK:=Lib.hid hK
   clear hK
   simp only [List.drop_succ_cons,List.drop_zero]
   refine headH_mk (by rfl) ?_
   go_simp
   refine (HTop2.out _ _ _ o2).mono ?_
   rintro r w2 ⟨rfl,k2,hw2⟩
   have o3:=o2.q1 hw2
   clear hw2
   refine HKK.out _ _ (HS0.out _ _ o3.unmid.drop) ?_
   clear HKK K
   refine wpAnyH_seg 15 4 _ #[true,true,true,true,true,true,true,true,true,true,true,true,true,true,true,true,true,true,true,false,false,false,false,false,true,false,false,false] 8 (by kernel_rfl) noPanic_put (HS0.out _ _ o3.unmid.drop) (by kernel_rfl) ?_
   simp only [List.take_succ_cons,List.take_zero,List.drop_succ_cons,List.drop_zero]
   repeat ((first | refine wpSegH_no (by rfl) ?_ | (refine wpSegH_yes (by rfl) ?_;apply Exists.intro;apply And.intro;(· (intro wx hS;(try dsimp only at hS);go_simp;first | done | with_reducible rfl))));simp only [Act.put,List.setIfInBounds_toArray,List.set_cons_zero,List.set_cons_succ])
   refine wpSegH_nil ?_
   refine wpAnyH_one 19 _ #[true,true,true,true,true,true,true,true,true,true,true,true,true,true,true,true,true,true,true,true,false,false,false,false,true,false,false,false] 7 (by kernel_rfl) (fun K hK=>?_)
   have HKK:=Lib.hid hK
   clear hK
   simp only [List.drop_succ_cons,List.drop_zero]
   refine headH_mk (by rfl) ?_
   go_simp
   refine (HSnd.out _ _ o3).mono ?_
   rintro r w3 ⟨rfl,o4,-⟩
   refine HKK.out _ _ (HS1.out _ _ o4.unmid.drop) ?_
   clear HKK K
   refine wpAnyH_seg 20 4 _ #[true,true,true,true,true,true,true,true,true,true,true,true,true,true,true,true,true,true,true,true,true,true,true,true,true,false,false,false] 3 (by kernel_rfl) noPanic_put (HS1.out _ _ o4.unmid.drop) (by kernel_rfl) ?_
   simp only [List.take_succ_cons,List.take_zero,List.drop_succ_cons,List.drop_zero]
   repeat ((first | refine wpSegH_no (by rfl) ?_ | (refine wpSegH_yes (by rfl) ?_;apply Exists.intro;apply And.intro;(· (intro wx hS;(try dsimp only at hS);go_simp;first | done | with_reducible rfl))));simp only [Act.put,List.setIfInBounds_toArray,List.set_cons_zero,List.set_cons_succ])
   refine wpSegH_nil ?_
   obtain ⟨z0,f0⟩:=o4.cel 10 rfl 0 _ rfl
   obtain ⟨z1,f1⟩:=o4.cel 10 rfl 1 _ rfl
   obtain ⟨z2,f2⟩:=o4.cel 10 rfl 2 _ rfl
   have o5:=((o4.unmid.set 0 (.int .i64 r1)).set 1 (.int .i64 r2)).set 2 (.int .i64 r3)
   refine wpAnyH_one 25 _ #[true,true,true,true,true,true,true,true,true,true,true,true,true,true,true,true,true,true,true,true,true,true,true,true,true,true,false,false] 2 (by kernel_rfl) (fun K hK=>?_)
   have HKK:=Lib.hid hK
   clear hK
   simp only [List.drop_succ_cons,List.drop_zero]
   refine headH_mk (by rfl) ?_
   go_simp
   refine HKK.out _ _ (HS1.out _ _ o5.drop) ?_
   clear HKK K
   refine wpAnyH_seg 26 2 _ #[true,true,true,true,true,true,true,true,true,true,true,true,true,true,true,true,true,true,true,true,true,true,true,true,true,true,true,true] 0 (by kernel_rfl) noPanic_put (HS1.out _ _ o5.drop) (by kernel_rfl) ?_
   simp only [List.take_succ_cons,List.take_zero,List.drop_succ_cons,List.drop_zero]
   repeat ((first | refine wpSegH_no (by rfl) ?_ | (refine wpSegH_yes (by rfl) ?_;apply Exists.intro;apply And.intro;(· (intro wx hS;(try dsimp only at hS);go_simp;first | done | with_reducible rfl))));simp only [Act.put,List.setIfInBounds_toArray,List.set_cons_zero,List.set_cons_succ])
   refine wpSegH_nil ?_
   refine wpAnyH_done (by kernel_rfl) (NoPanic.normal ?_) _
   go_wp2_with fail
   go_meet
   exact ⟨_,rfl,rfl,rfl,o5.mid⟩
 case rest =>
  obtain ⟨b7,rfl,rfl,rfl,ho⟩:=hcut
  have z0:=(ho.cel 10 rfl 0 _ rfl).1
  have z1:=(ho.cel 10 rfl 1 _ rfl).1
  have z2:=(ho.cel 10 rfl 2 _ rfl).1
  have HD:Hid (DAt w0 wc p T d W1 rd R):=Lib.hid ⟨D,ra,rc,HF1.out,ho.unmid.drop.unmid.drop⟩
  clear ho HA HTop HTop2 HSnd HS0 HS1
  rcases HErr.out with ⟨h1,h2⟩ | h1 | ⟨h1,h2⟩
  ·subst h1
   have hW:W1 = W:=by rw [HWe.out,h2];exact HSame.out
   have ho:o = some ⟨W,rd,some (-1)⟩:=by rw [← HOE.out,if_pos rfl]
   have HO:=Lib.hid ho
   have HD2:Hid (DAt w0 wc p T d W rd R):=Lib.hid (by rw [← hW];exact HD.out)
   clear HOE HGo HFi hW ho HD h2
   go_wp2
   exact ⟨rfl,by rw [HO.out];exact ⟨rfl,HD2.out⟩⟩
  ·subst h1
   obtain ⟨y,hy⟩:∃ y,y = (if wk then goOnM W1 rd (r1,r2,r3) true else (W1,rd)):=⟨_,rfl⟩
   have ho:o = some ⟨y.1.fin d.x ((d.g:Int),place,0) false,y.2,none⟩:=by rw [← HOE.out,if_neg (by decide),if_pos rfl,← hy]
   have hfi:=HFi.out rfl
   rw [← hy] at hfi
   have HO:=Lib.hid ho
   have HY:=Lib.hid hy
   have HFi2:=Lib.hid hfi
   clear HOE HFi ho hy hfi
   go_upto_if 39 with fail
   go_cut [] (fun wx=>DAt w0 wx p T d y.1 y.2 R)
   case first =>
    cases wk with
    | true =>
     go_wp2_with fail
     refine (dgo_any HD.out (r1,r2,r3) true (HGo.out (by first | rfl | trivial)) (by have:=HRD.out;omega)).mono ?_
     rintro r w2 ⟨rfl,h2⟩
     have H2:=Lib.hid h2
     clear h2
     go_wp2_with fail
     go_meet
     rw [HY.out]
     exact H2.out
    | false =>
     go_wp2_with fail
     go_meet
     rw [HY.out]
     exact HD.out
   case rest =>
    have HC:=Lib.hid hcut
    obtain ⟨D2,ra2,rc2,hf2,h2⟩:=hcut
    have q0:=(h2.cel 10 rfl 0 _ rfl).1
    have q1:=(h2.cel 10 rfl 1 _ rfl).1
    have q2:=(h2.cel 10 rfl 2 _ rfl).1
    have q3:=(h2.cel 10 rfl 3 _ rfl).1
    have q4:=(h2.cel 10 rfl 4 _ rfl).1
    have q5:=(h2.cel 10 rfl 5 _ rfl).1
    have HN:=Lib.hid (fun j=>fin_any false (h2.step (below_dN wc j)) hf2 HFi2.out)
    unfold wv at HN
    simp only at HN
    clear h2 hf2 HC HGo HErr HD z0 z1 z2
    go_upto_region 8 with fail
    refine wp_region_lexK (fun wx=>∃ nq,wx = World.drewN (wc) nq) 14 1 (Array.replicate 15 false) #[true,true,true,true,true,true,true,true,true,true,true,true,true,true,false] (by kernel_rfl) (by kernel_rfl) ?_
    refine wpAnyK_seg 0 14 _ #[true,true,true,true,true,true,true,true,true,true,true,true,true,true,false] 0 (by kernel_rfl) noPanic_put (drew_q wc) (by kernel_rfl) ?_
    simp only [List.take_succ_cons,List.take_zero,List.drop_zero]
    repeat ((first | refine wpSegH_no (by rfl) ?_ | (refine wpSegH_yes (by rfl) ?_;apply Exists.intro;apply And.intro;(· (rintro wx ⟨nq,rfl⟩;go_simp;first | done | with_reducible rfl))));simp only [Act.put,List.setIfInBounds_toArray,List.set_cons_zero,List.set_cons_succ])
    refine wpSegH_nil ?_
    refine wpAnyK_next ?_
    refine wpAnyK_seq 14 (by kernel_rfl) ?_
    simp only [List.drop_succ_cons,List.drop_zero]
    go_wp2_with fail
    refine (HN.out 1).mono ?_
    rintro r w3 ⟨rfl,h3,hf3⟩
    have H3:Hid (DAt w0 w3 p T d (y.1.fin d.x ((d.g:Int),place,0) false) y.2 R):=Lib.hid ⟨D2,ra2,rc2,hf3,h3⟩
    clear h3 hf3 HN
    go_wp2_with fail
    refine NoPanic.normal ?_
    go_wp2
    go_ret
    rw [HO.out]
    exact ⟨rfl,H3.out⟩
  ·subst h1
   have hW:W1 = W:=by rw [HWe.out,h2];exact HSame.out
   have ho:o = none:=by rw [← HOE.out,if_neg (by decide),if_neg (by decide)]
   have HO:=Lib.hid ho
   have HD2:Hid (DAt w0 wc p T d W rd R):=Lib.hid (by rw [← hW];exact HD.out)
   clear HOE HGo HFi hW ho HD h2
   go_wp2
   go_ret
   rw [HO.out]
   exact ⟨rfl,HD2.out⟩
theorem mRecv_err (C:Ch):(mRecv C).2.2 = 0 ∨ (mRecv C).2.2 = 5 ∧ (mRecv C).1 = C:=by
 unfold mRecv
 cases C.S with
 | cons x t=>left;simp only;split <;> rfl
 | nil =>
  cases hb:C.buf with
  | cons y b=>left;rfl
  | nil =>
   cases hc:C.cl with
   | true=>left;simp
   | false=>right;simp
structure RecvOk (W:Wd) (rd:List Int) (g:Nat) (x:In4) (c:Cs3) (place:Int):Prop where
 c0:0 ≤ c.2.1 ∧ c.2.1 < (W.Cs.length:Int)
 cl:W.Cs.length ≤ 1000
 lim:Lim 100000 W.Cs
 go:(mRecv (W.ch c.2.1)).2.1.2.2.2 = true → GoOk (W.setCh c.2.1 (mRecv (W.ch c.2.1)).1) (mRecv (W.ch c.2.1)).2.1.2.2.1
 fin:(mRecv (W.ch c.2.1)).2.2 = 0 → FinOk (if (mRecv (W.ch c.2.1)).2.1.2.2.2 then goOnM (W.setCh c.2.1 (mRecv (W.ch c.2.1)).1) rd (mRecv (W.ch c.2.1)).2.1.2.2.1 false else (W.setCh c.2.1 (mRecv (W.ch c.2.1)).1,rd)).1 x ((g:Int),place,(mRecv (W.ch c.2.1)).2.1.1)
theorem drecv_any {w0 w:World} {p:Nat} {T:List Value} {d:Dq} {W:Wd} {rd:List Int} {R:List Asr} (h:DAt w0 w p T d W rd R) (c:Cs3) (place:Int) (ok:RecvOk W rd d.g d.x c place) (hr:rd.length ≤ 1000) :
  Calls Tryz.prog 142 #[.pointer (some ⟨d.q,0,none⟩),.agg #[.int .i64 c.1,.int .i64 c.2.1,.int .i64 c.2.2],.int .i64 place] w fun r w'=>TPost w0 p T d R W rd (recvM W rd d.g d.x c place) r w':=by
 obtain ⟨D,ra,rc,hf,h⟩:=h
 obtain ⟨hc0,hcl,hlim,hgo,hfin⟩:=ok
 obtain ⟨k1,k2,k3⟩:=c
 simp only at *
 obtain ⟨i,rfl,hi8⟩:=nat_of (n:=W.Cs.length) hc0
 have hA:=(h.alloc [.int .i64 k1,.int .i64 (i:Int),.int .i64 k3] 119 (b:=w.heap.size) rfl).mid (L:=wparts p W D T)
 obtain ⟨pt,hb,ho,-,hpt,hha,-,-,-⟩:=own_chan hA hf hi8
 obtain ⟨C,hC⟩:∃ C,C = W.ch (i:Int):=⟨_,rfl⟩
 rw [← hC] at hgo hfin
 have e:recvM W rd d.g d.x (k1,(i:Int),k3) place = (if (mRecv C).2.2 = 0 then (let y:=if (mRecv C).2.1.2.2.2 then goOnM (W.setCh (i:Int) (mRecv C).1) rd (mRecv C).2.1.2.2.1 false else (W.setCh (i:Int) (mRecv C).1,rd);some ⟨y.1.fin d.x ((d.g:Int),place,(mRecv C).2.1.1) (mRecv C).2.1.2.1,y.2,none⟩) else none):=by
  unfold recvM
  simp only
  rw [← hC]
 rw [e]
 have SB:∀ (W':Wd) (wx:World) (Z:List Asr),W'.Cs.length = W.Cs.length → D.fits W' → Own w0 wx (wparts p W' D T ++ (CelA w.heap.size [.int .i64 k1,.int .i64 (i:Int),.int .i64 k3] :: CelA d.q (dcells p (d.g:Int) d.x d.th d.dr d.go ra rd.length rc) :: Z)) →
   wx.cell? ⟨d.q,0,none⟩ = some (.pointer (some ⟨p,0,none⟩)) ∧ wx.cell? ⟨p,3,none⟩ = some (.slice (some ⟨hb,ho,none⟩) W.Cs.length D.hc) ∧ wx.cell? ⟨hb,ho + i,none⟩ = some (.pointer (some ⟨pt,0,none⟩)) ∧ wx.cell? ⟨w.heap.size,1,none⟩ = some (.int .i64 (i:Int)):=by
  intro W' wx Z hcs hf' hx
  have hp3:=(hx.cel 0 rfl 3 _ rfl).1
  rw [hha,hcs] at hp3
  obtain ⟨pt',hb',ho',R',h0,h1,h2,-,-⟩:=own_chan hx hf' (i:=i) (by rw [hcs];exact hi8)
  rw [hha] at h1
  rw [hpt] at h0
  simp only [Option.some.injEq,Addr.mk.injEq,and_true] at h0 h1
  obtain ⟨rfl,rfl⟩:=h1
  subst h0
  exact ⟨(hx.cel 11 rfl 0 _ rfl).1,hp3,h2,(hx.cel 10 rfl 1 _ rfl).1⟩
 have HSnd:Hid (∀ (wx:World) (Z:List Asr),Own w0 wx (wparts p W D T ++ Z) → Calls Tryz.prog 152 #[.pointer (some ⟨pt,0,none⟩)] wx fun r w'=>r = .returned (.tuple #[gotC (mRecv C).2.1.1 (mRecv C).2.1.2.1 (mRecv C).2.1.2.2.1 (mRecv C).2.1.2.2.2,.int .i64 (mRecv C).2.2]) ∧ Own w0 w' (wparts p (W.setCh (i:Int) (mRecv C).1) D T ++ Z) ∧ D.fits (W.setCh (i:Int) (mRecv C).1)):=Lib.hid (fun wx Z hx=>by
  obtain ⟨pt',hb',ho',R',h0,-,-,h3,h4⟩:=own_chan hx hf hi8
  rw [hpt] at h0
  simp only [Option.some.injEq] at h0
  subst h0
  rw [← hC] at h3
  have hL:=hlim _ (List.mem_of_getElem? (Wd.ch_at hi8))
  rw [← hC] at hL
  exact (crecv_any h3 hL.1 hL.2.1).mono (fun r w' hh=>⟨hh.1,h4 _ _ hh.2⟩))
 have hW1:∀ C',(W.setCh (i:Int) C').Cs.length = W.Cs.length:=fun C'=>by unfold Wd.setCh;simp
 have hsame:=setCh_same W i hi8
 rw [← hC] at hsame
 have herr:=mRecv_err C
 generalize mRecv C = M at *
 obtain ⟨C1,⟨mv,sm,⟨r1,r2,r3⟩,wk⟩,er⟩:=M
 unfold gotC at HSnd
 simp only at *
 obtain ⟨W1,hWe⟩:∃ W1,W1 = W.setCh (i:Int) C1:=⟨_,rfl⟩
 rw [← hWe] at hgo hfin HSnd ⊢
 have HS0:=Lib.hid (SB W · · rfl hf)
 have hf1:D.fits W1:=by rw [hWe];exact ⟨hf.f,hf.g,by simp [hf.c,Wd.setCh],by simp [hf.n,Wd.setCh],hf.l,hf.k⟩
 have HS1:=Lib.hid (SB W1 · · (by rw [hWe];exact hW1 C1) hf1)
 have HA:=Lib.hid hA
 have HF1:=Lib.hid hf1
 have HWe:=Lib.hid hWe
 have HSame:=Lib.hid hsame
 have HErr:=Lib.hid herr
 have HGo:=Lib.hid hgo
 have HFi:=Lib.hid hfin
 have i0:(0:Int) ≤ (i:Int):=by omega
 have i8:(i:Int) < (W.Cs.length:Int):=by omega
 obtain ⟨NC,hNC⟩:∃ NC,NC = W.Cs.length:=⟨_,rfl⟩
 rw [← hNC] at HS0 HS1 i8
 generalize hoe:(if er = 0 then (let y:=if wk then goOnM W1 rd (r1,r2,r3) false else (W1,rd);some (Dd.mk (y.1.fin d.x ((d.g:Int),place,mv) sm) y.2 none)) else none) = o
 have HOE:=Lib.hid hoe
 have HRD:=Lib.hid hr
 clear hA h hf hf1 hWe hsame herr hgo hfin SB hW1 hoe hC hha hpt hi8 hlim hcl hc0 hNC e
 go_enter Tryz.func142,Tryz.ntmps142
 go_upto_region 1 with fail
 generalize w.alloc (.cells #[.int .i64 k1,.int .i64 (i:Int),.int .i64 k3] 119) = w1 at *
 generalize w.heap.size = bc at *
 go_cut [7,8] (fun s7 s8 wx=>∃ b7,s7 = .pointer (some ⟨b7,0,none⟩) ∧ s8 = .int .i64 er ∧ Own w0 wx (wparts p W1 D T ++ (CelA b7 [.int .i64 mv,.bool sm,.int .i64 r1,.int .i64 r2,.int .i64 r3,.bool wk] :: CelA bc [.int .i64 k1,.int .i64 (i:Int),.int .i64 k3] :: CelA d.q (dcells p (d.g:Int) d.x d.th d.dr d.go ra rd.length rc) :: RowGA 1 ra rc rd.length (intc rd) :: R)))
 case first =>
  have o1:=HA.out.step (below_drew1 _)
  refine wp_region_lexH (fun wx=>wx.cell? ⟨d.q,0,none⟩ = some (.pointer (some ⟨p,0,none⟩)) ∧ wx.cell? ⟨p,3,none⟩ = some (.slice (some ⟨hb,ho,none⟩) NC D.hc) ∧ wx.cell? ⟨hb,ho + i,none⟩ = some (.pointer (some ⟨pt,0,none⟩)) ∧ wx.cell? ⟨bc,1,none⟩ = some (.int .i64 (i:Int))) 18 (Array.replicate 18 false) (by kernel_rfl) (by kernel_rfl) ?_
  refine wpAnyH_seg 0 11 _ #[true,true,true,true,true,true,true,true,true,true,true,false,false,false,false,false,false,false] 7 (by kernel_rfl) noPanic_put (HS0.out _ _ o1) (by kernel_rfl) ?_
  simp only [List.take_succ_cons,List.take_zero,List.drop_zero]
  repeat ((first | refine wpSegH_no (by rfl) ?_ | (refine wpSegH_yes (by rfl) ?_;apply Exists.intro;apply And.intro;(· (intro wx hS;(try dsimp only at hS);go_simp;first | done | with_reducible rfl))));simp only [Act.put,List.setIfInBounds_toArray,List.set_cons_zero,List.set_cons_succ])
  refine wpSegH_nil ?_
  refine wpAnyH_two 11 15 _ #[true,true,true,true,true,true,true,true,true,true,true,true,false,false,false,false,false,false] #[true,true,true,true,true,true,true,true,true,true,true,false,false,false,false,true,false,false] 6 (by kernel_rfl) (fun K hK=>?_) (fun K hK=>?_)
  ·skip
   have HKK:=Lib.hid hK
   clear hK
   simp only [List.drop_succ_cons,List.drop_zero]
   refine headH_mk (by rfl) ?_
   go_simp
   refine (HSnd.out _ _ o1).mono ?_
   rintro r w3 ⟨rfl,o3,-⟩
   refine HKK.out _ _ (HS1.out _ _ o3) ?_
   clear HKK K
   refine wpAnyH_seg 12 3 _ #[true,true,true,true,true,true,true,true,true,true,true,true,true,true,true,false,false,false] 3 (by kernel_rfl) noPanic_put (HS1.out _ _ o3) (by kernel_rfl) ?_
   simp only [List.take_succ_cons,List.take_zero,List.drop_succ_cons,List.drop_zero]
   repeat ((first | refine wpSegH_no (by rfl) ?_ | (refine wpSegH_yes (by rfl) ?_;apply Exists.intro;apply And.intro;(· (intro wx hS;(try dsimp only at hS);go_simp;first | done | with_reducible rfl))));simp only [Act.put,List.setIfInBounds_toArray,List.set_cons_zero,List.set_cons_succ])
   refine wpSegH_nil ?_
   have o4:=o3.alloc [.int .i64 0,.bool false,.int .i64 0,.int .i64 0,.int .i64 0,.bool false] 231 (b:=w3.heap.size) rfl
   refine wpAnyH_one 15 _ #[true,true,true,true,true,true,true,true,true,true,true,true,true,true,true,true,false,false] 2 (by kernel_rfl) (fun K hK=>?_)
   have HKK:=Lib.hid hK
   clear hK
   simp only [List.drop_succ_cons,List.drop_zero]
   refine headH_mk (by rfl) ?_
   go_simp
   refine HKK.out _ _ (HS1.out _ _ o4.drop) ?_
   clear HKK K
   have o5:=o3.alloc [.int .i64 mv,.bool sm,.int .i64 r1,.int .i64 r2,.int .i64 r3,.bool wk] 231 (b:=w3.heap.size) rfl
   refine wpAnyH_one 16 _ #[true,true,true,true,true,true,true,true,true,true,true,true,true,true,true,true,true,false] 1 (by kernel_rfl) (fun K hK=>?_)
   have HKK:=Lib.hid hK
   clear hK
   simp only [List.drop_succ_cons,List.drop_zero]
   refine headH_mk (by rfl) ?_
   go_simp
   refine HKK.out _ _ (HS1.out _ _ o5.drop) ?_
   clear HKK K
   refine wpAnyH_seg 17 1 _ #[true,true,true,true,true,true,true,true,true,true,true,true,true,true,true,true,true,true] 0 (by kernel_rfl) noPanic_put (HS1.out _ _ o5.drop) (by kernel_rfl) ?_
   simp only [List.take_succ_cons,List.take_zero,List.drop_succ_cons,List.drop_zero]
   repeat ((first | refine wpSegH_no (by rfl) ?_ | (refine wpSegH_yes (by rfl) ?_;apply Exists.intro;apply And.intro;(· (intro wx hS;(try dsimp only at hS);go_simp;first | done | with_reducible rfl))));simp only [Act.put,List.setIfInBounds_toArray,List.set_cons_zero,List.set_cons_succ])
   refine wpSegH_nil ?_
   refine wpAnyH_done (by kernel_rfl) (NoPanic.normal ?_) _
   go_wp2_with fail
   go_meet
   exact ⟨_,rfl,rfl,o5.mid⟩
  ·skip
   have o3:=(o1.alloc [.int .i64 0,.bool false,.int .i64 0,.int .i64 0,.int .i64 0,.bool false] 231 (b:=w1.heap.size) rfl).mid
   have hlt:=World.block_lt_of_cell? _ _ (o3.cel 10 rfl 0 _ rfl).1
   have HKK:=Lib.hid hK
   clear hK
   simp only [List.drop_succ_cons,List.drop_zero]
   refine headH_mk (by rfl) ?_
   go_simp
   refine HKK.out _ _ (HS0.out _ _ o3.unmid.drop) ?_
   clear HKK K
   refine wpAnyH_one 11 _ #[true,true,true,true,true,true,true,true,true,true,true,true,false,false,false,true,false,false] 5 (by kernel_rfl) (fun K hK=>?_)
   have HKK:=Lib.hid hK
   clear hK
   simp only [List.drop_succ_cons,List.drop_zero]
   refine headH_mk (by rfl) ?_
   go_simp
   refine (HSnd.out _ _ o3).mono ?_
   rintro r w3 ⟨rfl,o4,-⟩
   refine HKK.out _ _ (HS1.out _ _ o4.unmid.drop) ?_
   clear HKK K
   refine wpAnyH_seg 12 3 _ #[true,true,true,true,true,true,true,true,true,true,true,true,true,true,true,true,false,false] 2 (by kernel_rfl) noPanic_put (HS1.out _ _ o4.unmid.drop) (by kernel_rfl) ?_
   simp only [List.take_succ_cons,List.take_zero,List.drop_succ_cons,List.drop_zero]
   repeat ((first | refine wpSegH_no (by rfl) ?_ | (refine wpSegH_yes (by rfl) ?_;apply Exists.intro;apply And.intro;(· (intro wx hS;(try dsimp only at hS);go_simp;first | done | with_reducible rfl))));simp only [Act.put,List.setIfInBounds_toArray,List.set_cons_zero,List.set_cons_succ])
   refine wpSegH_nil ?_
   obtain ⟨z0,f0⟩:=o4.cel 10 rfl 0 _ rfl
   obtain ⟨z1,f1⟩:=o4.cel 10 rfl 1 _ rfl
   obtain ⟨z2,f2⟩:=o4.cel 10 rfl 2 _ rfl
   obtain ⟨z3,f3⟩:=o4.cel 10 rfl 3 _ rfl
   obtain ⟨z4,f4⟩:=o4.cel 10 rfl 4 _ rfl
   obtain ⟨z5,f5⟩:=o4.cel 10 rfl 5 _ rfl
   have o5:=(((((o4.unmid.set 0 (.int .i64 mv)).set 1 (.bool sm)).set 2 (.int .i64 r1)).set 3 (.int .i64 r2)).set 4 (.int .i64 r3)).set 5 (.bool wk)
   refine wpAnyH_one 16 _ #[true,true,true,true,true,true,true,true,true,true,true,true,true,true,true,true,true,false] 1 (by kernel_rfl) (fun K hK=>?_)
   have HKK:=Lib.hid hK
   clear hK
   simp only [List.drop_succ_cons,List.drop_zero]
   refine headH_mk (by rfl) ?_
   go_simp
   refine HKK.out _ _ (HS1.out _ _ o5.drop) ?_
   clear HKK K
   refine wpAnyH_seg 17 1 _ #[true,true,true,true,true,true,true,true,true,true,true,true,true,true,true,true,true,true] 0 (by kernel_rfl) noPanic_put (HS1.out _ _ o5.drop) (by kernel_rfl) ?_
   simp only [List.take_succ_cons,List.take_zero,List.drop_succ_cons,List.drop_zero]
   repeat ((first | refine wpSegH_no (by rfl) ?_ | (refine wpSegH_yes (by rfl) ?_;apply Exists.intro;apply And.intro;(· (intro wx hS;(try dsimp only at hS);go_simp;first | done | with_reducible rfl))));simp only [Act.put,List.setIfInBounds_toArray,List.set_cons_zero,List.set_cons_succ])
   refine wpSegH_nil ?_
   refine wpAnyH_done (by kernel_rfl) (NoPanic.normal ?_) _
   go_wp2_with fail
   go_meet
   exact ⟨_,rfl,rfl,o5.mid⟩
 case rest =>
  obtain ⟨b7,rfl,rfl,ho⟩:=hcut
  have z2:=(ho.cel 10 rfl 2 _ rfl).1
  have z3:=(ho.cel 10 rfl 3 _ rfl).1
  have z4:=(ho.cel 10 rfl 4 _ rfl).1
  have z5:=(ho.cel 10 rfl 5 _ rfl).1
  have HD:Hid (DAt w0 wc p T d W1 rd (CelA b7 [.int .i64 mv,.bool sm,.int .i64 r1,.int .i64 r2,.int .i64 r3,.bool wk] :: R)):=Lib.hid ⟨D,ra,rc,HF1.out,by
   have h1:=(ho.pick 11 rfl).drop
   have h2:=(h1.pick 10 rfl)
   exact ((h2.mid (L:=wparts p W1 D T ++ [CelA d.q (dcells p (d.g:Int) d.x d.th d.dr d.go ra rd.length rc),RowGA 1 ra rc rd.length (intc rd)])).perm (by rw [List.append_assoc];exact List.Perm.refl _))⟩
  clear ho HA HSnd HS0 HS1
  rcases HErr.out with h1 | ⟨h1,h2⟩
  ·subst h1
   obtain ⟨y,hy⟩:∃ y,y = (if wk then goOnM W1 rd (r1,r2,r3) false else (W1,rd)):=⟨_,rfl⟩
   have ho:o = some ⟨y.1.fin d.x ((d.g:Int),place,mv) sm,y.2,none⟩:=by rw [← HOE.out,if_pos rfl,← hy]
   have hfi:=HFi.out rfl
   rw [← hy] at hfi
   have HO:=Lib.hid ho
   have HY:=Lib.hid hy
   have HFi2:=Lib.hid hfi
   clear HOE HFi ho hy hfi
   go_upto_if 27 with fail
   go_cut [] (fun wx=>DAt w0 wx p T d y.1 y.2 (CelA b7 [.int .i64 mv,.bool sm,.int .i64 r1,.int .i64 r2,.int .i64 r3,.bool wk] :: R))
   case first =>
    cases wk with
    | true =>
     go_wp2_with fail
     refine (dgo_any HD.out (r1,r2,r3) false (HGo.out (by first | rfl | trivial)) (by have:=HRD.out;omega)).mono ?_
     rintro r w2 ⟨rfl,h2⟩
     have H2:=Lib.hid h2
     clear h2
     go_wp2_with fail
     go_meet
     rw [HY.out]
     exact H2.out
    | false =>
     go_wp2_with fail
     go_meet
     rw [HY.out]
     exact HD.out
   case rest =>
    obtain ⟨D2,ra2,rc2,hf2,h2⟩:=hcut
    have q0:=(h2.cel 10 rfl 0 _ rfl).1
    have q1:=(h2.cel 10 rfl 1 _ rfl).1
    have q2:=(h2.cel 10 rfl 2 _ rfl).1
    have q3:=(h2.cel 10 rfl 3 _ rfl).1
    have q4:=(h2.cel 10 rfl 4 _ rfl).1
    have q5:=(h2.cel 10 rfl 5 _ rfl).1
    have y0:=(h2.cel 12 rfl 0 _ rfl).1
    have y1:=(h2.cel 12 rfl 1 _ rfl).1
    have HN:=Lib.hid (fun j=>fin_any sm (h2.step (below_dN wc j)) hf2 HFi2.out)
    unfold wv at HN
    simp only at HN
    clear h2 hf2 HGo HErr HD z2 z3 z4 z5
    go_upto_region 6 with fail
    refine wp_region_lexK (fun wx=>∃ nq,wx = World.drewN (wc) nq) 18 1 (Array.replicate 19 false) #[true,true,true,true,true,true,true,true,true,true,true,true,true,true,true,true,true,true,false] (by kernel_rfl) (by kernel_rfl) ?_
    refine wpAnyK_seg 0 18 _ #[true,true,true,true,true,true,true,true,true,true,true,true,true,true,true,true,true,true,false] 0 (by kernel_rfl) noPanic_put (drew_q wc) (by kernel_rfl) ?_
    simp only [List.take_succ_cons,List.take_zero,List.drop_zero]
    repeat ((first | refine wpSegH_no (by rfl) ?_ | (refine wpSegH_yes (by rfl) ?_;apply Exists.intro;apply And.intro;(· (rintro wx ⟨nq,rfl⟩;go_simp;first | done | with_reducible rfl))));simp only [Act.put,List.setIfInBounds_toArray,List.set_cons_zero,List.set_cons_succ])
    refine wpSegH_nil ?_
    refine wpAnyK_next ?_
    refine wpAnyK_seq 18 (by kernel_rfl) ?_
    simp only [List.drop_succ_cons,List.drop_zero]
    go_wp2_with fail
    refine (HN.out 1).mono ?_
    rintro r w3 ⟨rfl,h3,hf3⟩
    have H3:Hid (DAt w0 w3 p T d (y.1.fin d.x ((d.g:Int),place,mv) sm) y.2 R):=Lib.hid ⟨D2,ra2,rc2,hf3,(h3.pick 12 rfl).drop⟩
    clear h3 hf3 HN
    go_wp2_with fail
    refine NoPanic.normal ?_
    go_wp2
    go_ret
    rw [HO.out]
    exact ⟨rfl,H3.out⟩
  ·subst h1
   have hW:W1 = W:=by rw [HWe.out,h2];exact HSame.out
   have ho:o = none:=by rw [← HOE.out,if_neg (by decide)]
   have HO:=Lib.hid ho
   have HD2:Hid (DAt w0 wc p T d W rd (CelA b7 [.int .i64 mv,.bool sm,.int .i64 r1,.int .i64 r2,.int .i64 r3,.bool wk] :: R)):=Lib.hid (by rw [← hW];exact HD.out)
   clear HOE HGo HFi hW ho HD h2
   go_wp2
   go_ret
   rw [HO.out]
   obtain ⟨D2,ra2,rc2,hf2,h2⟩:=HD2.out
   exact ⟨rfl,D2,ra2,rc2,hf2,(h2.pick 12 rfl).drop⟩
theorem elsepred_any (k1 k2 k3:Int) (w:World) :
  Calls Tryz.prog 147 #[.agg #[.int .i64 k1,.int .i64 k2,.int .i64 k3]] w fun r w'=>r = .returned (.bool (k1 == 2)) ∧ Below w.heap.size w w':=by
 go_enter Tryz.func147,Tryz.ntmps147
 go_wp2
 go_ret
 exact ⟨rfl,by first | exact Below.refl _ _ | exact below_alloc1 _ _⟩
theorem elseidx_any (w:World) (ka:Option Addr) (m kc:Nat) (ks:List Cs3) (hk:CellsAt w ka (c3s ks)) (hm:m = ks.length) (hm2:m ≤ 100000) :
  Calls Tryz.prog 146 #[.slice ka m kc,.func (.func 147) #[] #[]] w fun r w'=>r = .returned (.int .i64 (elF 0 ks)) ∧ Below w.heap.size w w':=by
 have H:=Lib.hid hk
 have HN:=Lib.hid hm
 clear hk hm
 go_enter Tryz.func146,Tryz.ntmps146
 go_wp2_with fail
 go_loopw [8] (fun s wr=>∃ i:Nat,i ≤ m ∧ s = .int .i64 i ∧ Hid (Below w.heap.size w wr ∧ elF 0 ks = elF i (ks.drop i))) (fun s _=>m - (intOf s).toNat)
 case atStart=>exact ⟨0,by omega,rfl,Lib.hid ⟨Below.refl _ _,rfl⟩⟩
 case round =>
  obtain ⟨i,hi,rfl,hr⟩:=hrel
  obtain ⟨r1,r2⟩:=hr.out
  by_cases hlt:i < m
  ·have hil:i < ks.length:=by have:=HN.out;omega
   obtain ⟨b,off,rfl,q0,q1,q2⟩:=CellsAt.wt (l:=ks) ((H.out.below r1)) i hil
   rw [elF_drop ks i hil] at r2
   obtain ⟨x,hx⟩:∃ x,x = ks[i]:=⟨_,rfl⟩
   rw [← hx] at q0 q1 q2 r2
   clear hx
   obtain ⟨k1,k2,k3⟩:=x
   simp only at q0 q1 q2 r2
   have hli:(i:Int) < (m:Int):=by omega
   have HP:=Lib.hid (elsepred_any k1 k2 k3 wr)
   have R1:=Lib.hid r1
   by_cases hyg:k1 = 2
   ·have hb:(k1 == 2) = true:=by rw [beq_iff_eq];exact hyg
    rw [hb] at HP
    rw [if_pos hyg] at r2
    have R2:=Lib.hid r2
    clear hb hyg hr r1 r2
    go_wp2_with fail
    refine HP.out.mono ?_
    rintro r w3 ⟨rfl,b3⟩
    have HZ:=Lib.hid (below_on R1.out b3)
    clear b3
    go_wp2
    go_ret
    exact ⟨by rw [R2.out];rfl,HZ.out⟩
   ·have hb:(k1 == 2) = false:=by rw [beq_eq_false_iff_ne];exact hyg
    rw [hb] at HP
    rw [if_neg hyg] at r2
    have R2:=Lib.hid r2
    clear hb hyg hr r1 r2
    go_wp2_with fail
    refine HP.out.mono ?_
    rintro r w3 ⟨rfl,b3⟩
    have HZ:=Lib.hid (And.intro (below_on R1.out b3) R2.out)
    clear b3
    go_wp2
    exact ⟨⟨i + 1,by omega,by go_num,HZ⟩,by simp [intOf];omega⟩
  ·have hge:¬ (i:Int) < (m:Int):=by omega
   have hd:ks.drop i = []:=List.drop_of_length_le (by have:=HN.out;omega)
   rw [hd] at r2
   have HF:=Lib.hid (And.intro r1 r2)
   clear hr r1 r2 hd
   go_wp2
   go_ret
   exact ⟨by rw [HF.out.2];rfl,HF.out.1⟩
theorem else_any (w:World) (ka:Option Addr) (m kc:Nat) (ks:List Cs3) (hk:CellsAt w ka (c3s ks)) (hm:m = ks.length) (hm2:m ≤ 100000) :
  Calls Tryz.prog 134 #[.slice ka m kc] w fun r w'=>r = .returned (.tuple #[.int .i64 (if elF 0 ks < 0 then 0 else elF 0 ks),.bool (!decide (elF 0 ks < 0))]) ∧ Below w.heap.size w w':=by
 have hx:=elseidx_any w ka m kc ks hk hm hm2
 obtain ⟨e,he⟩:∃ e,e = elF 0 ks:=⟨_,rfl⟩
 rw [← he] at hx ⊢
 have HX:=Lib.hid hx
 clear hx he hk hm
 by_cases h:e < 0
 ·rw [if_pos h,show (!decide (e < 0)) = false by simp [h]]
  go_enter Tryz.func134,Tryz.ntmps134
  go_wp2_with fail
  refine HX.out.mono ?_
  rintro r w2 ⟨rfl,b2⟩
  have B2:=Lib.hid b2
  clear b2
  go_wp2
  go_ret2
  exact ⟨rfl,B2.out⟩
 ·rw [if_neg h,show (!decide (e < 0)) = true by simp [h]]
  go_enter Tryz.func134,Tryz.ntmps134
  go_wp2_with fail
  refine HX.out.mono ?_
  rintro r w2 ⟨rfl,b2⟩
  have B2:=Lib.hid b2
  clear b2
  go_wp2
  go_ret2
  exact ⟨rfl,B2.out⟩
theorem wait_any {w0 w:World} {ps:List Pl} {Cs:List Ch} {R:List Asr} {la:Option Addr} {lc n:Nat} (h:Own w0 w (chs ps Cs ++ RowGA 1 la lc n (ptrs ps) :: R)) (hn:n = ps.length) (hl:ps.length = Cs.length) (g:Int) (ka:Option Addr) (m kc:Nat) (ks:List Cs3) (ra:Option Addr) (rn rc:Nat) (regs:List Int)
  (hk:∀ w' Cs',Own w0 w' (chs ps Cs' ++ RowGA 1 la lc n (ptrs ps) :: R) → CellsAt w' ka (c3s ks) ∧ CellsAt w' ra (intc regs)) (hm:m = ks.length) (hm2:m ≤ 1000) (hr8:regs.length = 8) (hrn:rn = 8) (hok:CasOK n ks) (B:Nat) (hB:Lim B Cs) (hB2:B ≤ 90000) :
  Calls Tryz.prog 143 #[.int .i64 g,.slice ka m kc,.slice ra rn rc,.slice la n lc] w fun r w'=>r = .returned (.tuple #[]) ∧ Own w0 w' (chs ps (wasF g regs 0 ks Cs) ++ RowGA 1 la lc n (ptrs ps) :: R):=by
 have H:=Lib.hid h
 have HK:=Lib.hid hk
 have HN:=Lib.hid hn
 have HM:=Lib.hid hm
 have HO:=Lib.hid hok
 have HL:=Lib.hid hl
 have HBB:=Lib.hid hB
 subst hrn
 clear h hk hn hm hok hl hB
 go_enter Tryz.func143,Tryz.ntmps143
 go_wp2_with fail
 go_loopw [12] (fun s wr=>∃ i:Nat,∃ Cs',i ≤ m ∧ s = .int .i64 i ∧ Hid (Own w0 wr (chs ps Cs' ++ RowGA 1 la lc n (ptrs ps) :: R) ∧ wasF g regs i (ks.drop i) Cs' = wasF g regs 0 ks Cs ∧ Cs'.length = Cs.length ∧ Lim (B + i) Cs')) (fun s _=>m - (intOf s).toNat)
 case atStart=>exact ⟨0,Cs,by omega,rfl,Lib.hid ⟨H.out,rfl,rfl,HBB.out⟩⟩
 case round =>
  obtain ⟨i,Cs',hi,rfl,hr⟩:=hrel
  obtain ⟨r1,r2,r3,r4⟩:=hr.out
  by_cases hlt:i < m
  ·have hil:i < ks.length:=by have:=HM.out;omega
   obtain ⟨kk,kr⟩:=HK.out _ _ r1
   obtain ⟨b,off,rfl,q0,q1,q2⟩:=CellsAt.wt (l:=ks) (kk) i hil
   have hok:=HO.out ks[i] (List.getElem_mem hil)
   rw [wasF_drop g regs ks i hil] at r2
   obtain ⟨x,hx⟩:∃ x,x = ks[i]:=⟨_,rfl⟩
   rw [← hx] at q0 q1 q2 hok r2
   clear hx kk
   obtain ⟨k1,k2,k3⟩:=x
   simp only at q0 q1 q2 hok
   obtain ⟨h0,h1,h2,h3,h4⟩:=hok
   have hli:(i:Int) < (m:Int):=by omega
   obtain ⟨j,rfl⟩:∃ j:Nat,k2 = (j:Int):=⟨k2.toNat,by omega⟩
   by_cases h22:k1 = 2
   ·subst h22
    have e:waF g regs i (2,(j:Int),k3) Cs' = Cs':=by unfold waF;split <;> simp
    rw [e] at r2
    have HR:=Lib.hid (show _ ∧ _ ∧ _ ∧ Lim (B + (i + 1)) Cs' from ⟨r1.step (below_alloc1 wr (.cells #[.int .i64 2,.int .i64 (j:Int),.int .i64 k3] 119)),r2,r3,r4.mono (by omega)⟩)
    clear hr r1 r2 r3 r4 h0 h1 h2 h3 h4 e kr
    go_wp2
    exact ⟨⟨i + 1,Cs',by omega,by go_num,HR⟩,by simp [intOf];omega⟩
   ·have hjn:j < ps.length:=by have:=h2 h22;have:=HN.out;omega
    have hjC:j < Cs'.length:=by rw [r3,← HL.out];exact hjn
    have hp:ps[j]? = some ps[j]:=List.getElem?_eq_getElem hjn
    have hC:Cs'[j]? = some Cs'[j]:=List.getElem?_eq_getElem hjC
    have hlim:=r4 Cs'[j] (List.getElem_mem hjC)
    generalize ps[j] = p at hp
    generalize Cs'[j] = C at hC hlim
    obtain ⟨pb,poff,rfl,gp⟩:=chPtr r1 hp
    obtain ⟨R',hR,hback⟩:=r1.chPick hp hC
    have gpl:=World.block_lt_of_cell? _ _ gp
    have hjn':(j:Int) < (n:Int):=by have:=HN.out;omega
    obtain ⟨buf,S,Rv,cl⟩:=C
    simp only at hlim
    rcases (by omega:k1 = 0 ∨ k1 = 1) with rfl | rfl
    ·have e:waF g regs i (0,(j:Int),k3) Cs' = Cs'.set j ⟨buf,S,Rv ++ [(g,(i:Int),0)],cl⟩:=by unfold waF;simp [hC]
     rw [e] at r2
     have hw:=cwaitr_any (hR.step (below_alloc1 wr (.cells #[.int .i64 0,.int .i64 (j:Int),.int .i64 k3] 119))) (g,(i:Int),0) (by omega)
     have HW:=Lib.hid hw
     have HX:=Lib.hid (fun (w':World) (h':Own w0 w' (ChanA p.1 p.2 ⟨buf,S,Rv ++ [(g,(i:Int),0)],cl⟩ :: R'))=>(show Own w0 w' (chs ps (Cs'.set j ⟨buf,S,Rv ++ [(g,(i:Int),0)],cl⟩) ++ RowGA 1 (some ⟨pb,poff,none⟩) lc n (ptrs ps) :: R) ∧ wasF g regs (i + 1) (ks.drop (i + 1)) (Cs'.set j ⟨buf,S,Rv ++ [(g,(i:Int),0)],cl⟩) = wasF g regs 0 ks Cs ∧ (Cs'.set j ⟨buf,S,Rv ++ [(g,(i:Int),0)],cl⟩).length = Cs.length ∧ Lim (B + (i + 1)) (Cs'.set j ⟨buf,S,Rv ++ [(g,(i:Int),0)],cl⟩) from
      ⟨hback w' _ h',r2,by simpa using r3,(r4.mono (by omega)).set _ _ ⟨by simp only;omega,by simp only;omega,by simp;omega⟩⟩))
     unfold wv at HW
     simp only at HW
     clear hr r1 r2 r3 r4 h0 h1 h2 h3 h4 h22 e kr hw hback hR hC hp hjC hjn hlim
     go_wp2_with fail
     refine HW.out.mono ?_
     rintro r w3 ⟨rfl,h3⟩
     have HR:=Lib.hid (HX.out _ h3)
     clear h3
     go_wp2
     exact ⟨⟨i + 1,_,by omega,by go_num,HR⟩,by simp [intOf];omega⟩
    ·obtain ⟨q,rfl⟩:∃ q:Nat,k3 = (q:Int):=⟨k3.toNat,by omega⟩
     have hq8:q < regs.length:=by omega
     have hq8':(q:Int) < 8:=by omega
     obtain ⟨rb,ro,rfl,gr⟩:=kr.int q hq8
     obtain ⟨v,hv⟩:∃ v,v = regs[q]:=⟨_,rfl⟩
     have HQ9:=Lib.hid (show q < regs.length ∧ ∀ h:q < regs.length,regs[q] = v from ⟨hq8,fun _=>hv.symm⟩)
     have HP9:=Lib.hid hp
     have HLIM:=Lib.hid hlim
     have hlim2:=hlim
     clear hlim
     rw [← hv] at gr
     have e:waF g regs i (1,(j:Int),(q:Int)) Cs' = Cs'.set j ⟨buf,S ++ [(g,(i:Int),v)],Rv,cl⟩:=by unfold waF;simp [hC,hv,List.getD_eq_getElem?_getD,List.getElem?_eq_getElem hq8]
     rw [e] at r2
     have hw:=True.intro
     have HW:=hw
     have HX:=Lib.hid (fun (w':World) (h':Own w0 w' (ChanA p.1 p.2 ⟨buf,S ++ [(g,(i:Int),v)],Rv,cl⟩ :: R'))=>(show Own w0 w' (chs ps (Cs'.set j ⟨buf,S ++ [(g,(i:Int),v)],Rv,cl⟩) ++ RowGA 1 (some ⟨pb,poff,none⟩) lc n (ptrs ps) :: R) ∧ wasF g regs (i + 1) (ks.drop (i + 1)) (Cs'.set j ⟨buf,S ++ [(g,(i:Int),v)],Rv,cl⟩) = wasF g regs 0 ks Cs ∧ (Cs'.set j ⟨buf,S ++ [(g,(i:Int),v)],Rv,cl⟩).length = Cs.length ∧ Lim (B + (i + 1)) (Cs'.set j ⟨buf,S ++ [(g,(i:Int),v)],Rv,cl⟩) from
      ⟨hback w' _ h',r2,by simpa using r3,(r4.mono (by omega)).set _ _ ⟨by simp only;omega,by simp;omega,by simp only;omega⟩⟩))
     obtain ⟨s0,hs0⟩:∃ s0,s0 = wr.heap.size:=⟨_,rfl⟩
     have hA:=hR.alloc [.int .i64 1,.int .i64 (j:Int),.int .i64 (q:Int)] 119 hs0
     have HA:=Lib.hid hA
     have HB9:=Lib.hid hback
     have grl:=World.block_lt_of_cell? _ _ gr
     clear hr r1 r2 r3 r4 h0 h1 h2 h3 h4 h22 e kr hw HW hback hR hC hp hjC hjn hlim2 hv hq8 hA
     go_upto_region 7 with fail
     rw [← hs0]
     have gp9:=cell_below gp (below_alloc1 wr (.cells #[.int .i64 1,.int .i64 (j:Int),.int .i64 (q:Int)] 119))
     have gr9:=cell_below gr (below_alloc1 wr (.cells #[.int .i64 1,.int .i64 (j:Int),.int .i64 (q:Int)] 119))
     clear gp gr hs0
     generalize wr.alloc (.cells #[.int .i64 1,.int .i64 (j:Int),.int .i64 (q:Int)] 119) = W at *
     have hw:=cwaits_any (S:=S) ((HA.out.step (below_drew1 _)).pick 1 rfl) (g,(i:Int),v) (by have:=HLIM.out;omega)
     have HW:=Lib.hid hw
     unfold wv at HW
     simp only at HW
     have hcel:∀ wx C',Own w0 wx (ChanA p.1 p.2 C' :: CelA s0 [.int .i64 1,.int .i64 (j:Int),.int .i64 (q:Int)] :: R') → wx.cell? ⟨s0,1,none⟩ = some (.int .i64 (j:Int)) ∧ wx.cell? ⟨s0,2,none⟩ = some (.int .i64 (q:Int)) ∧ wx.cell? ⟨pb,poff + j,none⟩ = some (.pointer (some ⟨p.1,0,none⟩)) ∧ wx.cell? ⟨rb,ro + q,none⟩ = some (.int .i64 v):=fun wx C' hx=>by
      have hy:=HB9.out _ _ (hx.pick 1 rfl).drop
      obtain ⟨_,_,ee,gp'⟩:=chPtr hy HP9.out
      cases ee
      obtain ⟨_,_,ee,gr'⟩:=(HK.out _ _ hy).2.int q HQ9.out.1
      cases ee
      exact ⟨(hx.cel 1 rfl 1 _ rfl).1,(hx.cel 1 rfl 2 _ rfl).1,gp',by rw [gr',HQ9.out.2 HQ9.out.1]⟩
     have h0:=hcel _ _ ((HA.out.step (below_drew1 W)).pick 1 rfl)
     have HCEL:=Lib.hid hcel
     clear hw hcel gp9 gr9
     refine wp_region_lexH (fun wx=>wx.cell? ⟨s0,1,none⟩ = some (.int .i64 (j:Int)) ∧ wx.cell? ⟨s0,2,none⟩ = some (.int .i64 (q:Int)) ∧ wx.cell? ⟨pb,poff + j,none⟩ = some (.pointer (some ⟨p.1,0,none⟩)) ∧ wx.cell? ⟨rb,ro + q,none⟩ = some (.int .i64 v)) 14 (Array.replicate 14 false) (by kernel_rfl) (by kernel_rfl) ?_
     refine wpAnyH_seg 0 13 _ #[true,true,true,true,true,true,true,true,true,true,true,true,true,false] 1 (by kernel_rfl) noPanic_put (h0) (by kernel_rfl) ?_
     simp only [List.take_succ_cons,List.take_zero,List.drop_zero]
     repeat ((first | refine wpSegH_no (by rfl) ?_ | (refine wpSegH_yes (by rfl) ?_;apply Exists.intro;apply And.intro;(· (intro wx hS;(try dsimp only at hS);go_simp;first | done | with_reducible rfl))));simp only [Act.put,List.setIfInBounds_toArray,List.set_cons_zero,List.set_cons_succ])
     refine wpSegH_nil ?_
     refine wpAnyH_one 13 _ #[true,true,true,true,true,true,true,true,true,true,true,true,true,true] 0 (by kernel_rfl) (fun K hK=>?_)
     have HKK:=Lib.hid hK
     clear hK
     simp only [List.drop_succ_cons,List.drop_zero]
     refine headH_mk (by rfl) ?_
     go_simp
     refine HW.out.mono ?_
     rintro r w3 ⟨rfl,h3⟩
     have h1:=HCEL.out _ _ h3
     have HR:=Lib.hid (HX.out _ (h3.pick 1 rfl).drop)
     clear h3 h0
     refine HKK.out _ _ (h1) ?_
     clear HKK K
     refine wpAnyH_done (by kernel_rfl) (NoPanic.normal ?_) _
     clear h1
     go_wp2
     exact ⟨⟨i + 1,_,by omega,by go_num,HR⟩,by simp [intOf];omega⟩
  ·have hge:¬ (i:Int) < (m:Int):=by omega
   have hd:ks.drop i = []:=List.drop_of_length_le (by have:=HM.out;omega)
   rw [hd] at r2
   have HF:=Lib.hid (show Own w0 wr (chs ps (wasF g regs 0 ks Cs) ++ RowGA 1 la lc n (ptrs ps) :: R) from by rw [← r2];exact r1)
   clear hr r1 r2 r3 r4 hd
   go_wp2
   go_end0
   exact ⟨rfl,HF.out⟩
end Go.Proofs.YtphfaekpckbepaaGreat
