/-
  Texts put together: SegK, WdC, WdB2, WdCas, WdFin, WdWake, WdGo, WdSend, WdRecv, WPk2, WdTry, WdClose, SegP, WdAsk, WFr3.
-/
import Derived.Test.YtlkjheheofgdgaaGreatMa1
import Derived.StillTail
import Derived.Test.YtlkjheheofgdgaaGreatMa2
import Derived.Recover
set_option maxRecDepth 100000
set_option maxHeartbeats 16000000
set_option linter.unusedSimpArgs false
set_option linter.unusedVariables false
open Go Go.RowKit
namespace Go.Proofs.YtlkjheheofgdgaaGreat
section
variable {P:Program} {ops:Array Oper} {Q:Exit→Act→World→Prop} {S:World→Prop} {md:Region.Mode}
def Zk (md:Region.Mode)(ops:Array Oper)(listed:Array Bool):Bool :=
 (List.range ops.size).all fun j=>!(listed.getD j false)||(match ops[j]? with
  | some o=>o.after.all fun e=>!(Region.binds md e)||listed.getD e.on false
  | none=>true)
theorem TI {listed:Array Bool}:Zk md ops listed=true↔∀j oj,ops[j]?=some oj→listed.getD j false=true→∀e∈oj.after,Region.binds md e=true→listed.getD e.on false=true:=by
 unfold Zk;rw[List.all_eq_true];constructor
 ·intro h j oj hj hl e he hb
  have h1:=h j (List.mem_range.2 (Array.getElem?_eq_some_iff.1 hj).1)
  rw[hl,hj] at h1;simp only[Bool.not_true,Bool.false_or] at h1;have h2:=Array.all_eq_true_iff_forall_mem.1 h1 e he;rw[hb] at h2;simpa using h2
 ·intro h j hj
  have hlt:=List.mem_range.1 hj;cases hl:listed.getD j false with
  | false=>rfl
  | true =>
   rw[Array.getElem?_eq_getElem hlt]
   simp only[Bool.not_true,Bool.false_or];refine Array.all_eq_true_iff_forall_mem.2 (fun e he=>?_)
   cases hb:Region.binds md e with
   | false=>rfl
   | true=>simp only[Bool.not_true,Bool.false_or];exact h j _ (Array.getElem?_eq_getElem hlt) hl e he hb
theorem Zr {listed:Array Bool}{i:Nat}(h:Zk md ops listed=true)(hi:i∈Region.ready md ops listed):Zk md ops (listed.setIfInBounds i true)=true:=by
 rw[TI] at *;obtain⟨_,oi,hoi,hall⟩:=mem_ready.1 hi;intro j oj hj hl e he hb;by_cases hij:i=j
 ·subst hij
  have:oj=oi:=Option.some.inj (hj.symm.trans hoi)
  subst this;exact getD_set_true (hall e he hb)
 ·rw[getD_set_ne false hij] at hl
  exact getD_set_true (h j oj hj hl e he hb)
def Xv (md:Region.Mode)(ops:Array Oper)(full:Array Bool):Bool :=
 (List.range ops.size).all fun i=>!(full.getD i false)||!(Zk md ops (full.setIfInBounds i false))||(Region.ready md ops (full.setIfInBounds i false)).all fun j=>full.getD j false
def ZJ (P:Program)(md:Region.Mode)(ops:Array Oper)(Q:Exit→Act→World→Prop)(S:World→Prop)(g:Nat)(full:Array Bool):Nat→Array Bool→Act→World→Prop
 | 0,listed,a,w=>listed=full∧wpAny P md ops Q g full a w
 | fuel+1,listed,a,w=>Region.ready md ops listed≠[] ∧
  ∀i∈Region.ready md ops listed,wpOp P ops Q i (fun a' w'=>S w'∧ZJ P md ops Q S g full fuel (listed.setIfInBounds i true) a' w') a w
theorem X9 {g:Nat}{full:Array Bool}:∀(fuel:Nat) (listed:Array Bool) (a:Act) (w:World),ZJ P md ops Q S g full fuel listed a w→wpAny P md ops Q (fuel+g) listed a w
 | 0,_,_,_,h=>by obtain⟨rfl,h⟩:=h;rw[Nat.zero_add];exact h
 | fuel+1,_,_,_,h=>by
  rw[show fuel+1+g=(fuel+g)+1 by omega]
  exact⟨fun h0=>absurd h0 h.1,fun i hi=>wpOp_mono (fun a' w' h'=>X9 fuel _ a' w' h'.2) (h.2 i hi)⟩
theorem Th {full listed:Array Bool}{i j:Nat}(hcl:Zk md ops listed=true)(hB:Xv md ops full=true)(hi:i<ops.size)(hl:listed.setIfInBounds i true=full)(hu:listed.getD i true=false)(hj:j∈Region.ready md ops listed)(hne:j≠i):False:=by
 have hil:i<listed.size:=by
  rcases Nat.lt_or_ge i listed.size with h|h
  ·exact h
  ·simp[Array.getElem?_eq_none h] at hu
 have h1:full.getD i false=true:=by rw[←hl];simp[hil]
 have h2:full.setIfInBounds i false=listed:=by
  rw[←hl];apply Array.ext_getElem?
  intro k;by_cases e:i=k
  ·subst e;simp[hil] at hu ⊢;exact hu
  ·simp[Array.getElem?_setIfInBounds_ne e]
 unfold Xv at hB;have h3:=List.all_eq_true.1 hB i (List.mem_range.2 hi)
 rw[h1,h2,hcl] at h3;simp only[Bool.not_true,Bool.false_or] at h3;have h4:=List.all_eq_true.1 h3 j hj;have h5:=(mem_ready.1 hj).1
 rw[←hl,getD_set_ne false (Ne.symm hne)] at h4
 rcases Nat.lt_or_ge j listed.size with h|h
 ·simp[h] at h4 h5;rw[h5] at h4;cases h4
 ·simp[Array.getElem?_eq_none h] at h4
theorem YR {i:Nat}{oi:Oper}{v:Value}{g:Nat}{full:Array Bool}(hi:ops[i]?=some oi)(hsel:∀(j:Nat) (o:Oper) cs b,ops[j]?=some o→o.op≠.select cs b)
  (hQ:∀c a w,Q (.panic c) (a.put oi.dst v) w→Q (.panic c) a w) (hB:Xv md ops full=true) :
  ∀(fuel:Nat) (listed:Array Bool) (a:Act) (w:World),
   (∀j oj,ops[j]?=some oj→j≠i→listed.getD j true=false→(∀e∈oj.after,Region.binds md e=true→e.on≠i)→oi.apart ops oj=true) →
   Zk md ops listed=true→i∈Region.ready md ops listed→YieldsIf P ops S oi v a→S w →
   ZJ P md ops Q S g full fuel (listed.setIfInBounds i true) (a.put oi.dst v) w→ZJ P md ops Q S g full (fuel+1) listed a w
 | 0,listed,a,w,_,hcl,hr,hy,hS,H=>by
  refine⟨fun h=>(by rw[h] at hr;cases hr),fun j hj=>?_⟩
  by_cases hji:j=i
  ·subst hji;exact hy.wpOp hi hS ⟨hS,H⟩
  ·exact(Th hcl hB (Array.getElem?_eq_some_iff.1 hi).1 H.1 (mem_ready.1 hr).1 hj hji).elim
 | fuel+1,listed,a,w,hfree,hcl,hr,hy,hS,H=>by
  refine⟨fun h=>(by rw[h] at hr;cases hr),fun j hj=>?_⟩
  by_cases hji:j=i
  ·subst hji;exact hy.wpOp hi hS ⟨hS,H⟩
  ·have h1:=H.2 j (ready_mono hj hji)
   obtain⟨hjun,oj,hoj,hall⟩:=mem_ready.1 hj;have hnot:∀e∈oj.after,Region.binds md e=true→e.on≠i:=fun e he hb heq=>by
    have h2:=hall e he hb;have h0:=(mem_ready.1 hr).1
    rw[heq] at h2;rcases Nat.lt_or_ge i listed.size with h'|h'
    ·simp[h'] at h0 h2;rw[h0] at h2;cases h2
    ·simp[Array.getElem?_eq_none h'] at h2
   refine wpOp_mono (fun a' w' h3=>?_) (wpOp_putIf hoj (hfree j oj hoj hji hjun hnot) (fun cs b=>hsel i oi cs b hi) (fun cs b=>hsel j oj cs b hoj) hQ hy h1)
   have hS':S w':=h3.2.1
   refine⟨hS',YR hi hsel hQ hB fuel (listed.setIfInBounds j true) a' w' (fun k ok hk hki hun hno=>hfree k ok hk hki ?_ hno) (Zr hcl hj) (ready_mono hr (Ne.symm hji)) h3.1 hS' ?_⟩
   ·by_cases hjk:j=k
    ·subst hjk;exact hjun
    ·rw[getD_set_ne true hjk] at hun;exact hun
   ·rw[Array.setIfInBounds_comm _ _ hji]
    exact h3.2.2
theorem Xu {g:Nat}{full:Array Bool}(hs:Region.noSelect ops=true)(hP:Xv .any ops full=true)(hQ:∀(d:Option Tmp) (v:Value) c a w,Q (.panic c) (a.put d v) w→Q (.panic c) a w)(fuel:Nat)(w:World)(hS:S w) :
  ∀(l:List Oper) (k:Nat) (listed:Array Bool) (a:Act),(∀j,j<l.length→l[j]?=ops[k+j]?)→Zk .any ops listed=true→segB ops l.length k listed=true →
   xn P ops S (fun a'=>ZJ P .any ops Q S g full fuel (marks l.length k listed) a' w) l a→ZJ P .any ops Q S g full (l.length+fuel) listed a w
 | [],k,listed,a,_,_,_,h=>by rw[List.length_nil,Nat.zero_add];exact h
 | o::l,k,listed,a,hl,hcl,hB,h=>by
  have h0:ops[k]?=some o:=by simpa using (hl 0 (by simp)).symm
  simp only[List.length_cons,segB,Bool.and_eq_true] at hB;obtain⟨⟨hr,hf⟩,hB⟩:=hB;have hl':∀j,j<l.length→l[j]?=ops[k+1+j]?:=fun j hj=>by have:=hl (j+1) (by simp;omega);simpa [Nat.add_assoc,Nat.add_comm 1 j] using this
  rw[List.length_cons,show l.length+1+fuel=(l.length+fuel)+1 by omega]
  have hr':k∈Region.ready .any ops listed:=by simpa using hr
  rcases h with⟨hw,v,hv,h⟩|⟨hw,h⟩
  ·exact YR h0 (Region.noSelect_spec hs) (fun c a w=>hQ o.dst v c a w) hP _ listed a w (Region.free_spec h0 hf) hcl hr' (.inl ⟨hw,hv⟩) hS (Xu hs hP hQ fuel w hS l (k+1) _ _ hl' (Zr hcl hr') hB h)
  ·exact YR h0 (Region.noSelect_spec hs) (fun c a w=>hQ o.dst undef c a w) hP _ listed a w (Region.free_spec h0 hf) hcl hr' (.inr ⟨hw,rfl⟩) hS (Xu hs hP hQ fuel w hS l (k+1) _ _ hl' (Zr hcl hr') hB h)
theorem ze {l:List Oper}(k n:Nat)(listed listed':Array Bool)(fuel:Nat){g:Nat}{full:Array Bool}{a:Act}{w:World}(hs:Region.noSelect l.toArray=true)(hQ:∀(d:Option Tmp) (v:Value) c a w,Q (.panic c) (a.put d v) w→Q (.panic c) a w)(hS:S w)
  (hB:(segB l.toArray n k listed&&decide (k+n≤l.length)&&(marks n k listed==listed')&&Xv .any l.toArray full&&Zk .any l.toArray listed)=true) (h:xn P l.toArray S (fun a'=>ZJ P .any l.toArray Q S g full fuel listed' a' w) ((l.drop k).take n) a):ZJ P .any l.toArray Q S g full (n+fuel) listed a w:=by
 simp only[Bool.and_eq_true,decide_eq_true_eq,beq_iff_eq] at hB;obtain⟨⟨⟨⟨hB,hn⟩,rfl⟩,hP⟩,hcl⟩:=hB;have hln:((l.drop k).take n).length=n:=by rw[List.length_take,List.length_drop];omega
 have:=Xu (P:=P) (Q:=Q) (S:=S) (g:=g) (full:=full) hs hP hQ fuel w hS ((l.drop k).take n) k listed a (fun j hj=>by
  rw[hln] at hj;rw[List.getElem?_take,if_pos hj,List.getElem?_drop];simp) hcl (by rw[hln];exact hB) (by rw[hln];exact h)
 rwa [hln] at this
theorem Cl {l:List Oper}{i:Nat}{a:Act}{w:World}{K:Act→World→Prop}(h1:Zq P l.toArray Q K a w (l.drop i)):wpOp P l.toArray Q i K a w:=by
 cases hd:l.drop i with
 | nil=>rw[hd] at h1;exact h1.elim
 | cons o r =>
  rw[hd] at h1;have h0:l.toArray[i]?=some o:=by
   have:(l.drop i)[0]?=some o:=by rw[hd];rfl
   rw[List.getElem?_drop] at this
   simpa using this
  unfold wpOp;simp only[h0];rw[if_pos h1.1];exact .inl h1.2
theorem zB {l:List Oper}(k:Nat)(listed listed':Array Bool)(fuel:Nat){g:Nat}{full:Array Bool}{a:Act}{w:World}(hB:(decide (Region.ready .any l.toArray listed=[k])&&(listed.setIfInBounds k true==listed'))=true)
  (h:∀K:Act→World→Prop,(∀a' w',S w'→ZJ P .any l.toArray Q S g full fuel listed' a' w'→K a' w')→Zq P l.toArray Q K a w (l.drop k)):ZJ P .any l.toArray Q S g full (fuel+1) listed a w:=by
 simp only[Bool.and_eq_true,decide_eq_true_eq,beq_iff_eq] at hB;obtain⟨hr,rfl⟩:=hB;refine⟨fun h0=>(by rw[hr] at h0;cases h0),fun i hi=>?_⟩
 rw[hr] at hi;have hik:i=k:=by simpa using hi
 subst hik;exact Cl (h _ (fun a' w' h2 h3=>⟨h2,h3⟩))
theorem zm {listed:Array Bool}{g:Nat}{a:Act}{w:World}(h:wpAny P md ops Q g listed a w):ZJ P md ops Q S g listed 0 listed a w:=⟨rfl,h⟩
theorem yz {listed:Array Bool}(S:World→Prop)(fuel g:Nat)(full:Array Bool){a:Act}{w:World}(h:ZJ P md ops Q S g full fuel listed a w):wpAny P md ops Q (fuel+g) listed a w:=X9 _ _ _ _ h
theorem zP {l:List Oper}(k:Nat){listed:Array Bool}{a:Act}{w:World}(hB:(Region.seqB .any l.toArray (l.drop k).length k listed)=true)(h:wpList P l.toArray Q (l.drop k) a w):wpAny P .any l.toArray Q (l.drop k).length listed a w :=
 wpAny_of_seq (l.drop k) k listed a w (fun j=>by rw[List.getElem?_drop];simp) hB h
theorem zD {listed:Array Bool}{a:Act}{w:World}(hr:Region.ready md ops listed=[])(h:Q .normal a w):wpAny P md ops Q 0 listed a w:=⟨hr,h⟩
theorem zi {id:Nat}{a:Act}{w:World}{l:List Oper}(S:World→Prop)(fuel g:Nat)(listed full:Array Bool)(hm:P.follows .mixedOrders=true)(hB:(decide (l.length=fuel+g)&&(Array.replicate l.length false==listed))=true)
  (h:ZJ P .any l.toArray (NoPanic Q) S g full fuel listed a w.drew):(Code.region id l.toArray true).wp P Q a w:=by
 simp only[Bool.and_eq_true,decide_eq_true_eq,beq_iff_eq] at hB;obtain⟨hl,rfl⟩:=hB;have h1:=X9 _ _ _ _ h;rw[←hl] at h1;exact wp_region_noPanic (wp_region_any hm (by simpa using h1))
end
end Go.Proofs.YtlkjheheofgdgaaGreat
open Go Go.RowKit
namespace Go.Proofs.YtlkjheheofgdgaaGreat
structure Dq where
 q:Nat
 g:Nat
 x:zS
 th:Bool
 dr:Int
 go:Bool
def D9 (w0 w:World)(p:Nat)(T:List Value)(d:Dq)(W:Wd)(D:Wa)(rd:List Int)(ra:Option Addr)(rc:Nat)(R:List zy):Prop :=
 D.fits W∧Own w0 w (zh p W D T++(zf d.q (yn p (d.g:Int) d.x d.th d.dr d.go ra rd.length rc)::zd 1 ra rc rd.length (zr rd)::R))
def yH (w0 w:World)(p:Nat)(T:List Value)(d:Dq)(W:Wd)(rd:List Int)(R:List zy):Prop:=∃D ra rc,D9 w0 w p T d W D rd ra rc R
def Wz (k:Int):Ending:=.panicked [{ v:=.iface 249 (.int .i64 k),recovered:=false }]
def CP (d:Dd):Ending:=match d.tr with
 | none=>.returned (.tuple #[])
 | some k=>Wz k
def ZY (w0:World)(p:Nat)(T:List Value)(d:Dq)(R:List zy)(m:Dd)(r:Ending)(w':World):Prop:=r=CP m∧yH w0 w' p T d m.W m.rd R
theorem yH.step {w0 w w':World}{p:Nat}{T:List Value}{d:Dq}{W:Wd}{rd:List Int}{R:List zy}(h:yH w0 w p T d W rd R)(hb:Below w.heap.size w w'):yH w0 w' p T d W rd R:=by
 obtain⟨D,ra,rc,hf,h⟩:=h;exact⟨D,ra,rc,hf,h.step hb⟩
theorem ZV {w:World}{s cap:Nat}{G:Gt}(h:zR w s G.n cap G.z)(hn:1≤G.n)(a:Nat)(ha:a<8):w.cell? ⟨s,(G.n-1)*11+2+a,none⟩=some (.int .i64 (G.rg (a:Int)))∧w.frozen? ⟨s,(G.n-1)*11+2+a,none⟩=false:=by
 obtain⟨x,hx,h1,h2⟩:=h.cell ((G.n-1)*11+2+a) (by omega)
 have e:G.rg (a:Int)=x:=by unfold Gt.rg Gt.o;rw[List.getD_eq_getElem?_getD];simp only[Int.toNat_natCast];rw[hx];rfl
 rw[e];exact⟨h1,h2⟩
theorem yI {a:Int}{n:Nat}(h:0≤a∧a<(n:Int)):∃k:Nat,a=(k:Int)∧k<n:=⟨a.toNat,by omega,by omega⟩
theorem zv (w:World)(k:Nat):Below w.heap.size w (w.drewN k):=⟨rfl,rfl,rfl,Nat.le_refl _,fun _ _=>rfl⟩
theorem Own.q2 {w0 w w':World}{As:List zy}{j k:Nat}(h:Own w0 w As)(e:w'=(w.drewN j).drewN k):Own w0 w' As:=by rw[e];exact(h.step (zv w j)).step (zv _ k)
theorem Own.q1 {w0 w w':World}{As:List zy}{k:Nat}(h:Own w0 w As)(e:w'=w.drewN k):Own w0 w' As:=by rw[e];exact h.step (zv w k)
theorem VX {w w':World}{j k:Nat}(e:w'=(w.drewN j).drewN k):∃n,w'=w.drewN n:=⟨j+k,by rw[e,World.drewN_drewN]⟩
theorem zE (w:World):∃n,w.drew=w.drewN n:=⟨1,rfl⟩
structure Cy (w0 w:World) (p:Nat) (T:List Value) (d:Dq) (W:Wd) (D:Wa) (b off s cap:Nat):Prop where
 top:Q6 w d.q p d.g b off s (W.g d.g).n cap W.gs.length D.ac
 aa:D.aa=some ⟨b,off,none⟩
 sk:D.sk[d.g]?=some (s,cap)
 stk:zR w s (W.g d.g).n cap (W.g d.g).z
 st:w.cell? ⟨b,off+d.g*2,none⟩=some (.int .i64 (W.g d.g).st)∧w.frozen? ⟨b,off+d.g*2,none⟩=false
 sl:w.frozen? ⟨b,off+d.g*2+1,none⟩=false
theorem ZI {w0 w:World}{p:Nat}{T:List Value}{d:Dq}{W:Wd}{D:Wa}{ra:Option Addr}{n rc:Nat}{Y:List zy}(hf:D.fits W)(h:Own w0 w (zh p W D T++(zf d.q (yn p (d.g:Int) d.x d.th d.dr d.go ra n rc)::Y)))(hg:d.g<W.gs.length)(hm:1≤(W.g d.g).n∧(W.g d.g).n≤16) :
  ∃b off s cap,Cy w0 w p T d W D b off s cap:=by
 obtain⟨s,cap,hs⟩:=hf.Yn hg;obtain⟨b,off,h1,h2,h3,h4,h5⟩:=Yx h hg hs;exact⟨b,off,s,cap,T8 h (h.zo 10 rfl) hg hs h1 hm,h1,hs,(YT h hg hs).1,⟨h2,h3⟩,h5⟩
theorem Cy.Z8 {w0 w:World}{p:Nat}{T:List Value}{d:Dq}{W:Wd}{D:Wa}{b off s cap m:Nat}(h:Cy w0 w p T d W D b off s cap)(hm:m=(W.g d.g).n-1)(k:Nat) :
  Calls Tryz.prog 118 #[.pointer (some ⟨d.q,0,none⟩)] (w.drewN k) fun r w'=>r=.returned (.pointer (some ⟨s,m*11,none⟩))∧∃j,w'=(w.drewN k).drewN j:=by
 rw[hm];exact Xo (h.top.drewN k)
theorem Cy.DC {w0 w:World}{p:Nat}{T:List Value}{d:Dq}{W:Wd}{D:Wa}{b off s cap:Nat}(h:Cy w0 w p T d W D b off s cap)(k:Nat) :
  Calls Tryz.prog 121 #[.pointer (some ⟨d.q,0,none⟩)] (w.drewN k) fun r w'=>r=.returned (.pointer (some ⟨b,off+d.g*2,none⟩))∧∃j,w'=(w.drewN k).drewN j:=QF (h.top.drewN k)
theorem El {lp:List Nat}{Ls:List (List Int)}{i pt:Nat}{L:List Int}(hp:lp[i]?=some pt)(hL:Ls[i]?=some L):(RH lp Ls)[i]?=some (Ye pt L):=by
 unfold RH;rw[List.getElem?_zipWith,hp,hL]
theorem G7 {lp:List Nat}{Ls:List (List Int)}{i pt:Nat}(L:List Int)(hp:lp[i]?=some pt)(hi:i<Ls.length):(RH lp Ls).set i (Ye pt L)=RH lp (Ls.set i L):=by
 apply List.ext_getElem?
 intro j;have hpl:=(List.getElem?_eq_some_iff.1 hp).1
 unfold RH;rw[List.getElem?_set]
 by_cases e:i=j
 ·subst e
  rw[if_pos rfl,if_pos (by simp;omega),List.getElem?_zipWith,hp,List.getElem?_set_self hi]
 ·rw[if_neg e,List.getElem?_zipWith,List.getElem?_zipWith,List.getElem?_set_ne e]
theorem Wd.SF {W:Wd}{i:Nat}(hi:i<W.Ls.length):W.Ls[i]?=some (W.lk (i:Int)):=by unfold Wd.lk;rw[List.getD_eq_getElem?_getD,Int.toNat_natCast,List.getElem?_eq_getElem hi];rfl
theorem Wd.UY {W:Wd}{i:Nat}(hi:i<W.Cs.length):W.Cs[i]?=some (W.ch (i:Int)):=by unfold Wd.ch;rw[List.getD_eq_getElem?_getD,Int.toNat_natCast,List.getElem?_eq_getElem hi];rfl
theorem Wd.Yt (W:Wd)(i j:Nat)(G:Gt)(hi:i<W.gs.length):(W.ye i G).g j=if i=j then G else W.g j:=by
 unfold Wd.g Wd.ye;simp only[List.getD_eq_getElem?_getD,List.getElem?_set]
 by_cases e:i=j
 ·rw[if_pos e,if_pos e,if_pos hi];rfl
 ·rw[if_neg e,if_neg e]
theorem Wd.OH (W:Wd)(i:Nat)(k v:Int):(W.put i k v).gs.length=W.gs.length:=by unfold Wd.put Wd.ye;simp
theorem Wd.FJ (W:Wd)(i j:Nat)(k v:Int)(hi:i<W.gs.length):((W.put i k v).g j).n=(W.g j).n:=by
 unfold Wd.put;rw[Wd.Yt _ _ _ _ hi];split
 ·rename_i e;subst e;rfl
 ·rfl
theorem SK {w0 w:World}{p:Nat}{W:Wd}{D:Wa}{T:List Value}{R:List zy}(h:Own w0 w (zh p W D T++R))(hf:D.fits W){i:Nat}(hi:i<W.Ls.length) :
  ∃pt b off R',D.la=some ⟨b,off,none⟩∧w.cell? ⟨b,off+i,none⟩=some (.pointer (some ⟨pt,0,none⟩))∧Own w0 w (Ye pt (W.lk (i:Int))::R') ∧
   ∀w' L',Own w0 w' (Ye pt L'::R')→Own w0 w' (zh p { W with Ls:=W.Ls.set i L' } D T++R)∧D.fits { W with Ls:=W.Ls.set i L' }:=by
 have hlp:i<D.lp.length:=by rw[hf.l];exact hi
 have hp:=List.getElem?_eq_getElem hlp
 obtain⟨b,off,h1,h2⟩:=(h.yZ 6 rfl).cells i (.pointer (some ⟨D.lp[i],0,none⟩)) (by unfold W8;rw[List.getElem?_map,hp];rfl)
 obtain⟨R',k1,k2⟩:=(h.pick 7 rfl).ZZ (El hp (Wd.SF hi))
 refine⟨D.lp[i],b,off,_,h1,h2,k1,fun w' L' h'=>⟨?_,⟨hf.f,hf.g,hf.c,hf.n,by simp[hf.l],hf.k⟩⟩⟩
 have h3:=k2 w' _ _ h';rw[G7 L' hp hi] at h3
 have h4:=h3.back (i:=7) (As:=zh p W D T++R) (by simp[zh])
 have e:(zh p W D T++R).set 7 (yT (RH D.lp (W.Ls.set i L')))=zh p { W with Ls:=W.Ls.set i L' } D T++R:=by
  simp only[zh,yD,List.length_set];rfl
 rw[e] at h4;exact h4
theorem Yz {w0 w:World}{p:Nat}{W:Wd}{D:Wa}{T:List Value}{R:List zy}(h:Own w0 w (zh p W D T++R))(hf:D.fits W){i:Nat}(hi:i<W.Cs.length) :
  ∃pt b off R',D.ps[i]?=some pt∧D.ha=some ⟨b,off,none⟩∧w.cell? ⟨b,off+i,none⟩=some (.pointer (some ⟨pt,0,none⟩))∧Own w0 w (yv pt (W.Ns.getD i 0) (W.ch (i:Int))::R') ∧
   ∀w' C',Own w0 w' (yv pt (W.Ns.getD i 0) C'::R')→Own w0 w' (zh p (W.zM (i:Int) C') D T++R)∧D.fits (W.zM (i:Int) C'):=by
 have hlp:i<D.ps.length:=by rw[hf.c];exact hi
 have hln:i<W.Ns.length:=by rw[hf.n];exact hi
 have hz:(List.zip D.ps W.Ns)[i]?=some (D.ps[i],W.Ns.getD i 0):=Wo (List.getElem?_eq_getElem hlp) (by rw[List.getD_eq_getElem?_getD,List.getElem?_eq_getElem hln];rfl)
 obtain⟨b,off,h1,h2⟩:=(h.yZ 4 rfl).cells i _ (TT _ i _ hz)
 obtain⟨R',k1,k2⟩:=(h.pick 5 rfl).ZZ (So hz (Wd.UY hi))
 refine⟨D.ps[i],b,off,_,List.getElem?_eq_getElem hlp,h1,h2,k1,fun w' C' h'=>⟨?_,⟨hf.f,hf.g,by simp[hf.c,Wd.zM],by simp[hf.n,Wd.zM],hf.l,hf.k⟩⟩⟩
 have h3:=k2 w' _ _ h';rw[TQ C' hz hi] at h3
 have h4:=h3.back (i:=5) (As:=zh p W D T++R) (by simp[zh])
 have e:(zh p W D T++R).set 5 (yT (YF (List.zip D.ps W.Ns) (W.Cs.set i C')))=zh p (W.zM (i:Int) C') D T++R:=by
  simp only[zh,yD,List.length_set,Wd.zM,Int.toNat_natCast];rfl
 rw[e] at h4;exact h4
theorem LG:∀w,(sizeOf (Tryz.prog.elem 63)).run Tryz.prog w=.ok 3 w:=fun w=>by kernel_rfl
theorem NQ:Tryz.prog.underlying 63=some (.slice (Tryz.prog.elem 63)):=by kernel_rfl
theorem Ma {P:Program}{t:TypeId}{s:Nat}(ht:P.underlying t=some (.slice (P.elem t)))(hs:∀w,(sizeOf (P.elem t)).run P w=.ok s w)(a:Option Addr)(n cap A B:Nat)(hB:1≤B)(hn:A+B≤n)(hc:n≤cap) :
  ∃a',(∀w,(Instr.slice t (.slice a n cap) (some (.int .i64 (A:Int))) (some (.int .i64 ((A:Int)+(B:Int)))) none).run P w=.ok (.slice a' B (cap-A)) w)∧yf a'=yf a ∧
   ∀w cs,zt w a cs→zt w a' ((cs.drop (A*s)).take (B*s)):=by
 refine⟨a.map (·.add (A*s)),fun w=>?_,?_,fun w cs h=>?_⟩
 ·rw[run_slice_lh (P:=P) (w:=w) t a n cap ht .i64 .i64 (A:Int) ((A:Int)+(B:Int)) (by omega) (by omega) (by omega),hs w]
  have e1:((A:Int)+(B:Int)).toNat=A+B:=by omega
  have e2:(A:Int).toNat=A:=by omega
  have e3:¬cap=A:=by omega
  have e4:A+B-A=B:=by omega
  simp only[Result.andThen,sliced,e1,e2,if_neg e3,e4]
 ·cases a with
  | none=>rfl
  | some x=>simp[yf,Addr.add];cases x;simp[Addr.add];split<;>rfl
 ·intro j v hj
  rw[List.getElem?_take] at hj
  split at hj
  ·rw[List.getElem?_drop] at hj
   obtain⟨b,off,rfl,hc⟩:=h _ _ hj;exact⟨b,off+A*s,by simp[Addr.add],by rw[Nat.add_assoc];exact hc⟩
  ·cases hj
def R9 (W:Wd)(x:zS):Prop:=x.1=13∨x.1=14∨x.1=16∧0≤x.2.1∧1≤x.2.2.1∧x.2.1+x.2.2.1≤(W.ks.length:Int)
def SD (D:Wa)(W:Wd)(x:zS)(a:Option Addr)(Z:zy):Prop:=∀w F G,(Xl D.fa D.fr W.fs D.ca W.ks).at_ w F→Z.at_ w G→zt w a (WN (W.yA x))
theorem Jx (l:List Zc)(n:Nat):WN (l.drop n)=(WN l).drop (n*3):=M7 l n
theorem JR (l:List Zc)(n:Nat):WN (l.take n)=(WN l).take (n*3):=Rj l n
theorem Fl (l:List Zc):(WN l).length=l.length*3:=P5 l
theorem SD.cells {D:Wa}{W:Wd}{x:zS}{a:Option Addr}{Z:zy}(hP:SD D W x a Z){w0 w:World}{As:List zy}(h:Own w0 w As)(i k:Nat)(hi:As[i]?=some (Xl D.fa D.fr W.fs D.ca W.ks))(hk:As[k]?=some Z):zt w a (WN (W.yA x)):=by
 obtain⟨F,h1,-⟩:=h.fact i hi;obtain⟨G,h2,-⟩:=h.fact k hk;exact hP w F G h1 h2
theorem Z0 {w0 w:World}{p:Nat}{W:Wd}{D:Wa}{T:List Value}{Y:List zy}(h:Own w0 w (zh p W D T++Y))(hf:D.fits W)(x:zS)(hx:R9 W x)(hk:W.ks.length≤1000) :
  Calls Tryz.prog 116 #[.pointer (some ⟨p,0,none⟩),.agg #[.int .i64 x.1,.int .i64 x.2.1,.int .i64 x.2.2.1,.int .i64 x.2.2.2]] w fun r w'=>∃a c Z,r=.returned (.slice a (W.yA x).length c)∧SD D W x a Z∧(W.yA x).length≤1000∧Own w0 w' (Z::(zh p W D T++Y))∧Below w.heap.size w w':=by
 obtain⟨op,A,B,C⟩:=x;have hw1:w.heap.size<(w.alloc (.cells #[.int .i64 op,.int .i64 A,.int .i64 B,.int .i64 C] 86)).heap.size:=by simp
 have hB:=below_alloc1 w (.cells #[.int .i64 op,.int .i64 A,.int .i64 B,.int .i64 C] 86)
 have HX:=zF.mk w [.int .i64 op,.int .i64 A,.int .i64 B,.int .i64 C] 86 w.heap.size rfl
 have x0:=(HX 0 _ rfl).1
 have x1:=(HX 1 _ rfl).1
 have x2:=(HX 2 _ rfl).1
 have h1:=h.step hB;have p1:=(h1.zo 0 rfl 1 _ rfl).1
 go_enter Tryz.func116,Tryz.ntmps116
 go_upto_region 1 with fail
 generalize w.alloc (.cells #[.int .i64 op,.int .i64 A,.int .i64 B,.int .i64 C] 86)=w1 at *
 generalize hsz:w.heap.size=sz at *
 have HSZ:=Qq hsz;clear hsz;have HB:=Qq hB;have H1:=Qq h1;clear hB h1 h HX;rcases hx with hx|hx|⟨hx,hA0,hB0,hAB⟩
 ·simp only at hx
  subst hx;have HZ:Hid (∃a c Z,Value.slice (some ⟨w1.heap.size,0,none⟩) 1 1=.slice a (W.yA (13,A,B,C)).length c∧SD D W (13,A,B,C) a Z∧(W.yA (13,A,B,C)).length≤1000∧Own w0 (w1.alloc (.cells #[.int .i64 1,.int .i64 A,.int .i64 B] 129)) (Z::(zh p W D T++Y))∧Below sz w (w1.alloc (.cells #[.int .i64 1,.int .i64 A,.int .i64 B] 129))):=Qq
   ⟨_,1,zd 3 (some ⟨w1.heap.size,0,none⟩) 1 1 (WN [(1,A,B)]),rfl,fun w F G hF hG=>hG.2.cells,by simp[Wd.yA],H1.out.add (below_alloc1 _ _) (F:=[w1.heap.size]) ⟨rfl,zU.new 3 1 w1 (WN [(1,A,B)]) _ rfl (by simp[maxLen]) rfl⟩ (fun x hx=>by simp at hx;omega),HB.out.trans ((below_alloc1 w1 _).mono (by omega))⟩
  clear p1 H1 HB;go_wp2;go_ret;obtain⟨a,c,Z,e,k⟩:=HZ.out;rw[HSZ.out];exact⟨a,c,Z,by rw[e];rfl,k⟩
 ·simp only at hx
  subst hx;have HZ:Hid (∃a c Z,Value.slice (some ⟨w1.heap.size,0,none⟩) 1 1=.slice a (W.yA (14,A,B,C)).length c∧SD D W (14,A,B,C) a Z∧(W.yA (14,A,B,C)).length≤1000∧Own w0 (w1.alloc (.cells #[.int .i64 0,.int .i64 A,.int .i64 B] 129)) (Z::(zh p W D T++Y))∧Below sz w (w1.alloc (.cells #[.int .i64 0,.int .i64 A,.int .i64 B] 129))):=Qq
   ⟨_,1,zd 3 (some ⟨w1.heap.size,0,none⟩) 1 1 (WN [(0,A,B)]),rfl,fun w F G hF hG=>hG.2.cells,by simp[Wd.yA],H1.out.add (below_alloc1 _ _) (F:=[w1.heap.size]) ⟨rfl,zU.new 3 1 w1 (WN [(0,A,B)]) _ rfl (by simp[maxLen]) rfl⟩ (fun x hx=>by simp at hx;omega),HB.out.trans ((below_alloc1 w1 _).mono (by omega))⟩
  clear p1 H1 HB;go_wp2;go_ret;obtain⟨a,c,Z,e,k⟩:=HZ.out;rw[HSZ.out];exact⟨a,c,Z,by rw[e];rfl,k⟩
 ·simp only at hx hA0 hB0 hAB
  subst hx;obtain⟨a,rfl⟩:=Int.eq_ofNat_of_zero_le hA0;obtain⟨n,rfl⟩:=Int.eq_ofNat_of_zero_le (by omega:0≤B)
  obtain⟨a',s1,s2,s3⟩:=Ma NQ LG D.ca W.ks.length D.cc a n (by omega) (by omega) hf.k
  have hw:IntKind.i64.wrap ((a:Int)+(n:Int))=(a:Int)+(n:Int):=by rw[IntKind.wrap_i64];omega
  have e:W.yA (16,(a:Int),(n:Int),C)=(W.ks.drop a).take n:=by simp[Wd.yA]
  have el:((W.ks.drop a).take n).length=n:=by rw[List.length_take,List.length_drop];omega
  have He:=Qq e;have Hel:=Qq el;have HZ:Hid (∀k,∃Z,SD D W (16,(a:Int),(n:Int),C) a' Z∧Own w0 (w1.drewN k) (Z::(zh p W D T++Y))∧Below sz w (w1.drewN k)):=Qq
   (fun k=>⟨Cp,fun w F G hF hG=>by rw[e,JR,Jx];exact s3 w _ hF.2.2.1.2,(H1.out.step (zv w1 k)).add (Below.refl _ _) (F:=[]) rfl (fun x hx=>by simp at hx),HB.out.trans ((zv w1 k).mono (by omega))⟩)
  have HS:=Qq s1;have hn1:n≤1000:=by omega
  clear s2 s3 H1 HB e el hf hAB;go_upto_region 6 with fail
  refine zi (fun wx=>∃nq,wx=World.drewN (w1) nq) 13 0 (Array.replicate 13 false) (Qj 13 8191) (by kernel_rfl) (by kernel_rfl) ?_
  refine ze 0 13 _ (Qj 13 8191) 0 (by kernel_rfl) za (zE w1) (by kernel_rfl) ?_
  simp only[QX,QV,QJ];(repeat((first|refine Qx (h:=?_)|refine Qw (h:=?_));simp only[Act.put,QW,QY,QZ]));refine zb ?_;refine zm ?_;refine zD (by kernel_rfl) (NoPanic.normal ?_)
  go_wp2;go_ret;obtain⟨Z,k1,k2⟩:=HZ.out 1;rw[HSZ.out,He.out,Hel.out];exact⟨a',D.cc-a,Z,rfl,k1,hn1,k2⟩
theorem Own.XW {w0 w:World}{A:zy}{L Y:List zy}(h:Own w0 w (A::(L++Y))):Own w0 w (L++(A::Y)):=h.perm (List.perm_middle).symm
theorem Own.yB {w0 w:World}{A:zy}{L Y:List zy}(h:Own w0 w (L++(A::Y))):Own w0 w (A::(L++Y)):=h.perm List.perm_middle
structure Wn (W:Wd) (x:zS) (by_:Wt):Prop where
 ix:R9 W x
 k:W.ks.length≤1000
 g:0≤by_.1∧by_.1<(W.gs.length:Int)
 gl:W.gs.length≤1000
 n:1≤(W.g by_.1.toNat).n∧(W.g by_.1.toNat).n≤16
 j:0≤by_.2.1∧by_.2.1<((W.yA x).length:Int)
 c:∀c∈W.yA x,c.1=0→0≤c.2.2∧c.2.2<8
 r:x.1=14∨x.1=16→0≤x.2.2.2∧x.2.2.2<8
theorem TP {w0 w:World}{p:Nat}{W:Wd}{D:Wa}{T:List Value}{Y:List zy}{x:zS}{by_:Wt}(some_:Bool)(h:Own w0 w (zh p W D T++Y))(hf:D.fits W)(ok:Wn W x by_) :
  Calls Tryz.prog 172 #[.pointer (some ⟨p,0,none⟩),.agg #[.int .i64 x.1,.int .i64 x.2.1,.int .i64 x.2.2.1,.int .i64 x.2.2.2],wv by_,.bool some_] w fun r w'=>r=.returned (.tuple #[])∧Own w0 w' (zh p (W.fin x by_ some_) D T++Y)∧D.fits (W.fin x by_ some_):=by
 obtain⟨hx,hk,hg,hgl,hm,hj,hc,hr⟩:=ok;obtain⟨k,hK,hk8⟩:=yI (n:=W.gs.length) hg
 obtain⟨j,hJ,hj8⟩:=yI (n:=(W.yA x).length) hj
 obtain⟨op,A,B,C⟩:=x;obtain⟨b1,b2,v⟩:=by_;simp only at hK hJ
 subst hK hJ;simp only[Int.toNat_natCast] at hm;obtain⟨s,cap,hs⟩:=hf.Yn hk8;have hA:=(((h.alloc [.int .i64 op,.int .i64 A,.int .i64 B,.int .i64 C] 86 (b:=w.heap.size) rfl).alloc [.int .i64 (k:Int),.int .i64 (j:Int),.int .i64 v] 270 (b:=w.heap.size+1) (by simp)).XW (L:=zf w.heap.size [.int .i64 op,.int .i64 A,.int .i64 B,.int .i64 C]::zh p W D T)).XW
 unfold wv;simp only
 obtain⟨m,hmm⟩:∃m,m=(W.g k).n-1:=⟨_,rfl⟩
 have Z8:∀w,Calls Tryz.prog 112 #[.slice (some ⟨s,0,none⟩) (W.g k).n cap] w fun e w'=>e=.returned (.pointer (some ⟨s,m*11,none⟩))∧w'=w:=fun w=>by
  have:=WL s m cap w (by omega)
  rw[show m+1=(W.g k).n by omega] at this
  exact this
 have HT:=Qq Z8;have HS:Hid (∀(W1:Wd) (wx:World) (Y1:List zy),Own w0 wx (zh p W1 D T++Y1)→D.fits W1→W1.gs.length=W.gs.length→(W1.g k).n=(W.g k).n→∀(a:Nat) (u:Int),a<8 →
   (∃v0,wx.cell? ⟨s,m*11+2+a,none⟩=some v0)∧wx.frozen? ⟨s,m*11+2+a,none⟩=false∧Own w0 (wx.setCell ⟨s,m*11+2+a,none⟩ (.int .i64 u)) (zh p (W1.put k (a:Int) u) D T++Y1)∧D.fits (W1.put k (a:Int) u)):=Qq (fun W1 wx Y1 ho hf1 hl1 hn1 a u ha=>by
  have hk1:k<W1.gs.length:=by omega
  obtain⟨r0,r1⟩:=ZV (YT ho hk1 hs).1 (by rw[hn1];exact hm.1) a ha
  have r2:=VE ho hk1 hs a u;rw[hn1,←hmm] at r0 r1 r2;exact⟨⟨_,r0⟩,r1,r2,hf1.ye _ _⟩)
 clear Z8;obtain⟨b,off,haa,-,-,sl,-⟩:=Yx hA hk8 hs;have p2:=(hA.zo 0 rfl 2 _ rfl).1
 have q0:=(hA.zo 11 rfl 0 _ rfl).1
 rw[haa] at p2;have k0:(0:Int)≤(k:Int):=by omega
 have k8:(k:Int)<(W.gs.length:Int):=by omega
 have j0:(0:Int)≤(j:Int):=by omega
 have j8:(j:Int)<((W.yA (op,A,B,C)).length:Int):=by omega
 have HA:=Qq hA;have HK:=Qq hk;have HX:=Qq hx;obtain⟨n,hn⟩:∃n,n=(W.g k).n:=⟨_,rfl⟩
 obtain⟨N,hN⟩:∃N,N=W.gs.length:=⟨_,rfl⟩
 rw[←hn] at HT sl;rw[←hN] at p2 k8;have HN:=Qq hN;have Hn:=Qq hn;have HF:=Qq hf;have HCx:=Qq hc;have HRx:=Qq hr;have HK8:=Qq hk8;clear hA h hs hmm haa hm hgl hg hj hN hn hf hk hx hc hr hk8;go_enter Tryz.func172,Tryz.ntmps172
 go_upto_region 1 with fail
 generalize ((w.alloc (.cells #[.int .i64 op,.int .i64 A,.int .i64 B,.int .i64 C] 86)).alloc (.cells #[.int .i64 (k:Int),.int .i64 (j:Int),.int .i64 v] 270))=w1 at *
 generalize w.heap.size=bx at *;refine zi (fun wx=>∃nq,wx=World.drewN (w1) nq) 13 0 (Array.replicate 13 false) (Qj 13 8191) (by kernel_rfl) (by kernel_rfl) ?_
 refine ze 0 9 _ (Qj 13 511) 4 (by kernel_rfl) za (zE w1) (by kernel_rfl) ?_
 simp only[QX,QV,QJ];(repeat((first|refine Qx (h:=?_)|refine Qw (h:=?_));simp only[Act.put,QW,QY,QZ]));refine zb ?_;refine zB 9 _ (Qj 13 1023) 3 (by kernel_rfl) (fun K hK=>?_)
 have HKK:=Qq hK;clear hK;simp only[QQ,QJ];refine zc (by rfl) ?_;go_simp;refine(HT.out _).mono ?_
 rintro r w2 ⟨rfl,rfl⟩;refine HKK.out _ _ (zE w1) ?_
 clear HKK K;refine ze 10 3 _ (Qj 13 8191) 0 (by kernel_rfl) za (zE w1) (by kernel_rfl) ?_
 simp only[QX,QV,QQ,QJ];(repeat((first|refine Qx (h:=?_)|refine Qw (h:=?_));simp only[Act.put,QW,QY,QZ]));refine zb ?_;refine zm ?_;refine zD (by kernel_rfl) (NoPanic.normal ?_)
 go_upto_region 2 with fail
 have H1:=Qq (HA.out.step (zg w1))
 clear HA q0 p2 sl;obtain⟨c0,c1,c2,hcc⟩:∃c0 c1 c2,(W.yA (op,A,B,C))[j]?=some (c0,c1,c2):=⟨_,_,_,List.getElem?_eq_getElem hj8⟩
 have HCC:=Qq hcc;have hge:(W.yA (op,A,B,C))[j]=(c0,c1,c2):=(List.getElem?_eq_some_iff.1 hcc).2
 have HGE:=Qq hge;clear hcc hge;go_cut [9] (fun s9 wx=>∃cb c0 c1 c2,s9=.pointer (some ⟨cb,0,none⟩)∧(W.yA (op,A,B,C))[j]?=some (c0,c1,c2)∧Own w0 wx (zh p W D T++(zf cb [.int .i64 c0,.int .i64 c1,.int .i64 c2]::zf bx [.int .i64 op,.int .i64 A,.int .i64 B,.int .i64 C]::zf (bx+1) [.int .i64 (k:Int),.int .i64 (j:Int),.int .i64 v]::Y)))
 case first =>
  have SB:∀(wx:World) (Z:List zy),Own w0 wx (zh p W D T++(zf bx [.int .i64 op,.int .i64 A,.int .i64 B,.int .i64 C]::zf (bx+1) [.int .i64 (k:Int),.int .i64 (j:Int),.int .i64 v]::Z)) →
    wx.cell? ⟨bx,0,none⟩=some (.int .i64 op)∧wx.cell? ⟨bx,1,none⟩=some (.int .i64 A)∧wx.cell? ⟨bx,2,none⟩=some (.int .i64 B)∧wx.cell? ⟨bx,3,none⟩=some (.int .i64 C)∧wx.cell? ⟨bx+1,1,none⟩=some (.int .i64 (j:Int))∧bx<wx.heap.size:=by
   intro wx Z ho;have hc:=ho.zo 10 rfl;exact⟨(hc 0 _ rfl).1,(hc 1 _ rfl).1,(hc 2 _ rfl).1,(hc 3 _ rfl).1,(ho.zo 11 rfl 1 _ rfl).1,World.block_lt_of_cell? wx _ (hc 0 _ rfl).1⟩
  have o1:=H1.out.step (zg _)
  refine xY (fun wx=>wx.cell? ⟨bx,0,none⟩=some (.int .i64 op)∧wx.cell? ⟨bx,1,none⟩=some (.int .i64 A)∧wx.cell? ⟨bx,2,none⟩=some (.int .i64 B)∧wx.cell? ⟨bx,3,none⟩=some (.int .i64 C)∧wx.cell? ⟨bx+1,1,none⟩=some (.int .i64 (j:Int))∧bx<wx.heap.size) 9 (Array.replicate 9 false) (by kernel_rfl) (by kernel_rfl) ?_
  refine zY 0 2 _ (Qj 9 3) 7 (by kernel_rfl) za (SB _ _ o1) (by kernel_rfl) ?_
  simp only[QX,QV,QJ];(repeat((first|refine Qx (h:=?_)|refine Qv (h:=?_));simp only[Act.put,QW,QY,QZ]));refine zb ?_;refine zY 3 2 _ (Qj 9 27) 5 (by kernel_rfl) za (SB _ _ o1) (by kernel_rfl) ?_
  simp only[QX,QV,QQ,QJ];(repeat((first|refine Qx (h:=?_)|refine Qv (h:=?_));simp only[Act.put,QW,QY,QZ]));refine zb ?_;refine Zl 2 7 _ (Qj 9 31) (Qj 9 155) 4 (by kernel_rfl) (fun K hK=>?_) (fun K hK=>?_)
  ·skip
   have HKK:=Qq hK;clear hK;simp only[QQ,QJ];refine zc (by rfl) ?_;go_simp;refine(Z0 o1 HF.out (op,A,B,C) HX.out HK.out).mono ?_
   rintro r w3 ⟨a,ca,Z,rfl,hP,hl,o3,-⟩
   obtain⟨cbk,co,rfl,y0,y1,y2⟩:=(hP.cells o3 2 0 rfl rfl).wt j (by simpa using hj8)
   rw[HGE.out] at y0 y1 y2;have o4:=o3.drop;refine HKK.out _ _ (SB _ _ o4) ?_
   clear HKK K;refine zY 5 1 _ (Qj 9 63) 3 (by kernel_rfl) za (SB _ _ o4) (by kernel_rfl) ?_
   simp only[QX,QV,QQ,QJ];(repeat((first|refine Qx (h:=?_)|refine Qv (h:=?_));simp only[Act.put,QW,QY,QZ]));refine zb ?_;refine Zl 6 7 _ (Qj 9 127) (Qj 9 191) 2 (by kernel_rfl) (fun K hK=>?_) (fun K hK=>?_)
   ·skip
    have HKK:=Qq hK;clear hK;simp only[QQ,QJ];refine zc (by rfl) ?_;go_simp;refine HKK.out _ _ (SB _ _ o4) ?_
    clear HKK K;have o5:=o4.alloc [.int .i64 0,.int .i64 0,.int .i64 0] 129 (b:=w3.heap.size) rfl
    refine yq 7 _ (Qj 9 255) 1 (by kernel_rfl) (fun K hK=>?_)
    have HKK:=Qq hK;clear hK;simp only[QQ,QJ];refine zc (by rfl) ?_;go_simp;refine HKK.out _ _ (SB _ _ o5.drop) ?_
    clear HKK K;have HOx:=Qq ((o4.alloc [.int .i64 c0,.int .i64 c1,.int .i64 c2] 129 (b:=w3.heap.size) rfl).XW)
    refine xl 8 _ (Qj 9 511) (by kernel_rfl) (fun K hK=>?_)
    have HKK:=Qq hK;clear hK;simp only[QQ,QJ];refine zc (by rfl) ?_;go_simp;refine HKK.out _ _ (NoPanic.normal ?_)
    clear HKK K;go_wp2_with fail;go_meet;exact⟨_,c0,c1,c2,rfl,HCC.out,HOx.out⟩
   ·skip
    have HKK:=Qq hK;clear hK;simp only[QQ,QJ];refine zc (by rfl) ?_;go_simp;have o5:=o4.alloc [.int .i64 0,.int .i64 0,.int .i64 0] 129 (b:=w3.heap.size) rfl
    refine HKK.out _ _ (SB _ _ o5.drop) ?_
    clear HKK K;have y0':∀q,(w3.alloc q).cell? ⟨cbk,co+j*3,none⟩=some (.int .i64 c0):=fun q=>zj y0 (below_alloc1 w3 q)
    have y1':∀q,(w3.alloc q).cell? ⟨cbk,co+j*3+1,none⟩=some (.int .i64 c1):=fun q=>zj y1 (below_alloc1 w3 q)
    have y2':∀q,(w3.alloc q).cell? ⟨cbk,co+j*3+2,none⟩=some (.int .i64 c2):=fun q=>zj y2 (below_alloc1 w3 q)
    refine yq 6 _ (Qj 9 255) 1 (by kernel_rfl) (fun K hK=>?_)
    have HKK:=Qq hK;clear hK;simp only[QQ,QJ];refine zc (by rfl) ?_;go_simp;refine HKK.out _ _ (SB _ _ o5.drop) ?_
    clear HKK K;have HOx:=Qq ((o4.alloc [.int .i64 c0,.int .i64 c1,.int .i64 c2] 129 (b:=w3.heap.size) rfl).XW)
    refine xl 8 _ (Qj 9 511) (by kernel_rfl) (fun K hK=>?_)
    have HKK:=Qq hK;clear hK;simp only[QQ,QJ];refine zc (by rfl) ?_;go_simp;refine HKK.out _ _ (NoPanic.normal ?_)
    clear HKK K;go_wp2_with fail;go_meet;exact⟨_,c0,c1,c2,rfl,HCC.out,HOx.out⟩
  ·skip
   have o5:=(o1.alloc [.int .i64 0,.int .i64 0,.int .i64 0] 129 (b:=w1.heap.size) rfl).XW
   have hcb:=World.block_lt_of_cell? _ _ (o5.zo 10 rfl 0 _ rfl).1
   have HKK:=Qq hK;clear hK;simp only[QQ,QJ];refine zc (by rfl) ?_;go_simp;refine HKK.out _ _ (SB _ _ o5.yB.drop) ?_
   clear HKK K;refine yq 2 _ (Qj 9 159) 3 (by kernel_rfl) (fun K hK=>?_)
   have HKK:=Qq hK;clear hK;simp only[QQ,QJ];refine zc (by rfl) ?_;go_simp;refine(Z0 o5 HF.out (op,A,B,C) HX.out HK.out).mono ?_
   rintro r w3 ⟨a,ca,Z,rfl,hP,hl,o3,-⟩
   obtain⟨cbk,co,rfl,y0,y1,y2⟩:=(hP.cells o3 2 0 rfl rfl).wt j (by simpa using hj8)
   rw[HGE.out] at y0 y1 y2;have o6:=o3.drop;refine HKK.out _ _ (SB _ _ o6.yB.drop) ?_
   clear HKK K;refine zY 5 1 _ (Qj 9 191) 2 (by kernel_rfl) za (SB _ _ o6.yB.drop) (by kernel_rfl) ?_
   simp only[QX,QV,QQ,QJ];(repeat((first|refine Qx (h:=?_)|refine Qv (h:=?_));simp only[Act.put,QW,QY,QZ]));refine zb ?_;refine yq 6 _ (Qj 9 255) 1 (by kernel_rfl) (fun K hK=>?_)
   have HKK:=Qq hK;clear hK;simp only[QQ,QJ];refine zc (by rfl) ?_;go_simp;refine HKK.out _ _ (SB _ _ o6.yB.drop) ?_
   clear HKK K;obtain⟨z0,f0⟩:=o6.zo 10 rfl 0 _ rfl;obtain⟨z1,f1⟩:=o6.zo 10 rfl 1 _ rfl;obtain⟨z2,f2⟩:=o6.zo 10 rfl 2 _ rfl;have HOx:=Qq (((o6.yB.set 0 (.int .i64 c0)).set 1 (.int .i64 c1)).set 2 (.int .i64 c2)).XW
   refine xl 8 _ (Qj 9 511) (by kernel_rfl) (fun K hK=>?_)
   have HKK:=Qq hK;clear hK;simp only[QQ,QJ];refine zc (by rfl) ?_;go_simp;refine HKK.out _ _ (NoPanic.normal ?_)
   clear HKK K;go_wp2_with fail;go_meet;exact⟨_,c0,c1,c2,rfl,HCC.out,HOx.out⟩
 case rest =>
  obtain⟨cb,d0,d1,d2,rfl,hdd,ho⟩:=hcut;have hd:(d0,d1,d2)=(c0,c1,c2):=by have:=HCC.out;rw[hdd] at this;exact Option.some.inj this
  simp only[Prod.mk.injEq] at hd;obtain⟨rfl,rfl,rfl⟩:=hd;clear hdd;have e:W.fin (op,A,B,C) ((k:Int),(j:Int),v) some_=(let W1:=if d0=0 then W.put k d2 v else W;if op=16 then W1.put k C (j:Int) else if op=14 then W1.put k C (if some_ then 1 else 0) else W1):=by
   unfold Wd.fin;simp only[Int.toNat_natCast,List.getD_eq_getElem?_getD,HCC.out,Option.getD_some]
  have HE:=Qq e;clear e;have hb0:=(ho.zo 10 rfl 0 _ rfl).1
  have hb2:=(ho.zo 10 rfl 2 _ rfl).1
  have hv2:=(ho.zo 12 rfl 2 _ rfl).1
  have HO:=Qq ho;clear ho H1;go_upto_if 31 with fail
  go_cut [] (fun wx=>∃W1:Wd,W1=(if d0=0 then W.put k d2 v else W)∧W1.gs.length=W.gs.length∧(W1.g k).n=(W.g k).n∧D.fits W1∧Own w0 wx (zh p W1 D T++(zf cb [.int .i64 d0,.int .i64 d1,.int .i64 d2]::zf bx [.int .i64 op,.int .i64 A,.int .i64 B,.int .i64 C]::zf (bx+1) [.int .i64 (k:Int),.int .i64 (j:Int),.int .i64 v]::Y)))
  case first =>
   by_cases h0:d0=0
   ·have h2:=HCx.out _ (List.mem_of_getElem? HCC.out) h0
    simp only at h2
    obtain⟨a,ha,ha8⟩:=yI (n:=8) h2
    have ht:(d0==0)=true:=by simp[h0]
    have a0:(0:Int)≤(a:Int):=by omega
    have a8:(a:Int)<8:=by omega
    have hX:Hid (∀W1:Wd,W1=W.put k d2 v→∃W1:Wd,W1=(if d0=0 then W.put k d2 v else W)∧W1.gs.length=W.gs.length∧(W1.g k).n=(W.g k).n∧D.fits W1∧True):=Qq (fun W1 e=>⟨W1,by rw[if_pos h0,e],by rw[e,Wd.OH],by rw[e,Wd.FJ _ _ _ _ _ HK8.out],by rw[e];exact HF.out.ye _ _,trivial⟩)
    rw[ha] at hb2;obtain⟨⟨v0,r0⟩,r1,r2,r3⟩:=HS.out W _ _ HO.out HF.out rfl rfl a v ha8;have HO2:=Qq (r2.step (zg _))
    have H0:=Qq h0;have HAa:=Qq ha;clear h0 ha h2 r2;go_upto_region 4 with fail
    refine zi (fun wx=>∃nq,wx=World.drewN (wc) nq) 7 1 (Array.replicate 8 false) (Qj 8 127) (by kernel_rfl) (by kernel_rfl) ?_
    refine ze 0 7 _ (Qj 8 127) 0 (by kernel_rfl) za (zE wc) (by kernel_rfl) ?_
    simp only[QX,QV,QJ];(repeat((first|refine Qx (h:=?_)|refine Qw (h:=?_));simp only[Act.put,QW,QY,QZ]));refine zb ?_;refine zm ?_;refine zP 7 (by kernel_rfl) ?_
    simp only[QQ,QJ];have r0':wc.drew.cell? ⟨s,m*11+2+a,none⟩=some v0:=r0
    have r1':wc.drew.frozen? ⟨s,m*11+2+a,none⟩=false:=r1
    go_wp2_with fail;refine NoPanic.normal ?_
    go_wp2_with fail;go_meet;exact⟨W.put k d2 v,by rw[if_pos H0.out],Wd.OH _ _ _ _,Wd.FJ _ _ _ _ _ HK8.out,by rw[HAa.out];exact r3,by have:=HO2.out;rw[←HAa.out] at this;exact this⟩
   ·have ht:(d0==0)=false:=by simp[h0]
    have H0:=Qq h0;clear h0;go_wp2_with fail;go_meet;exact⟨W,by rw[if_neg H0.out],rfl,rfl,HF.out,HO.out⟩
  case rest =>
   obtain⟨W1,hW1,hl1,hn1,hf1,ho1⟩:=hcut;have HW1:=Qq hW1;have hx0:=(ho1.zo 11 rfl 0 _ rfl).1
   have hx3:=(ho1.zo 11 rfl 3 _ rfl).1
   have hbj:=(ho1.zo 12 rfl 1 _ rfl).1
   have HO1:=Qq ho1;clear hW1 ho1 HO hb0 hb2 hv2;rcases HX.out with hx|hx|⟨hx,-⟩
   ·simp only at hx
    subst hx;have HF1:=Qq hf1;clear hf1;go_wp2
    all_goals
     go_end0
     rw[HE.out,←HW1.out];exact⟨rfl,HO1.out.yB.drop.yB.drop.yB.drop,HF1.out⟩
   ·simp only at hx
    subst hx;have hC8:=HRx.out (.inl rfl)
    simp only at hC8
    cases some_ with
    | true =>
     obtain⟨a,ha,ha8⟩:=yI (n:=8) hC8
     subst ha;have a0:(0:Int)≤(a:Int):=by omega
     have a8:(a:Int)<8:=by omega
     obtain⟨⟨v0,r0⟩,r1,r2,r3⟩:=HS.out W1 _ _ HO1.out hf1 hl1 hn1 a 1 ha8;have HO2:=Qq (r2.step (zg _))
     have HF2:=Qq r3;clear r2 r3 hf1;go_upto_region 8 with fail
     refine zi (fun wx=>∃nq,wx=World.drewN (wc) nq) 5 1 (Array.replicate 6 false) (Qj 6 31) (by kernel_rfl) (by kernel_rfl) ?_
     refine ze 0 5 _ (Qj 6 31) 0 (by kernel_rfl) za (zE wc) (by kernel_rfl) ?_
     simp only[QX,QV,QJ];(repeat((first|refine Qx (h:=?_)|refine Qw (h:=?_));simp only[Act.put,QW,QY,QZ]));refine zb ?_;refine zm ?_;refine zP 5 (by kernel_rfl) ?_
     simp only[QQ,QJ];go_wp2_with fail;refine NoPanic.normal ?_
     go_wp2_with fail;go_end0
     rw[HE.out,←HW1.out];exact⟨rfl,HO2.out.yB.drop.yB.drop.yB.drop,HF2.out⟩
    | false =>
     obtain⟨a,ha,ha8⟩:=yI (n:=8) hC8
     subst ha;have a0:(0:Int)≤(a:Int):=by omega
     have a8:(a:Int)<8:=by omega
     obtain⟨⟨v0,r0⟩,r1,r2,r3⟩:=HS.out W1 _ _ HO1.out hf1 hl1 hn1 a 0 ha8;have HO2:=Qq (r2.step (zg _))
     have HF2:=Qq r3;clear r2 r3 hf1;go_upto_region 10 with fail
     refine zi (fun wx=>∃nq,wx=World.drewN (wc) nq) 5 1 (Array.replicate 6 false) (Qj 6 31) (by kernel_rfl) (by kernel_rfl) ?_
     refine ze 0 5 _ (Qj 6 31) 0 (by kernel_rfl) za (zE wc) (by kernel_rfl) ?_
     simp only[QX,QV,QJ];(repeat((first|refine Qx (h:=?_)|refine Qw (h:=?_));simp only[Act.put,QW,QY,QZ]));refine zb ?_;refine zm ?_;refine zP 5 (by kernel_rfl) ?_
     simp only[QQ,QJ];go_wp2_with fail;refine NoPanic.normal ?_
     go_wp2_with fail;go_end0
     rw[HE.out,←HW1.out];exact⟨rfl,HO2.out.yB.drop.yB.drop.yB.drop,HF2.out⟩
   ·simp only at hx
    subst hx;have hC8:=HRx.out (.inr rfl)
    simp only at hC8
    obtain⟨a,ha,ha8⟩:=yI (n:=8) hC8
    subst ha;have a0:(0:Int)≤(a:Int):=by omega
    have a8:(a:Int)<8:=by omega
    obtain⟨⟨v0,r0⟩,r1,r2,r3⟩:=HS.out W1 _ _ HO1.out hf1 hl1 hn1 a (j:Int) ha8
    have HO2:=Qq (r2.step (zg _))
    have HF2:=Qq r3;clear r2 r3 hf1;go_upto_region 6 with fail
    refine zi (fun wx=>∃nq,wx=World.drewN (wc) nq) 7 1 (Array.replicate 8 false) (Qj 8 127) (by kernel_rfl) (by kernel_rfl) ?_
    refine ze 0 7 _ (Qj 8 127) 0 (by kernel_rfl) za (zE wc) (by kernel_rfl) ?_
    simp only[QX,QV,QJ];(repeat((first|refine Qx (h:=?_)|refine Qw (h:=?_));simp only[Act.put,QW,QY,QZ]));refine zb ?_;refine zm ?_;refine zP 7 (by kernel_rfl) ?_
    simp only[QQ,QJ];go_wp2_with fail;refine NoPanic.normal ?_
    go_wp2_with fail;go_end0
    rw[HE.out,←HW1.out];exact⟨rfl,HO2.out.yB.drop.yB.drop.yB.drop,HF2.out⟩
theorem WQ {w0 w:World}{p:Nat}{T:List Value}{d:Dq}{W:Wd}{rd:List Int}{R:List zy}(h:yH w0 w p T d W rd R)(k:Nat)(hk:k<W.gs.length)(hk2:W.gs.length≤1000)(hr:rd.length≤1000000) :
  Calls Tryz.prog 157 #[.pointer (some ⟨d.q,0,none⟩),.int .i64 (k:Int)] w fun r w'=>r=.returned (.tuple #[])∧yH w0 w' p T d (W.zQ k 1) (rd++[(k:Int)]) R:=by
 obtain⟨D,ra,rc,hf,h⟩:=h;obtain⟨s,cap,hs⟩:=hf.Yn hk;obtain⟨b,off,haa,c0,c1,-,-⟩:=Yx h hk hs;have q0:=(h.zo 10 rfl 0 _ rfl).1
 have p2:=(h.zo 0 rfl 2 _ rfl).1
 rw[haa] at p2;have o1:=Va h hf hk haa 1;have hf1:D.fits (W.zQ k 1):=hf.ye _ _
 have q9:=(o1.zo 10 rfl 9 _ rfl).1
 have q0':=(o1.zo 10 rfl 0 _ rfl).1
 have k0:(0:Int)≤(k:Int):=by omega
 have k8:(k:Int)<(W.gs.length:Int):=by omega
 have hrow:=o1.yZ 11 rfl;have H1:=Qq o1;have HF:=Qq hf1;have HR:=Qq hrow;obtain⟨i0,hi0,hz0,hz1,hz2⟩:=info_parts Zt;have Hi:=Qq hi0;clear hi0
 have Hz0:=Qq hz0;clear hz0
 have Hz1:=Qq hz1;clear hz1
 have Hz2:=Qq hz2;clear hz2
 obtain⟨n,hn⟩:∃n,n=rd.length:=⟨_,rfl⟩
 rw[←hn] at q9 HR hr;have HN:=Qq hn;generalize W.gs.length=N at *;clear hrow hf h o1 hf1 hs hn hk haa;go_enter Tryz.func157,Tryz.ntmps157
 go_upto_region 1 with fail
 generalize w.setCell ⟨b,off+k*2,none⟩ (.int .i64 1)=w1 at *
 go_wp2_with (at_builtin;refine yr (m:=1) (ds:=zr [(k:Int)]) rfl _ _ 23 rfl 3 i0 _ Tryz.underlying23 Hi.out Hz0.out Hz1.out Hz2.out rfl (by omega) (by omega) rfl rfl (HR.out.below (below_alloc1 _ _)) (zt.new _ (zr [(k:Int)]) _ rfl) rfl (ZQ _) (by omega) ?_)
 intro a9 c9 w9 k9 ch9 f9;have o3:=H1.out.step (below_alloc1 w1 (.cells #[.int .i64 (k:Int)] 3))
 have e1:(rd++[(k:Int)]).length=n+1:=by rw[List.length_append,←HN.out];rfl
 have o4:=(Own.xj (o3.pick 11 rfl) k9 ch9 (by simpa using f9)).back (i:=11) (As:=zh p (W.zQ k 1) D T++(zf d.q (yn p (d.g:Int) d.x d.th d.dr d.go ra rd.length rc)::zd 1 ra rc rd.length (zr rd)::R)) (by simp[zh])
 have o5:=o4.setAt 10 rfl 9 (.slice a9 (n+1) c9)
 obtain⟨z9,f9'⟩:=o4.zo 10 rfl 9 _ rfl;have HFin:Hid (yH w0 (w9.setCell ⟨d.q,9,none⟩ (.slice a9 (n+1) c9)) p T d (W.zQ k 1) (rd++[(k:Int)]) R):=Qq ⟨D,a9,c9,HF.out,by
  rw[e1,ZT];exact o5⟩
 clear o3 o4 o5 k9 ch9 f9 e1 H1 HF HR;go_wp2;go_end0
 exact⟨rfl,HFin.out⟩
def xp (W:Wd)(k:Int):Int:=if 0≤k∧k<(W.gs.length:Int) then(W.g k.toNat).st else 0
theorem XS {w0 w:World}{p:Nat}{W:Wd}{D:Wa}{T:List Value}{Y:List zy}(h:Own w0 w (zh p W D T++Y))(hf:D.fits W)(k:Int) :
  Calls Tryz.prog 35 #[.pointer (some ⟨p,0,none⟩),.int .i64 k] w fun r w'=>r=.returned (.int .i64 (xp W k))∧w'=w:=by
 have p2:=(h.zo 0 rfl 2 _ rfl).1
 have HH:=Qq (fun w=>Ke D.aa W.gs.length D.ac k w)
 by_cases hk:0≤k∧k<(W.gs.length:Int)
 ·obtain⟨n,rfl,hn⟩:=yI (n:=W.gs.length) hk
  obtain⟨s,cap,hs⟩:=hf.Yn hn;obtain⟨b,off,haa,c0,-,-,-⟩:=Yx h hn hs;have e:xp W (n:Int)=(W.g n).st:=by unfold xp;rw[if_pos hk];rfl
  rw[e];have hd:decide (0≤(n:Int)∧(n:Int)<(W.gs.length:Int))=true:=decide_eq_true hk
  rw[hd,haa] at HH;rw[haa] at p2;have k0:(0:Int)≤(n:Int):=by omega
  have k8:(n:Int)<(W.gs.length:Int):=by omega
  generalize W.gs.length=N at *;clear h hf hk hs haa hd e;go_enter Tryz.func35,Tryz.ntmps35
  go_wp2_with fail;refine(HH.out _).mono ?_
  rintro r w1 ⟨rfl,rfl⟩;go_wp2;go_ret;exact⟨rfl,rfl⟩
 ·have e:xp W k=0:=by unfold xp;rw[if_neg hk]
  rw[e];have hd:decide (0≤k∧k<(W.gs.length:Int))=false:=decide_eq_false hk
  rw[hd] at HH;generalize W.gs.length=N at *;clear h hf hk hd e;go_enter Tryz.func35,Tryz.ntmps35
  go_wp2_with fail;refine(HH.out _).mono ?_
  rintro r w1 ⟨rfl,rfl⟩;go_wp2;go_ret;exact⟨rfl,rfl⟩
theorem P9 {w0 w:World}{p:Nat}{W:Wd}{D:Wa}{T:List Value}{Y:List zy}(h:Own w0 w (zh p W D T++Y))(hf:D.fits W){fn i:Nat}{l:List zS}{x:zS}(hl:W.fs[fn]?=some l)(hx:l[i]?=some x) :
  ∃b off c bb oo,D.fa=some ⟨b,off,none⟩∧w.cell? ⟨b,off+fn,none⟩=some (.slice (some ⟨bb,oo,none⟩) l.length c)∧w.cell? ⟨bb,oo+i*4,none⟩=some (.int .i64 x.1)∧w.cell? ⟨bb,oo+i*4+1,none⟩=some (.int .i64 x.2.1)∧w.cell? ⟨bb,oo+i*4+2,none⟩=some (.int .i64 x.2.2.1)∧w.cell? ⟨bb,oo+i*4+3,none⟩=some (.int .i64 x.2.2.2):=by
 have hfl:fn<D.fr.length:=by rw[hf.f];exact(List.getElem?_eq_some_iff.1 hl).1
 obtain⟨F,⟨-,⟨-,h2⟩,-,h4⟩,-⟩:=h.fact 1 rfl;have hr:=List.getElem?_eq_getElem hfl
 obtain⟨b,off,e1,e2⟩:=h2 fn (.slice (D.fr[fn]).1 l.length (D.fr[fn]).2) (by unfold Ot;rw[List.getElem?_zipWith,hr,hl])
 obtain⟨hi,hxe⟩:=List.getElem?_eq_some_iff.1 hx
 obtain⟨bb,oo,e3,e4⟩:=zt.rec (f:=DE) (s:=4) (fun _=>rfl) (h4 fn _ l hr hl).2 i hi (by omega)
 rw[hxe] at e4;rw[e3] at e2;exact⟨b,off,_,bb,oo,e1,e2,e4 0 _ rfl,e4 1 _ rfl,e4 2 _ rfl,e4 3 _ rfl⟩
theorem IY {w0 w:World}{p:Nat}{W:Wd}{D:Wa}{T:List Value}{Y:List zy}(h:Own w0 w (zh p W D T++Y))(hf:D.fits W) :
  ∃R',Own w0 w (YF (List.zip D.ps W.Ns) W.Cs++zd 1 D.ha D.hc W.Cs.length (xR (List.zip D.ps W.Ns))::R') ∧
   ∀w' Cs',Cs'.length=W.Cs.length→Own w0 w' (YF (List.zip D.ps W.Ns) Cs'++zd 1 D.ha D.hc W.Cs.length (xR (List.zip D.ps W.Ns))::R')→Own w0 w' (zh p { W with Cs:=Cs' } D T++Y)∧D.fits { W with Cs:=Cs' }:=by
 have h1:=((h.pick 5 rfl).pick 5 rfl).pick 1 rfl
 refine⟨_,h1.DF,fun w' Cs' hl h'=>⟨?_,⟨hf.f,hf.g,by simp[hf.c,hl],by simp[hf.n,hl],hf.l,hf.k⟩⟩⟩
 have h2:=(((((Own.MW h').pick 1 rfl).pick 5 rfl).pick 5 rfl).pick 5 rfl).pick 5 rfl
 simp only[zh,yD,hl];exact h2
theorem Eo (W:Wd)(i:Nat)(k v:Int):∃gs',W.put i k v={ W with gs:=gs' }∧gs'.length=W.gs.length:=⟨_,rfl,by simp⟩
theorem EC (W:Wd)(x:zS)(by_:Wt)(some_:Bool):∃gs',W.fin x by_ some_={ W with gs:=gs' }∧gs'.length=W.gs.length:=by
 have h1:∀W1:Wd,(∃gs',W1={ W with gs:=gs' }∧gs'.length=W.gs.length)→∀i k v,∃gs',W1.put i k v={ W with gs:=gs' }∧gs'.length=W.gs.length:=by
  rintro W1 ⟨gs',rfl,hl⟩ i k v
  obtain⟨g2,e,hl2⟩:=Eo { W with gs:=gs' } i k v
  exact⟨g2,e,by rw[hl2];exact hl⟩
 have h0:∃gs',W={ W with gs:=gs' }∧gs'.length=W.gs.length:=⟨W.gs,rfl,rfl⟩
 unfold Wd.fin;simp only
 split<;>split<;>(try split)<;>(try split)<;>first|exact h0|exact h1 _ h0 _ _ _|exact h1 _ (h1 _ h0 _ _ _) _ _ _
structure La (W:Wd) (by_:Wt):Prop where
 g:0≤by_.1∧by_.1<(W.gs.length:Int)
 gl:W.gs.length≤1000
 ins:(W.g by_.1.toNat).st=2→∃x,W.xQ (W.g by_.1.toNat).fn ((W.g by_.1.toNat).pc-1)=some x∧Wn W x by_∧0≤(W.g by_.1.toNat).fn∧(W.g by_.1.toNat).pc≤100000
 cs:RI 100000 W.Cs∧W.Cs.length≤100000
theorem T9 {w0 w:World}{p:Nat}{T:List Value}{d:Dq}{W:Wd}{rd:List Int}{R:List zy}(h:yH w0 w p T d W rd R)(by_:Wt)(some_:Bool)(ok:La W by_)(hr:rd.length≤1000000) :
  Calls Tryz.prog 161 #[.pointer (some ⟨d.q,0,none⟩),wv by_,.bool some_] w fun r w'=>r=.returned (.tuple #[])∧yH w0 w' p T d (goOnM W rd by_ some_).1 (goOnM W rd by_ some_).2 R:=by
 obtain⟨hg,hgl,hins,hlim,hcl⟩:=ok;obtain⟨D,ra,rc,hf,h⟩:=h;obtain⟨k,hK,hk8⟩:=yI (n:=W.gs.length) hg
 obtain⟨b1,b2,v⟩:=by_;simp only at hK
 subst hK;simp only[Int.toNat_natCast] at hins;have hA:=(h.alloc [.int .i64 (k:Int),.int .i64 b2,.int .i64 v] 270 (b:=w.heap.size) rfl).XW (L:=zh p W D T)
 have q0:=(hA.zo 11 rfl 0 _ rfl).1
 have z0:=(hA.zo 10 rfl 0 _ rfl).1
 have hst:=Qq (XS (hA.step (zg _)) hf (k:Int))
 have es:xp W (k:Int)=(W.g k).st:=by unfold xp;rw[if_pos hg];rfl
 rw[es] at hst;unfold wv;simp only
 by_cases hw:(W.g k).st=2
 ·obtain⟨x,hx,okf,hfn,hpc⟩:=hins hw
  have e:goOnM W rd ((k:Int),b2,v) some_=(((W.fin x ((k:Int),b2,v) some_).leave (k:Int)).zQ k 1,rd++[(k:Int)]):=by
   unfold goOnM;simp only[Int.toNat_natCast];rw[if_pos hw,hx]
  have HE:=Qq e;obtain⟨f,hfe⟩:=Int.eq_ofNat_of_zero_le hfn;have hx':=hx;unfold Wd.xQ at hx'
  have hpc1:¬(W.g k).pc-1<0:=by intro hh;rw[if_pos hh] at hx';cases hx'
  rw[if_neg hpc1,hfe,Int.toNat_natCast,List.getD_eq_getElem?_getD] at hx'
  obtain⟨i,hie⟩:=Int.eq_ofNat_of_zero_le (by omega:0≤(W.g k).pc-1)
  rw[hie,Int.toNat_natCast] at hx'
  obtain⟨l,hl⟩:∃l,W.fs[f]?=some l:=by
   cases hc:W.fs[f]? with
   | none=>rw[hc] at hx';simp at hx'
   | some l=>exact⟨l,rfl⟩
  rw[hl,Option.getD_some] at hx'
  obtain⟨s,cap,hs⟩:=hf.Yn hk8;obtain⟨b,off,haa,-,-,sl,-⟩:=Yx hA hk8 hs;obtain⟨cb0,co0,cc,cbb,coo,hfa,y1,x0,x1,x2,x3⟩:=P9 hA hf hl hx';have p2:=(hA.zo 0 rfl 2 _ rfl).1
  have p0:=(hA.zo 0 rfl 0 _ rfl).1
  have p3:=(hA.zo 0 rfl 3 _ rfl).1
  have z1:=(hA.zo 10 rfl 1 _ rfl).1
  have z2:=(hA.zo 10 rfl 2 _ rfl).1
  rw[haa] at p2;rw[hfa] at p0;obtain⟨m,hmm⟩:∃m,m=(W.g k).n-1:=⟨_,rfl⟩
  have hm:=okf.n;simp only[Int.toNat_natCast] at hm;have hS:=(YT hA hk8 hs).1
  have hfc:((w.alloc (.cells #[.int .i64 (k:Int),.int .i64 b2,.int .i64 v] 270))).cell? ⟨s,m*11,none⟩=some (.int .i64 (f:Int)):=by
   refine(hS.at ?_).1
   have hlt:m*11<(W.g k).z.length:=by rw[hS.len];omega
   rw[List.getElem?_eq_getElem hlt,←hfe]
   unfold Gt.fn Gt.o;rw[List.getD_eq_getElem?_getD,←hmm,List.getElem?_eq_getElem hlt];rfl
  obtain⟨pc,hpe⟩:∃pc,pc=(W.g k).pc:=⟨_,rfl⟩
  have hac:((w.alloc (.cells #[.int .i64 (k:Int),.int .i64 b2,.int .i64 v] 270))).cell? ⟨s,m*11+1,none⟩=some (.int .i64 pc):=by
   refine(hS.at ?_).1
   have hlt:m*11+1<(W.g k).z.length:=by rw[hS.len];omega
   rw[List.getElem?_eq_getElem hlt,hpe]
   unfold Gt.pc Gt.o;rw[List.getD_eq_getElem?_getD,←hmm,List.getElem?_eq_getElem hlt];rfl
  have hil:i<l.length:=(List.getElem?_eq_some_iff.1 hx').1
  have hsub:IntKind.i64.wrap (pc-1)=(i:Int):=by rw[IntKind.wrap_i64];omega
  have f0:(0:Int)≤(f:Int):=by omega
  have f8:(f:Int)<(W.fs.length:Int):=by have:=(List.getElem?_eq_some_iff.1 hl).1;omega
  have i0:(0:Int)≤(i:Int):=by omega
  have i8:(i:Int)<(l.length:Int):=by omega
  have k0:(0:Int)≤(k:Int):=by omega
  have k8:(k:Int)<(W.gs.length:Int):=by omega
  have Z8:∀w,Calls Tryz.prog 112 #[.slice (some ⟨s,0,none⟩) (W.g k).n cap] w fun e w'=>e=.returned (.pointer (some ⟨s,m*11,none⟩))∧w'=w:=fun w=>by
   have:=WL s m cap w (by omega)
   rw[show m+1=(W.g k).n by omega] at this
   exact this
  have HT:=Qq Z8;have HFn:=Qq (fun j=>TP some_ (hA.step (zv _ j)) hf okf)
  have HLim:=Qq hlim;have HCl:=Qq hcl;have HG:=Qq hgl;obtain⟨g2,hge,hgl2⟩:=EC W x ((k:Int),b2,v) some_
  have HGE:=Qq hge;have HG2:=Qq hgl2;have HK8:=Qq hk8;have hpx:p<(w.alloc (.cells #[.int .i64 (k:Int),.int .i64 b2,.int .i64 v] 270)).heap.size:=World.block_lt_of_cell? _ _ p0
  rw[hw] at hst;obtain⟨N,hN⟩:∃N,N=W.gs.length:=⟨_,rfl⟩
  rw[←hN] at p2 k8;obtain⟨NF,hNF⟩:∃NF,NF=W.fs.length:=⟨_,rfl⟩
  rw[←hNF] at p0 f8;obtain⟨n,hn⟩:∃n,n=(W.g k).n:=⟨_,rfl⟩
  rw[←hn] at HT sl;clear hN hNF hw e es hA h hins hlim hcl hf hg hgl hx hx' hl hs haa hfa hS okf hfn hpc hfe hpc1 hie hmm hm hpe hil Z8 hge hgl2 hk8 hn;unfold wv at HFn;simp only at HFn
  go_enter Tryz.func161,Tryz.ntmps161
  go_upto_region 1 with fail
  generalize w.alloc (.cells #[.int .i64 (k:Int),.int .i64 b2,.int .i64 v] 270)=w1 at *
  generalize w.heap.size=bb at *;refine zi (fun wx=>∃nq,wx=World.drewN (w1) nq) 8 0 (Array.replicate 8 false) (Qj 8 255) (by kernel_rfl) (by kernel_rfl) ?_
  refine ze 0 6 _ (Qj 8 63) 2 (by kernel_rfl) za (zE w1) (by kernel_rfl) ?_
  simp only[QX,QV,QJ];(repeat((first|refine Qx (h:=?_)|refine Qw (h:=?_));simp only[Act.put,QW,QY,QZ]));refine zb ?_;refine zB 6 _ (Qj 8 127) 1 (by kernel_rfl) (fun K hK=>?_)
  have HKK:=Qq hK;clear hK;simp only[QQ,QJ];refine zc (by rfl) ?_;go_simp;refine hst.out.mono ?_
  rintro r w2 ⟨rfl,rfl⟩;refine HKK.out _ _ (zE w1) ?_
  clear HKK K;refine ze 7 1 _ (Qj 8 255) 0 (by kernel_rfl) za (zE w1) (by kernel_rfl) ?_
  simp only[QX,QV,QQ,QJ];(repeat((first|refine Qx (h:=?_)|refine Qw (h:=?_));simp only[Act.put,QW,QY,QZ]));refine zb ?_;refine zm ?_;refine zD (by kernel_rfl) (NoPanic.normal ?_)
  go_upto_region 2 with fail
  refine zi (fun wx=>∃nq,wx=World.drewN (w1.drew) nq) 14 0 (Array.replicate 14 false) (Qj 14 16383) (by kernel_rfl) (by kernel_rfl) ?_
  refine ze 0 12 _ (Qj 14 4095) 2 (by kernel_rfl) za (zE w1.drew) (by kernel_rfl) ?_
  simp only[QX,QV,QJ];(repeat((first|refine Qx (h:=?_)|refine Qw (h:=?_));simp only[Act.put,QW,QY,QZ]));refine zb ?_;refine zB 12 _ (Qj 14 8191) 1 (by kernel_rfl) (fun K hK=>?_)
  have HKK:=Qq hK;clear hK;simp only[QQ,QJ];refine zc (by rfl) ?_;go_simp;refine(HT.out _).mono ?_
  rintro r w2 ⟨rfl,rfl⟩;refine HKK.out _ _ ((by first|exact⟨1,rfl⟩|exact⟨_,rfl⟩)) ?_
  clear HKK K;refine ze 13 1 _ (Qj 14 16383) 0 (by kernel_rfl) za ((by first|exact⟨1,rfl⟩|exact⟨_,rfl⟩)) (by kernel_rfl) ?_
  simp only[QX,QV,QQ,QJ];(repeat((first|refine Qx (h:=?_)|refine Qw (h:=?_));simp only[Act.put,QW,QY,QZ]));refine zb ?_;refine zm ?_;refine zD (by kernel_rfl) (NoPanic.normal ?_)
  go_upto_region 3 with fail
  refine zi (fun wx=>∃nq,wx=World.drewN (w1) nq) 26 1 (Array.replicate 27 false) (Qj 27 67108863) (by kernel_rfl) (by kernel_rfl) ?_
  refine ze 0 26 _ (Qj 27 67108863) 0 (by kernel_rfl) za ((by first|exact⟨3,rfl⟩|exact⟨_,rfl⟩)) (by kernel_rfl) ?_
  simp only[QX,QV,QJ];(repeat((first|refine Qx (h:=?_)|refine Qw (h:=?_));simp only[Act.put,QW,QY,QZ]));refine zb ?_;refine zm ?_;refine zP 26 (by kernel_rfl) ?_
  simp only[QQ,QJ];go_wp2_with fail;refine(HFn.out 3).mono ?_
  rintro r w3 ⟨rfl,h3,hf3⟩;go_wp2_with fail;refine NoPanic.normal ?_
  generalize hWf:W.fin x ((k:Int),b2,v) some_=W3 at *
  have hg3:W3.gs.length=W.gs.length:=by rw[HGE.out];exact HG2.out
  have hC3:W3.Cs=W.Cs:=by rw[HGE.out]
  obtain⟨R',o1,o2⟩:=IY h3 hf3;have hpl:W3.Cs.length=(List.zip D.ps W3.Ns).length:=by rw[List.length_zip,hf3.c,hf3.n];omega
  have hlv:=Qq (fun j=>NX (o1.step (zv w3 j)) hpl (by rw[hpl]) (k:Int) (by rw[hC3];exact HLim.out) (by rw[hC3];exact HCl.out))
  have HO2:Hid (∀w',Own w0 w' (YF (List.zip D.ps W3.Ns) (W3.Cs.map (Pk (k:Int)))++zd 1 D.ha D.hc W3.Cs.length (xR (List.zip D.ps W3.Ns))::R')→yH w0 w' p T d (W3.leave (k:Int)) rd R∧w'.cell? ⟨bb,0,none⟩=some (.int .i64 (k:Int))):=Qq (fun w' h'=>by
   obtain⟨k1,k2⟩:=o2 w' (W3.Cs.map (Pk (k:Int))) (by simp) h'
   exact⟨⟨D,ra,rc,k2,k1.yB.drop⟩,(k1.zo 10 rfl 0 _ rfl).1⟩)
  have p3:=(h3.zo 0 rfl 3 _ rfl).1
  have q0:=(h3.zo 11 rfl 0 _ rfl).1
  have z0:=(h3.zo 10 rfl 0 _ rfl).1
  have HWk:Hid (∀w',yH w0 w' p T d (W3.leave (k:Int)) rd R→Calls Tryz.prog 157 #[.pointer (some ⟨d.q,0,none⟩),.int .i64 (k:Int)] w' fun r w''=>r=.returned (.tuple #[])∧yH w0 w'' p T d ((W3.leave (k:Int)).zQ k 1) (rd++[(k:Int)]) R) :=
   Qq (fun w' h'=>WQ h' k (by show k<W3.gs.length;rw[hg3];exact HK8.out) (by show W3.gs.length≤1000;rw[hg3];exact HG.out) hr)
  have HWf:=Qq hWf;clear o1 o2 h3 hf3 HFn hg3 hC3 hpl hWf HGE;generalize W3.Cs.length=NC at *;go_upto_region 4 with fail
  refine zi (fun wx=>∃nq,wx=World.drewN (w3) nq) 9 1 (Array.replicate 10 false) (Qj 10 511) (by kernel_rfl) (by kernel_rfl) ?_
  refine ze 0 9 _ (Qj 10 511) 0 (by kernel_rfl) za ((by first|exact⟨1,rfl⟩|exact⟨_,rfl⟩)) (by kernel_rfl) ?_
  simp only[QX,QV,QJ];(repeat((first|refine Qx (h:=?_)|refine Qw (h:=?_));simp only[Act.put,QW,QY,QZ]));refine zb ?_;refine zm ?_;refine zP 9 (by kernel_rfl) ?_
  simp only[QQ,QJ];go_wp2_with fail;refine(hlv.out 1).mono ?_
  rintro r w4 ⟨rfl,h4⟩;have H4:=Qq (HO2.out _ h4).1
  have hb4:=(HO2.out _ h4).2
  clear h4 HO2 hlv;go_wp2_with fail;refine NoPanic.normal ?_
  go_wp2_with fail;refine(HWk.out _ H4.out).mono ?_
  rintro r w5 ⟨rfl,h5⟩;have H5:=Qq h5;clear h5 H4 HWk;go_wp2;go_end0
  rw[HE.out];exact⟨rfl,H5.out⟩
 ·have e:goOnM W rd ((k:Int),b2,v) some_=(W,rd):=by unfold goOnM;simp only[Int.toNat_natCast];rw[if_neg hw]
  have HE:=Qq e;have HW:=Qq (show yH w0 (w.alloc (.cells #[.int .i64 (k:Int),.int .i64 b2,.int .i64 v] 270)) p T d W rd R from⟨D,ra,rc,hf,hA.yB.drop⟩)
  have ht:((W.g k).st==2)=false:=by simpa using hw
  have ht2:((W.g k).st !=2)=true:=by simpa using hw
  have ht3:(!((W.g k).st==2))=true:=by simpa using hw
  generalize (W.g k).st=st at *
  clear hw e es hA h hins hlim hcl hf hg;go_enter Tryz.func161,Tryz.ntmps161
  go_upto_region 1 with fail
  generalize w.alloc (.cells #[.int .i64 (k:Int),.int .i64 b2,.int .i64 v] 270)=w1 at *
  generalize w.heap.size=bb at *;refine zi (fun wx=>∃nq,wx=World.drewN (w1) nq) 8 0 (Array.replicate 8 false) (Qj 8 255) (by kernel_rfl) (by kernel_rfl) ?_
  refine ze 0 6 _ (Qj 8 63) 2 (by kernel_rfl) za (zE w1) (by kernel_rfl) ?_
  simp only[QX,QV,QJ];(repeat((first|refine Qx (h:=?_)|refine Qw (h:=?_));simp only[Act.put,QW,QY,QZ]));refine zb ?_;refine zB 6 _ (Qj 8 127) 1 (by kernel_rfl) (fun K hK=>?_)
  have HKK:=Qq hK;clear hK;simp only[QQ,QJ];refine zc (by rfl) ?_;go_simp;refine hst.out.mono ?_
  rintro r w2 ⟨rfl,rfl⟩;refine HKK.out _ _ (zE w1) ?_
  clear HKK K;refine ze 7 1 _ (Qj 8 255) 0 (by kernel_rfl) za (zE w1) (by kernel_rfl) ?_
  simp only[QX,QV,QQ,QJ];(repeat((first|refine Qx (h:=?_)|refine Qw (h:=?_));simp only[Act.put,QW,QY,QZ]));refine zb ?_;refine zm ?_;refine zD (by kernel_rfl) (NoPanic.normal ?_)
  go_wp2;exact bodyPost_ret (v:=.tuple #[]) (by simp[results,Tryz.results161]) rfl ⟨rfl,by rw[HE.out];exact HW.out.step (zg _)⟩
def VQ (w0:World)(p:Nat)(T:List Value)(d:Dq)(R:List zy)(W:Wd)(rd:List Int)(o:Option Dd)(r:Ending)(w':World):Prop :=
 match o with
 | none=>r=.returned (.bool false)∧yH w0 w' p T d W rd R
 | some m=>(r=match m.tr with
  | none=>.returned (.bool true)
  | some k=>Wz k)∧yH w0 w' p T d m.W m.rd R
theorem VG {w0 w:World}{p q:Nat}{W:Wd}{D:Wa}{T:List Value}{Y:List zy}(h:Own w0 w (zh p W D T++Y)){g s cap:Nat}{cs:List Value}(hq:zF w q (.pointer (some ⟨p,0,none⟩)::.int .i64 (g:Int)::cs))(hg:g<W.gs.length)(hs:D.sk[g]?=some (s,cap))(hm:1≤(W.g g).n∧(W.g g).n≤16) :
  Calls Tryz.prog 118 #[.pointer (some ⟨q,0,none⟩)] w fun r w'=>r=.returned (.pointer (some ⟨s,((W.g g).n-1)*11,none⟩))∧∃k,w'=w.drewN k:=by
 obtain⟨b,off,h1,-,-,-,-⟩:=Yx h hg hs;exact Xo (T8 h hq hg hs h1 hm)
theorem X3 (W:Wd)(i:Nat)(hi:i<W.Cs.length):W.zM (i:Int) (W.ch (i:Int))=W:=by
 unfold Wd.zM;rw[Int.toNat_natCast,yt _ _ _ (Wd.UY hi)]
theorem Mt (N:Nat)(C:Ch)(v:Int):(mSend N C v).2.2.2=10∧(mSend N C v).1=C∨(mSend N C v).2.2.2=0∨(mSend N C v).2.2.2=6∧(mSend N C v).1=C:=by
 unfold mSend;split
 ·left;exact⟨rfl,rfl⟩
 ·split
  ·right;left;rfl
  ·split
   ·right;left;rfl
   ·right;right;exact⟨rfl,rfl⟩
structure Pf (W:Wd) (rd:List Int) (g:Nat) (x:zS) (c:Zc) (place:Int):Prop where
 c0:0≤c.2.1∧c.2.1<(W.Cs.length:Int)
 cl:W.Cs.length≤1000
 r:0≤c.2.2∧c.2.2<8
 lim:RI 100000 W.Cs
 go:(mSend (W.Ns.getD c.2.1.toNat 0) (W.ch c.2.1) ((W.g g).rg c.2.2)).2.2.1=true→La (W.zM c.2.1 (mSend (W.Ns.getD c.2.1.toNat 0) (W.ch c.2.1) ((W.g g).rg c.2.2)).1) (mSend (W.Ns.getD c.2.1.toNat 0) (W.ch c.2.1) ((W.g g).rg c.2.2)).2.1
 fin:(mSend (W.Ns.getD c.2.1.toNat 0) (W.ch c.2.1) ((W.g g).rg c.2.2)).2.2.2=0→Wn (if(mSend (W.Ns.getD c.2.1.toNat 0) (W.ch c.2.1) ((W.g g).rg c.2.2)).2.2.1 then goOnM (W.zM c.2.1 (mSend (W.Ns.getD c.2.1.toNat 0) (W.ch c.2.1) ((W.g g).rg c.2.2)).1) rd (mSend (W.Ns.getD c.2.1.toNat 0) (W.ch c.2.1) ((W.g g).rg c.2.2)).2.1 true else(W.zM c.2.1 (mSend (W.Ns.getD c.2.1.toNat 0) (W.ch c.2.1) ((W.g g).rg c.2.2)).1,rd)).1 x ((g:Int),place,0)
theorem Mb {w0 w:World}{p:Nat}{T:List Value}{d:Dq}{W:Wd}{rd:List Int}{R:List zy}(h:yH w0 w p T d W rd R)(hg:d.g<W.gs.length)(hm:1≤(W.g d.g).n∧(W.g d.g).n≤16)(c:Zc)(place:Int)(ok:Pf W rd d.g d.x c place)(hr:rd.length≤1000) :
  Calls Tryz.prog 169 #[.pointer (some ⟨d.q,0,none⟩),.agg #[.int .i64 c.1,.int .i64 c.2.1,.int .i64 c.2.2],.int .i64 place] w fun r w'=>VQ w0 p T d R W rd (x9 W rd d.g d.x c place) r w':=by
 obtain⟨D,ra,rc,hf,h⟩:=h;obtain⟨hc0,hcl,hreg,hlim,hgo,hfin⟩:=ok;obtain⟨k1,k2,k3⟩:=c;simp only at *
 obtain⟨i,rfl,hi8⟩:=yI (n:=W.Cs.length) hc0
 obtain⟨a,rfl,ha8⟩:=yI (n:=8) hreg
 obtain⟨v,hv⟩:∃v,v=(W.g d.g).rg (a:Int):=⟨_,rfl⟩
 obtain⟨m,hmm⟩:∃m,m=(W.g d.g).n-1:=⟨_,rfl⟩
 have hA:=(h.alloc [.int .i64 k1,.int .i64 (i:Int),.int .i64 (a:Int)] 129 (b:=w.heap.size) rfl).XW (L:=zh p W D T)
 obtain⟨s,cap,hs⟩:=hf.Yn hg;obtain⟨pt,hb,ho,-,hpt,hha,-,-,-⟩:=Yz hA hf hi8;rw[Int.toNat_natCast] at *;obtain⟨N,hN⟩:∃N,N=W.Ns.getD i 0:=⟨_,rfl⟩
 obtain⟨C,hC⟩:∃C,C=W.ch (i:Int):=⟨_,rfl⟩
 rw[←hN,←hC,←hv] at hgo hfin;have e:x9 W rd d.g d.x (k1,(i:Int),(a:Int)) place=(if(mSend N C v).2.2.2=10 then some ⟨W,rd,some (-1)⟩ else if(mSend N C v).2.2.2=0 then(let y:=if(mSend N C v).2.2.1 then goOnM (W.zM (i:Int) (mSend N C v).1) rd (mSend N C v).2.1 true else(W.zM (i:Int) (mSend N C v).1,rd);some ⟨y.1.fin d.x ((d.g:Int),place,0) false,y.2,none⟩) else none):=by
  unfold x9;simp only[Int.toNat_natCast];rw[←hN,←hC,←hv]
 rw[e];have SB:∀(W':Wd) (wx:World) (Z:List zy),W'.gs=W.gs→W'.Cs.length=W.Cs.length→D.fits W'→Own w0 wx (zh p W' D T++(zf w.heap.size [.int .i64 k1,.int .i64 (i:Int),.int .i64 (a:Int)]::zf d.q (yn p (d.g:Int) d.x d.th d.dr d.go ra rd.length rc)::Z)) →
   wx.cell? ⟨d.q,0,none⟩=some (.pointer (some ⟨p,0,none⟩))∧wx.cell? ⟨p,3,none⟩=some (.slice (some ⟨hb,ho,none⟩) W.Cs.length D.hc)∧wx.cell? ⟨hb,ho+i,none⟩=some (.pointer (some ⟨pt,0,none⟩))∧wx.cell? ⟨w.heap.size,1,none⟩=some (.int .i64 (i:Int))∧wx.cell? ⟨w.heap.size,2,none⟩=some (.int .i64 (a:Int))∧wx.cell? ⟨s,m*11+2+a,none⟩=some (.int .i64 v):=by
  intro W' wx Z hgs hcs hf' hx;have hp3:=(hx.zo 0 rfl 3 _ rfl).1
  rw[hha,hcs] at hp3;obtain⟨pt',hb',ho',R',h0,h1,h2,-,-⟩:=Yz hx hf' (i:=i) (by rw[hcs];exact hi8)
  rw[hha] at h1;rw[hpt] at h0;simp only[Option.some.injEq,Addr.mk.injEq,and_true] at h0 h1;obtain⟨rfl,rfl⟩:=h1;subst h0;have hgg:W'.g d.g=W.g d.g:=by unfold Wd.g;rw[hgs]
  have hrg:=(ZV (YT hx (by rw[hgs];exact hg) hs).1 (by rw[hgg];exact hm.1) a ha8).1
  rw[hgg,←hmm,←hv] at hrg;exact⟨(hx.zo 11 rfl 0 _ rfl).1,hp3,h2,(hx.zo 10 rfl 1 _ rfl).1,(hx.zo 10 rfl 2 _ rfl).1,hrg⟩
 have HTop:Hid (∀(wx:World) (Z:List zy),Own w0 wx (zh p W D T++(zf w.heap.size [.int .i64 k1,.int .i64 (i:Int),.int .i64 (a:Int)]::zf d.q (yn p (d.g:Int) d.x d.th d.dr d.go ra rd.length rc)::Z)) →
   Calls Tryz.prog 118 #[.pointer (some ⟨d.q,0,none⟩)] wx fun r w'=>r=.returned (.pointer (some ⟨s,m*11,none⟩))∧∃k,w'=wx.drewN k):=Qq (fun wx Z hx=>by
  rw[hmm];exact VG hx (hx.zo 11 rfl) hg hs hm)
 have HTop2:Hid (∀(wx:World) (A:zy) (Z:List zy),Own w0 wx (zh p W D T++(A::zf w.heap.size [.int .i64 k1,.int .i64 (i:Int),.int .i64 (a:Int)]::zf d.q (yn p (d.g:Int) d.x d.th d.dr d.go ra rd.length rc)::Z)) →
   Calls Tryz.prog 118 #[.pointer (some ⟨d.q,0,none⟩)] wx fun r w'=>r=.returned (.pointer (some ⟨s,m*11,none⟩))∧∃k,w'=wx.drewN k):=Qq (fun wx A Z hx=>by
  rw[hmm];exact VG hx (hx.zo 12 rfl) hg hs hm)
 have HSnd:Hid (∀(wx:World) (Z:List zy),Own w0 wx (zh p W D T++Z)→Calls Tryz.prog 179 #[.pointer (some ⟨pt,0,none⟩),.int .i64 v] wx fun r w'=>r=.returned (.tuple #[wv (mSend N C v).2.1,.bool (mSend N C v).2.2.1,.int .i64 (mSend N C v).2.2.2])∧Own w0 w' (zh p (W.zM (i:Int) (mSend N C v).1) D T++Z)∧D.fits (W.zM (i:Int) (mSend N C v).1)):=Qq (fun wx Z hx=>by
  obtain⟨pt',hb',ho',R',h0,-,-,h3,h4⟩:=Yz hx hf hi8;rw[hpt] at h0;simp only[Option.some.injEq] at h0;subst h0;rw[←hN,←hC] at h3;rw[←hN] at h4;have hL:=hlim _ (List.mem_of_getElem? (Wd.UY hi8))
  rw[←hC] at hL;exact(MH h3 v hL.1 hL.2.2).mono (fun r w' hh=>⟨hh.1,h4 _ _ hh.2⟩))
 have hW1:∀C',(W.zM (i:Int) C').gs=W.gs∧(W.zM (i:Int) C').Cs.length=W.Cs.length:=fun C'=>⟨rfl,by unfold Wd.zM;simp⟩
 have hsame:=X3 W i hi8;rw[←hC] at hsame;have herr:=Mt N C v;generalize mSend N C v=M at *;obtain⟨C1,⟨r1,r2,r3⟩,wk,er⟩:=M;unfold wv at HSnd;simp only at *
 obtain⟨W1,hWe⟩:∃W1,W1=W.zM (i:Int) C1:=⟨_,rfl⟩
 rw[←hWe] at hgo hfin HSnd ⊢;have HS0:=Qq (SB W · · rfl rfl hf)
 have hf1:D.fits W1:=by rw[hWe];exact⟨hf.f,hf.g,by simp[hf.c,Wd.zM],by simp[hf.n,Wd.zM],hf.l,hf.k⟩
 have HS1:=Qq (SB W1 · · (by rw[hWe];exact(hW1 C1).1) (by rw[hWe];exact(hW1 C1).2) hf1)
 have HA:=Qq hA;have HF:=Qq hf;have HF1:=Qq hf1;have HWe:=Qq hWe;have HSame:=Qq hsame;have HErr:=Qq herr;have HGo:=Qq hgo;have HFi:=Qq hfin;have i0:(0:Int)≤(i:Int):=by omega
 have i8:(i:Int)<(W.Cs.length:Int):=by omega
 have a0:(0:Int)≤(a:Int):=by omega
 have a8:(a:Int)<8:=by omega
 obtain⟨NC,hNC⟩:∃NC,NC=W.Cs.length:=⟨_,rfl⟩
 rw[←hNC] at HS0 HS1 i8;generalize hoe:(if er=10 then some (Dd.mk W rd (some (-1))) else if er=0 then(let y:=if wk then goOnM W1 rd (r1,r2,r3) true else(W1,rd);some (Dd.mk (y.1.fin d.x ((d.g:Int),place,0) false) y.2 none)) else none)=o
 have HOE:=Qq hoe;have HRD:=Qq hr;clear hA h hf hf1 hWe hsame herr hgo hfin SB hW1 hoe hN hC hv hmm hha hpt hs hi8 hlim hcl hc0 hg hm hNC e hreg;go_enter Tryz.func169,Tryz.ntmps169
 go_upto_region 1 with fail
 generalize w.alloc (.cells #[.int .i64 k1,.int .i64 (i:Int),.int .i64 (a:Int)] 129)=w1 at *
 generalize w.heap.size=bc at *;go_cut [7,8,9] (fun s7 s8 s9 wx=>∃b7,s7=.pointer (some ⟨b7,0,none⟩)∧s8=.bool wk∧s9=.int .i64 er∧Own w0 wx (zh p W1 D T++(zf b7 [.int .i64 r1,.int .i64 r2,.int .i64 r3]::zf bc [.int .i64 k1,.int .i64 (i:Int),.int .i64 (a:Int)]::zf d.q (yn p (d.g:Int) d.x d.th d.dr d.go ra rd.length rc)::zd 1 ra rc rd.length (zr rd)::R)))
 case first =>
  have o1:=HA.out.step (zg _)
  refine yd (fun wx=>wx.cell? ⟨d.q,0,none⟩=some (.pointer (some ⟨p,0,none⟩))∧wx.cell? ⟨p,3,none⟩=some (.slice (some ⟨hb,ho,none⟩) NC D.hc)∧wx.cell? ⟨hb,ho+i,none⟩=some (.pointer (some ⟨pt,0,none⟩))∧wx.cell? ⟨bc,1,none⟩=some (.int .i64 (i:Int))∧wx.cell? ⟨bc,2,none⟩=some (.int .i64 (a:Int))∧wx.cell? ⟨s,m*11+2+a,none⟩=some (.int .i64 v)) 28 (Array.replicate 28 false) (by kernel_rfl) (by kernel_rfl) ?_
  refine zq 0 12 _ (Qj 28 4095) 16 (by kernel_rfl) za (HS0.out _ _ o1) (by kernel_rfl) ?_
  simp only[QX,QV,QJ];(repeat((first|refine Qx (h:=?_)|refine Qv (h:=?_));simp only[Act.put,QW,QY,QZ]));refine zb ?_;refine zq 13 2 _ (Qj 28 28671) 14 (by kernel_rfl) za (HS0.out _ _ o1) (by kernel_rfl) ?_
  simp only[QX,QV,QQ,QJ];(repeat((first|refine Qx (h:=?_)|refine Qv (h:=?_));simp only[Act.put,QW,QY,QZ]));refine zb ?_;refine yJ 12 24 _ (Qj 28 32767) (Qj 28 16805887) 13 (by kernel_rfl) (fun K hK=>?_) (fun K hK=>?_)
  ·skip
   have HKK:=Qq hK;clear hK;simp only[QQ,QJ];refine zc (by rfl) ?_;go_simp;refine(HTop.out _ _ o1).mono ?_
   rintro r w2 ⟨rfl,k2,hw2⟩;have o2:=o1.q1 hw2;clear hw2;refine HKK.out _ _ (HS0.out _ _ o2) ?_
   clear HKK K;refine zq 15 4 _ (Qj 28 524287) 9 (by kernel_rfl) za (HS0.out _ _ o2) (by kernel_rfl) ?_
   simp only[QX,QV,QQ,QJ];(repeat((first|refine Qx (h:=?_)|refine Qv (h:=?_));simp only[Act.put,QW,QY,QZ]));refine zb ?_;refine yJ 19 24 _ (Qj 28 1048575) (Qj 28 17301503) 8 (by kernel_rfl) (fun K hK=>?_) (fun K hK=>?_)
   ·skip
    have HKK:=Qq hK;clear hK;simp only[QQ,QJ];refine zc (by rfl) ?_;go_simp;refine(HSnd.out _ _ o2).mono ?_
    rintro r w3 ⟨rfl,o3,-⟩
    refine HKK.out _ _ (HS1.out _ _ o3) ?_
    clear HKK K;refine zq 20 4 _ (Qj 28 16777215) 4 (by kernel_rfl) za (HS1.out _ _ o3) (by kernel_rfl) ?_
    simp only[QX,QV,QQ,QJ];(repeat((first|refine Qx (h:=?_)|refine Qv (h:=?_));simp only[Act.put,QW,QY,QZ]));refine zb ?_;have o4:=o3.alloc [.int .i64 0,.int .i64 0,.int .i64 0] 270 (b:=w3.heap.size) rfl
    refine zn 24 _ (Qj 28 33554431) 3 (by kernel_rfl) (fun K hK=>?_)
    have HKK:=Qq hK;clear hK;simp only[QQ,QJ];refine zc (by rfl) ?_;go_simp;refine HKK.out _ _ (HS1.out _ _ o4.drop) ?_
    clear HKK K;have o5:=o3.alloc [.int .i64 r1,.int .i64 r2,.int .i64 r3] 270 (b:=w3.heap.size) rfl
    refine zn 25 _ (Qj 28 67108863) 2 (by kernel_rfl) (fun K hK=>?_)
    have HKK:=Qq hK;clear hK;simp only[QQ,QJ];refine zc (by rfl) ?_;go_simp;refine HKK.out _ _ (HS1.out _ _ o5.drop) ?_
    clear HKK K;refine zq 26 2 _ (Qj 28 268435455) 0 (by kernel_rfl) za (HS1.out _ _ o5.drop) (by kernel_rfl) ?_
    simp only[QX,QV,QQ,QJ];(repeat((first|refine Qx (h:=?_)|refine Qv (h:=?_));simp only[Act.put,QW,QY,QZ]));refine zb ?_;refine wpAnyH_done (by kernel_rfl) (NoPanic.normal ?_) _
    go_wp2_with fail;go_meet;exact⟨_,rfl,rfl,rfl,o5.XW⟩
   ·skip
    have o3:=(o2.alloc [.int .i64 0,.int .i64 0,.int .i64 0] 270 (b:=w2.heap.size) rfl).XW
    have hlt:=World.block_lt_of_cell? _ _ (o3.zo 10 rfl 0 _ rfl).1
    have HKK:=Qq hK;clear hK;simp only[QQ,QJ];refine zc (by rfl) ?_;go_simp;refine HKK.out _ _ (HS0.out _ _ o3.yB.drop) ?_
    clear HKK K;refine zn 19 _ (Qj 28 17825791) 7 (by kernel_rfl) (fun K hK=>?_)
    have HKK:=Qq hK;clear hK;simp only[QQ,QJ];refine zc (by rfl) ?_;go_simp;refine(HSnd.out _ _ o3).mono ?_
    rintro r w3 ⟨rfl,o4,-⟩
    refine HKK.out _ _ (HS1.out _ _ o4.yB.drop) ?_
    clear HKK K;refine zq 20 4 _ (Qj 28 33554431) 3 (by kernel_rfl) za (HS1.out _ _ o4.yB.drop) (by kernel_rfl) ?_
    simp only[QX,QV,QQ,QJ];(repeat((first|refine Qx (h:=?_)|refine Qv (h:=?_));simp only[Act.put,QW,QY,QZ]));refine zb ?_;obtain⟨z0,f0⟩:=o4.zo 10 rfl 0 _ rfl;obtain⟨z1,f1⟩:=o4.zo 10 rfl 1 _ rfl;obtain⟨z2,f2⟩:=o4.zo 10 rfl 2 _ rfl;have o5:=((o4.yB.set 0 (.int .i64 r1)).set 1 (.int .i64 r2)).set 2 (.int .i64 r3)
    refine zn 25 _ (Qj 28 67108863) 2 (by kernel_rfl) (fun K hK=>?_)
    have HKK:=Qq hK;clear hK;simp only[QQ,QJ];refine zc (by rfl) ?_;go_simp;refine HKK.out _ _ (HS1.out _ _ o5.drop) ?_
    clear HKK K;refine zq 26 2 _ (Qj 28 268435455) 0 (by kernel_rfl) za (HS1.out _ _ o5.drop) (by kernel_rfl) ?_
    simp only[QX,QV,QQ,QJ];(repeat((first|refine Qx (h:=?_)|refine Qv (h:=?_));simp only[Act.put,QW,QY,QZ]));refine zb ?_;refine wpAnyH_done (by kernel_rfl) (NoPanic.normal ?_) _
    go_wp2_with fail;go_meet;exact⟨_,rfl,rfl,rfl,o5.XW⟩
  ·skip
   have o2:=(o1.alloc [.int .i64 0,.int .i64 0,.int .i64 0] 270 (b:=w1.heap.size) rfl).XW
   have hlt:=World.block_lt_of_cell? _ _ (o2.zo 10 rfl 0 _ rfl).1
   have HKK:=Qq hK;clear hK;simp only[QQ,QJ];refine zc (by rfl) ?_;go_simp;refine HKK.out _ _ (HS0.out _ _ o2.yB.drop) ?_
   clear HKK K;refine zn 12 _ (Qj 28 16809983) 12 (by kernel_rfl) (fun K hK=>?_)
   have HKK:=Qq hK;clear hK;simp only[QQ,QJ];refine zc (by rfl) ?_;go_simp;refine(HTop2.out _ _ _ o2).mono ?_
   rintro r w2 ⟨rfl,k2,hw2⟩;have o3:=o2.q1 hw2;clear hw2;refine HKK.out _ _ (HS0.out _ _ o3.yB.drop) ?_
   clear HKK K;refine zq 15 4 _ (Qj 28 17301503) 8 (by kernel_rfl) za (HS0.out _ _ o3.yB.drop) (by kernel_rfl) ?_
   simp only[QX,QV,QQ,QJ];(repeat((first|refine Qx (h:=?_)|refine Qv (h:=?_));simp only[Act.put,QW,QY,QZ]));refine zb ?_;refine zn 19 _ (Qj 28 17825791) 7 (by kernel_rfl) (fun K hK=>?_)
   have HKK:=Qq hK;clear hK;simp only[QQ,QJ];refine zc (by rfl) ?_;go_simp;refine(HSnd.out _ _ o3).mono ?_
   rintro r w3 ⟨rfl,o4,-⟩
   refine HKK.out _ _ (HS1.out _ _ o4.yB.drop) ?_
   clear HKK K;refine zq 20 4 _ (Qj 28 33554431) 3 (by kernel_rfl) za (HS1.out _ _ o4.yB.drop) (by kernel_rfl) ?_
   simp only[QX,QV,QQ,QJ];(repeat((first|refine Qx (h:=?_)|refine Qv (h:=?_));simp only[Act.put,QW,QY,QZ]));refine zb ?_;obtain⟨z0,f0⟩:=o4.zo 10 rfl 0 _ rfl;obtain⟨z1,f1⟩:=o4.zo 10 rfl 1 _ rfl;obtain⟨z2,f2⟩:=o4.zo 10 rfl 2 _ rfl;have o5:=((o4.yB.set 0 (.int .i64 r1)).set 1 (.int .i64 r2)).set 2 (.int .i64 r3)
   refine zn 25 _ (Qj 28 67108863) 2 (by kernel_rfl) (fun K hK=>?_)
   have HKK:=Qq hK;clear hK;simp only[QQ,QJ];refine zc (by rfl) ?_;go_simp;refine HKK.out _ _ (HS1.out _ _ o5.drop) ?_
   clear HKK K;refine zq 26 2 _ (Qj 28 268435455) 0 (by kernel_rfl) za (HS1.out _ _ o5.drop) (by kernel_rfl) ?_
   simp only[QX,QV,QQ,QJ];(repeat((first|refine Qx (h:=?_)|refine Qv (h:=?_));simp only[Act.put,QW,QY,QZ]));refine zb ?_;refine wpAnyH_done (by kernel_rfl) (NoPanic.normal ?_) _
   go_wp2_with fail;go_meet;exact⟨_,rfl,rfl,rfl,o5.XW⟩
 case rest =>
  obtain⟨b7,rfl,rfl,rfl,ho⟩:=hcut;have z0:=(ho.zo 10 rfl 0 _ rfl).1
  have z1:=(ho.zo 10 rfl 1 _ rfl).1
  have z2:=(ho.zo 10 rfl 2 _ rfl).1
  have HD:Hid (yH w0 wc p T d W1 rd R):=Qq ⟨D,ra,rc,HF1.out,ho.yB.drop.yB.drop⟩
  clear ho HA HTop HTop2 HSnd HS0 HS1;rcases HErr.out with⟨h1,h2⟩|h1|⟨h1,h2⟩
  ·subst h1
   have hW:W1=W:=by rw[HWe.out,h2];exact HSame.out
   have ho:o=some ⟨W,rd,some (-1)⟩:=by rw[←HOE.out,if_pos rfl]
   have HO:=Qq ho;have HD2:Hid (yH w0 wc p T d W rd R):=Qq (by rw[←hW];exact HD.out)
   clear HOE HGo HFi hW ho HD h2;go_wp2;exact⟨rfl,by rw[HO.out];exact⟨rfl,HD2.out⟩⟩
  ·subst h1
   obtain⟨y,hy⟩:∃y,y=(if wk then goOnM W1 rd (r1,r2,r3) true else(W1,rd)):=⟨_,rfl⟩
   have ho:o=some ⟨y.1.fin d.x ((d.g:Int),place,0) false,y.2,none⟩:=by rw[←HOE.out,if_neg (by decide),if_pos rfl,←hy]
   have hfi:=HFi.out rfl;rw[←hy] at hfi;have HO:=Qq ho;have HY:=Qq hy;have HFi2:=Qq hfi;clear HOE HFi ho hy hfi;go_upto_if 39 with fail
   go_cut [] (fun wx=>yH w0 wx p T d y.1 y.2 R)
   case first =>
    cases wk with
    | true =>
     go_wp2_with fail;refine(T9 HD.out (r1,r2,r3) true (HGo.out (by first|rfl|trivial)) (by have:=HRD.out;omega)).mono ?_
     rintro r w2 ⟨rfl,h2⟩;have H2:=Qq h2;clear h2;go_wp2_with fail;go_meet;rw[HY.out];exact H2.out
    | false =>
     go_wp2_with fail;go_meet;rw[HY.out];exact HD.out
   case rest =>
    have HC:=Qq hcut;obtain⟨D2,ra2,rc2,hf2,h2⟩:=hcut;have q0:=(h2.zo 10 rfl 0 _ rfl).1
    have q1:=(h2.zo 10 rfl 1 _ rfl).1
    have q2:=(h2.zo 10 rfl 2 _ rfl).1
    have q3:=(h2.zo 10 rfl 3 _ rfl).1
    have q4:=(h2.zo 10 rfl 4 _ rfl).1
    have q5:=(h2.zo 10 rfl 5 _ rfl).1
    have HN:=Qq (fun j=>TP false (h2.step (zv wc j)) hf2 HFi2.out)
    unfold wv at HN;simp only at HN
    clear h2 hf2 HC HGo HErr HD z0 z1 z2;go_upto_region 8 with fail
    refine zi (fun wx=>∃nq,wx=World.drewN (wc) nq) 14 1 (Array.replicate 15 false) (Qj 15 16383) (by kernel_rfl) (by kernel_rfl) ?_
    refine ze 0 14 _ (Qj 15 16383) 0 (by kernel_rfl) za (zE wc) (by kernel_rfl) ?_
    simp only[QX,QV,QJ];(repeat((first|refine Qx (h:=?_)|refine Qw (h:=?_));simp only[Act.put,QW,QY,QZ]));refine zb ?_;refine zm ?_;refine zP 14 (by kernel_rfl) ?_
    simp only[QQ,QJ];go_wp2_with fail;refine(HN.out 1).mono ?_
    rintro r w3 ⟨rfl,h3,hf3⟩;have H3:Hid (yH w0 w3 p T d (y.1.fin d.x ((d.g:Int),place,0) false) y.2 R):=Qq ⟨D2,ra2,rc2,hf3,h3⟩
    clear h3 hf3 HN;go_wp2_with fail;refine NoPanic.normal ?_
    go_wp2;go_ret;rw[HO.out];exact⟨rfl,H3.out⟩
  ·subst h1
   have hW:W1=W:=by rw[HWe.out,h2];exact HSame.out
   have ho:o=none:=by rw[←HOE.out,if_neg (by decide),if_neg (by decide)]
   have HO:=Qq ho;have HD2:Hid (yH w0 wc p T d W rd R):=Qq (by rw[←hW];exact HD.out)
   clear HOE HGo HFi hW ho HD h2;go_wp2;go_ret;rw[HO.out];exact⟨rfl,HD2.out⟩
theorem Ml (C:Ch):(mRecv C).2.2=0∨(mRecv C).2.2=5∧(mRecv C).1=C:=by
 unfold mRecv;cases C.S with
 | cons x t=>left;simp only;split<;>rfl
 | nil =>
  cases hb:C.buf with
  | cons y b=>left;rfl
  | nil =>
   cases hc:C.cl with
   | true=>left;simp
   | false=>right;simp
structure Qf (W:Wd) (rd:List Int) (g:Nat) (x:zS) (c:Zc) (place:Int):Prop where
 c0:0≤c.2.1∧c.2.1<(W.Cs.length:Int)
 cl:W.Cs.length≤1000
 lim:RI 100000 W.Cs
 go:(mRecv (W.ch c.2.1)).2.1.2.2.2=true→La (W.zM c.2.1 (mRecv (W.ch c.2.1)).1) (mRecv (W.ch c.2.1)).2.1.2.2.1
 fin:(mRecv (W.ch c.2.1)).2.2=0→Wn (if(mRecv (W.ch c.2.1)).2.1.2.2.2 then goOnM (W.zM c.2.1 (mRecv (W.ch c.2.1)).1) rd (mRecv (W.ch c.2.1)).2.1.2.2.1 false else(W.zM c.2.1 (mRecv (W.ch c.2.1)).1,rd)).1 x ((g:Int),place,(mRecv (W.ch c.2.1)).2.1.1)
theorem Nj {w0 w:World}{p:Nat}{T:List Value}{d:Dq}{W:Wd}{rd:List Int}{R:List zy}(h:yH w0 w p T d W rd R)(c:Zc)(place:Int)(ok:Qf W rd d.g d.x c place)(hr:rd.length≤1000) :
  Calls Tryz.prog 170 #[.pointer (some ⟨d.q,0,none⟩),.agg #[.int .i64 c.1,.int .i64 c.2.1,.int .i64 c.2.2],.int .i64 place] w fun r w'=>VQ w0 p T d R W rd (xU W rd d.g d.x c place) r w':=by
 obtain⟨D,ra,rc,hf,h⟩:=h;obtain⟨hc0,hcl,hlim,hgo,hfin⟩:=ok;obtain⟨k1,k2,k3⟩:=c;simp only at *
 obtain⟨i,rfl,hi8⟩:=yI (n:=W.Cs.length) hc0
 have hA:=(h.alloc [.int .i64 k1,.int .i64 (i:Int),.int .i64 k3] 129 (b:=w.heap.size) rfl).XW (L:=zh p W D T)
 obtain⟨pt,hb,ho,-,hpt,hha,-,-,-⟩:=Yz hA hf hi8;obtain⟨C,hC⟩:∃C,C=W.ch (i:Int):=⟨_,rfl⟩
 rw[←hC] at hgo hfin;have e:xU W rd d.g d.x (k1,(i:Int),k3) place=(if(mRecv C).2.2=0 then(let y:=if(mRecv C).2.1.2.2.2 then goOnM (W.zM (i:Int) (mRecv C).1) rd (mRecv C).2.1.2.2.1 false else(W.zM (i:Int) (mRecv C).1,rd);some ⟨y.1.fin d.x ((d.g:Int),place,(mRecv C).2.1.1) (mRecv C).2.1.2.1,y.2,none⟩) else none):=by
  unfold xU;simp only
  rw[←hC]
 rw[e];have SB:∀(W':Wd) (wx:World) (Z:List zy),W'.Cs.length=W.Cs.length→D.fits W'→Own w0 wx (zh p W' D T++(zf w.heap.size [.int .i64 k1,.int .i64 (i:Int),.int .i64 k3]::zf d.q (yn p (d.g:Int) d.x d.th d.dr d.go ra rd.length rc)::Z)) →
   wx.cell? ⟨d.q,0,none⟩=some (.pointer (some ⟨p,0,none⟩))∧wx.cell? ⟨p,3,none⟩=some (.slice (some ⟨hb,ho,none⟩) W.Cs.length D.hc)∧wx.cell? ⟨hb,ho+i,none⟩=some (.pointer (some ⟨pt,0,none⟩))∧wx.cell? ⟨w.heap.size,1,none⟩=some (.int .i64 (i:Int)):=by
  intro W' wx Z hcs hf' hx;have hp3:=(hx.zo 0 rfl 3 _ rfl).1
  rw[hha,hcs] at hp3;obtain⟨pt',hb',ho',R',h0,h1,h2,-,-⟩:=Yz hx hf' (i:=i) (by rw[hcs];exact hi8)
  rw[hha] at h1;rw[hpt] at h0;simp only[Option.some.injEq,Addr.mk.injEq,and_true] at h0 h1;obtain⟨rfl,rfl⟩:=h1;subst h0;exact⟨(hx.zo 11 rfl 0 _ rfl).1,hp3,h2,(hx.zo 10 rfl 1 _ rfl).1⟩
 have HSnd:Hid (∀(wx:World) (Z:List zy),Own w0 wx (zh p W D T++Z)→Calls Tryz.prog 180 #[.pointer (some ⟨pt,0,none⟩)] wx fun r w'=>r=.returned (.tuple #[TO (mRecv C).2.1.1 (mRecv C).2.1.2.1 (mRecv C).2.1.2.2.1 (mRecv C).2.1.2.2.2,.int .i64 (mRecv C).2.2])∧Own w0 w' (zh p (W.zM (i:Int) (mRecv C).1) D T++Z)∧D.fits (W.zM (i:Int) (mRecv C).1)):=Qq (fun wx Z hx=>by
  obtain⟨pt',hb',ho',R',h0,-,-,h3,h4⟩:=Yz hx hf hi8;rw[hpt] at h0;simp only[Option.some.injEq] at h0;subst h0;rw[←hC] at h3;have hL:=hlim _ (List.mem_of_getElem? (Wd.UY hi8))
  rw[←hC] at hL;exact(Nr h3 hL.1 hL.2.1).mono (fun r w' hh=>⟨hh.1,h4 _ _ hh.2⟩))
 have hW1:∀C',(W.zM (i:Int) C').Cs.length=W.Cs.length:=fun C'=>by unfold Wd.zM;simp
 have hsame:=X3 W i hi8;rw[←hC] at hsame;have herr:=Ml C;generalize mRecv C=M at *;obtain⟨C1,⟨mv,sm,⟨r1,r2,r3⟩,wk⟩,er⟩:=M;unfold TO at HSnd;simp only at *
 obtain⟨W1,hWe⟩:∃W1,W1=W.zM (i:Int) C1:=⟨_,rfl⟩
 rw[←hWe] at hgo hfin HSnd ⊢;have HS0:=Qq (SB W · · rfl hf)
 have hf1:D.fits W1:=by rw[hWe];exact⟨hf.f,hf.g,by simp[hf.c,Wd.zM],by simp[hf.n,Wd.zM],hf.l,hf.k⟩
 have HS1:=Qq (SB W1 · · (by rw[hWe];exact hW1 C1) hf1)
 have HA:=Qq hA;have HF1:=Qq hf1;have HWe:=Qq hWe;have HSame:=Qq hsame;have HErr:=Qq herr;have HGo:=Qq hgo;have HFi:=Qq hfin;have i0:(0:Int)≤(i:Int):=by omega
 have i8:(i:Int)<(W.Cs.length:Int):=by omega
 obtain⟨NC,hNC⟩:∃NC,NC=W.Cs.length:=⟨_,rfl⟩
 rw[←hNC] at HS0 HS1 i8;generalize hoe:(if er=0 then(let y:=if wk then goOnM W1 rd (r1,r2,r3) false else(W1,rd);some (Dd.mk (y.1.fin d.x ((d.g:Int),place,mv) sm) y.2 none)) else none)=o
 have HOE:=Qq hoe;have HRD:=Qq hr;clear hA h hf hf1 hWe hsame herr hgo hfin SB hW1 hoe hC hha hpt hi8 hlim hcl hc0 hNC e;go_enter Tryz.func170,Tryz.ntmps170
 go_upto_region 1 with fail
 generalize w.alloc (.cells #[.int .i64 k1,.int .i64 (i:Int),.int .i64 k3] 129)=w1 at *
 generalize w.heap.size=bc at *;go_cut [7,8] (fun s7 s8 wx=>∃b7,s7=.pointer (some ⟨b7,0,none⟩)∧s8=.int .i64 er∧Own w0 wx (zh p W1 D T++(zf b7 [.int .i64 mv,.bool sm,.int .i64 r1,.int .i64 r2,.int .i64 r3,.bool wk]::zf bc [.int .i64 k1,.int .i64 (i:Int),.int .i64 k3]::zf d.q (yn p (d.g:Int) d.x d.th d.dr d.go ra rd.length rc)::zd 1 ra rc rd.length (zr rd)::R)))
 case first =>
  have o1:=HA.out.step (zg _)
  refine yd (fun wx=>wx.cell? ⟨d.q,0,none⟩=some (.pointer (some ⟨p,0,none⟩))∧wx.cell? ⟨p,3,none⟩=some (.slice (some ⟨hb,ho,none⟩) NC D.hc)∧wx.cell? ⟨hb,ho+i,none⟩=some (.pointer (some ⟨pt,0,none⟩))∧wx.cell? ⟨bc,1,none⟩=some (.int .i64 (i:Int))) 18 (Array.replicate 18 false) (by kernel_rfl) (by kernel_rfl) ?_
  refine zq 0 11 _ (Qj 18 2047) 7 (by kernel_rfl) za (HS0.out _ _ o1) (by kernel_rfl) ?_
  simp only[QX,QV,QJ];(repeat((first|refine Qx (h:=?_)|refine Qv (h:=?_));simp only[Act.put,QW,QY,QZ]));refine zb ?_;refine yJ 11 15 _ (Qj 18 4095) (Qj 18 34815) 6 (by kernel_rfl) (fun K hK=>?_) (fun K hK=>?_)
  ·skip
   have HKK:=Qq hK;clear hK;simp only[QQ,QJ];refine zc (by rfl) ?_;go_simp;refine(HSnd.out _ _ o1).mono ?_
   rintro r w3 ⟨rfl,o3,-⟩
   refine HKK.out _ _ (HS1.out _ _ o3) ?_
   clear HKK K;refine zq 12 3 _ (Qj 18 32767) 3 (by kernel_rfl) za (HS1.out _ _ o3) (by kernel_rfl) ?_
   simp only[QX,QV,QQ,QJ];(repeat((first|refine Qx (h:=?_)|refine Qv (h:=?_));simp only[Act.put,QW,QY,QZ]));refine zb ?_;have o4:=o3.alloc [.int .i64 0,.bool false,.int .i64 0,.int .i64 0,.int .i64 0,.bool false] 290 (b:=w3.heap.size) rfl
   refine zn 15 _ (Qj 18 65535) 2 (by kernel_rfl) (fun K hK=>?_)
   have HKK:=Qq hK;clear hK;simp only[QQ,QJ];refine zc (by rfl) ?_;go_simp;refine HKK.out _ _ (HS1.out _ _ o4.drop) ?_
   clear HKK K;have o5:=o3.alloc [.int .i64 mv,.bool sm,.int .i64 r1,.int .i64 r2,.int .i64 r3,.bool wk] 290 (b:=w3.heap.size) rfl
   refine zn 16 _ (Qj 18 131071) 1 (by kernel_rfl) (fun K hK=>?_)
   have HKK:=Qq hK;clear hK;simp only[QQ,QJ];refine zc (by rfl) ?_;go_simp;refine HKK.out _ _ (HS1.out _ _ o5.drop) ?_
   clear HKK K;refine zq 17 1 _ (Qj 18 262143) 0 (by kernel_rfl) za (HS1.out _ _ o5.drop) (by kernel_rfl) ?_
   simp only[QX,QV,QQ,QJ];(repeat((first|refine Qx (h:=?_)|refine Qv (h:=?_));simp only[Act.put,QW,QY,QZ]));refine zb ?_;refine wpAnyH_done (by kernel_rfl) (NoPanic.normal ?_) _
   go_wp2_with fail;go_meet;exact⟨_,rfl,rfl,o5.XW⟩
  ·skip
   have o3:=(o1.alloc [.int .i64 0,.bool false,.int .i64 0,.int .i64 0,.int .i64 0,.bool false] 290 (b:=w1.heap.size) rfl).XW
   have hlt:=World.block_lt_of_cell? _ _ (o3.zo 10 rfl 0 _ rfl).1
   have HKK:=Qq hK;clear hK;simp only[QQ,QJ];refine zc (by rfl) ?_;go_simp;refine HKK.out _ _ (HS0.out _ _ o3.yB.drop) ?_
   clear HKK K;refine zn 11 _ (Qj 18 36863) 5 (by kernel_rfl) (fun K hK=>?_)
   have HKK:=Qq hK;clear hK;simp only[QQ,QJ];refine zc (by rfl) ?_;go_simp;refine(HSnd.out _ _ o3).mono ?_
   rintro r w3 ⟨rfl,o4,-⟩
   refine HKK.out _ _ (HS1.out _ _ o4.yB.drop) ?_
   clear HKK K;refine zq 12 3 _ (Qj 18 65535) 2 (by kernel_rfl) za (HS1.out _ _ o4.yB.drop) (by kernel_rfl) ?_
   simp only[QX,QV,QQ,QJ];(repeat((first|refine Qx (h:=?_)|refine Qv (h:=?_));simp only[Act.put,QW,QY,QZ]));refine zb ?_;obtain⟨z0,f0⟩:=o4.zo 10 rfl 0 _ rfl;obtain⟨z1,f1⟩:=o4.zo 10 rfl 1 _ rfl;obtain⟨z2,f2⟩:=o4.zo 10 rfl 2 _ rfl;obtain⟨z3,f3⟩:=o4.zo 10 rfl 3 _ rfl;obtain⟨z4,f4⟩:=o4.zo 10 rfl 4 _ rfl;obtain⟨z5,f5⟩:=o4.zo 10 rfl 5 _ rfl;have o5:=(((((o4.yB.set 0 (.int .i64 mv)).set 1 (.bool sm)).set 2 (.int .i64 r1)).set 3 (.int .i64 r2)).set 4 (.int .i64 r3)).set 5 (.bool wk)
   refine zn 16 _ (Qj 18 131071) 1 (by kernel_rfl) (fun K hK=>?_)
   have HKK:=Qq hK;clear hK;simp only[QQ,QJ];refine zc (by rfl) ?_;go_simp;refine HKK.out _ _ (HS1.out _ _ o5.drop) ?_
   clear HKK K;refine zq 17 1 _ (Qj 18 262143) 0 (by kernel_rfl) za (HS1.out _ _ o5.drop) (by kernel_rfl) ?_
   simp only[QX,QV,QQ,QJ];(repeat((first|refine Qx (h:=?_)|refine Qv (h:=?_));simp only[Act.put,QW,QY,QZ]));refine zb ?_;refine wpAnyH_done (by kernel_rfl) (NoPanic.normal ?_) _
   go_wp2_with fail;go_meet;exact⟨_,rfl,rfl,o5.XW⟩
 case rest =>
  obtain⟨b7,rfl,rfl,ho⟩:=hcut;have z2:=(ho.zo 10 rfl 2 _ rfl).1
  have z3:=(ho.zo 10 rfl 3 _ rfl).1
  have z4:=(ho.zo 10 rfl 4 _ rfl).1
  have z5:=(ho.zo 10 rfl 5 _ rfl).1
  have HD:Hid (yH w0 wc p T d W1 rd (zf b7 [.int .i64 mv,.bool sm,.int .i64 r1,.int .i64 r2,.int .i64 r3,.bool wk]::R)):=Qq ⟨D,ra,rc,HF1.out,by
   have h1:=(ho.pick 11 rfl).drop
   have h2:=(h1.pick 10 rfl)
   exact((h2.XW (L:=zh p W1 D T++[zf d.q (yn p (d.g:Int) d.x d.th d.dr d.go ra rd.length rc),zd 1 ra rc rd.length (zr rd)])).perm (by rw[List.append_assoc];exact List.Perm.refl _))⟩
  clear ho HA HSnd HS0 HS1;rcases HErr.out with h1|⟨h1,h2⟩
  ·subst h1
   obtain⟨y,hy⟩:∃y,y=(if wk then goOnM W1 rd (r1,r2,r3) false else(W1,rd)):=⟨_,rfl⟩
   have ho:o=some ⟨y.1.fin d.x ((d.g:Int),place,mv) sm,y.2,none⟩:=by rw[←HOE.out,if_pos rfl,←hy]
   have hfi:=HFi.out rfl;rw[←hy] at hfi;have HO:=Qq ho;have HY:=Qq hy;have HFi2:=Qq hfi;clear HOE HFi ho hy hfi;go_upto_if 27 with fail
   go_cut [] (fun wx=>yH w0 wx p T d y.1 y.2 (zf b7 [.int .i64 mv,.bool sm,.int .i64 r1,.int .i64 r2,.int .i64 r3,.bool wk]::R))
   case first =>
    cases wk with
    | true =>
     go_wp2_with fail;refine(T9 HD.out (r1,r2,r3) false (HGo.out (by first|rfl|trivial)) (by have:=HRD.out;omega)).mono ?_
     rintro r w2 ⟨rfl,h2⟩;have H2:=Qq h2;clear h2;go_wp2_with fail;go_meet;rw[HY.out];exact H2.out
    | false =>
     go_wp2_with fail;go_meet;rw[HY.out];exact HD.out
   case rest =>
    obtain⟨D2,ra2,rc2,hf2,h2⟩:=hcut;have q0:=(h2.zo 10 rfl 0 _ rfl).1
    have q1:=(h2.zo 10 rfl 1 _ rfl).1
    have q2:=(h2.zo 10 rfl 2 _ rfl).1
    have q3:=(h2.zo 10 rfl 3 _ rfl).1
    have q4:=(h2.zo 10 rfl 4 _ rfl).1
    have q5:=(h2.zo 10 rfl 5 _ rfl).1
    have y0:=(h2.zo 12 rfl 0 _ rfl).1
    have y1:=(h2.zo 12 rfl 1 _ rfl).1
    have HN:=Qq (fun j=>TP sm (h2.step (zv wc j)) hf2 HFi2.out)
    unfold wv at HN;simp only at HN
    clear h2 hf2 HGo HErr HD z2 z3 z4 z5;go_upto_region 6 with fail
    refine zi (fun wx=>∃nq,wx=World.drewN (wc) nq) 18 1 (Array.replicate 19 false) (Qj 19 262143) (by kernel_rfl) (by kernel_rfl) ?_
    refine ze 0 18 _ (Qj 19 262143) 0 (by kernel_rfl) za (zE wc) (by kernel_rfl) ?_
    simp only[QX,QV,QJ];(repeat((first|refine Qx (h:=?_)|refine Qw (h:=?_));simp only[Act.put,QW,QY,QZ]));refine zb ?_;refine zm ?_;refine zP 18 (by kernel_rfl) ?_
    simp only[QQ,QJ];go_wp2_with fail;refine(HN.out 1).mono ?_
    rintro r w3 ⟨rfl,h3,hf3⟩;have H3:Hid (yH w0 w3 p T d (y.1.fin d.x ((d.g:Int),place,mv) sm) y.2 R):=Qq ⟨D2,ra2,rc2,hf3,(h3.pick 12 rfl).drop⟩
    clear h3 hf3 HN;go_wp2_with fail;refine NoPanic.normal ?_
    go_wp2;go_ret;rw[HO.out];exact⟨rfl,H3.out⟩
  ·subst h1
   have hW:W1=W:=by rw[HWe.out,h2];exact HSame.out
   have ho:o=none:=by rw[←HOE.out,if_neg (by decide)]
   have HO:=Qq ho;have HD2:Hid (yH w0 wc p T d W rd (zf b7 [.int .i64 mv,.bool sm,.int .i64 r1,.int .i64 r2,.int .i64 r3,.bool wk]::R)):=Qq (by rw[←hW];exact HD.out)
   clear HOE HGo HFi hW ho HD h2;go_wp2;go_ret;rw[HO.out];obtain⟨D2,ra2,rc2,hf2,h2⟩:=HD2.out;exact⟨rfl,D2,ra2,rc2,hf2,(h2.pick 12 rfl).drop⟩
theorem Sh (k1 k2 k3:Int)(w:World) :
  Calls Tryz.prog 175 #[.agg #[.int .i64 k1,.int .i64 k2,.int .i64 k3]] w fun r w'=>r=.returned (.bool (k1==2))∧Below w.heap.size w w':=by
 go_enter Tryz.func175,Tryz.ntmps175
 go_wp2;go_ret;exact⟨rfl,by first|exact Below.refl _ _|exact below_alloc1 _ _⟩
theorem Ra (w:World)(ka:Option Addr)(m kc:Nat)(ks:List Zc)(hk:zt w ka (WN ks))(hm:m=ks.length)(hm2:m≤100000) :
  Calls Tryz.prog 174 #[.slice ka m kc,.func (.func 175) #[] #[]] w fun r w'=>r=.returned (.int .i64 (UO 0 ks))∧Below w.heap.size w w':=by
 have H:=Qq hk;have HN:=Qq hm;clear hk hm;go_enter Tryz.func174,Tryz.ntmps174
 go_wp2_with fail;go_loopw [8] (fun s wr=>∃i:Nat,i≤m∧s=.int .i64 i∧Hid (Below w.heap.size w wr∧UO 0 ks=UO i (ks.drop i))) (fun s _=>m-(intOf s).toNat)
 case atStart=>exact⟨0,by omega,rfl,Qq ⟨Below.refl _ _,rfl⟩⟩
 case round =>
  obtain⟨i,hi,rfl,hr⟩:=hrel;obtain⟨r1,r2⟩:=hr.out;by_cases hlt:i<m
  ·have hil:i<ks.length:=by have:=HN.out;omega
   obtain⟨b,off,rfl,q0,q1,q2⟩:=zt.wt (l:=ks) ((H.out.below r1)) i hil
   rw[Jz ks i hil] at r2;obtain⟨x,hx⟩:∃x,x=ks[i]:=⟨_,rfl⟩
   rw[←hx] at q0 q1 q2 r2;clear hx;obtain⟨k1,k2,k3⟩:=x;simp only at q0 q1 q2 r2
   have hli:(i:Int)<(m:Int):=by omega
   have HP:=Qq (Sh k1 k2 k3 wr)
   have R1:=Qq r1;by_cases hyg:k1=2
   ·have hb:(k1==2)=true:=by rw[beq_iff_eq];exact hyg
    rw[hb] at HP;rw[if_pos hyg] at r2;have R2:=Qq r2;clear hb hyg hr r1 r2;go_wp2_with fail;refine HP.out.mono ?_
    rintro r w3 ⟨rfl,b3⟩;have HZ:=Qq (zA R1.out b3)
    clear b3;go_wp2;go_ret;exact⟨by rw[R2.out];rfl,HZ.out⟩
   ·have hb:(k1==2)=false:=by rw[beq_eq_false_iff_ne];exact hyg
    rw[hb] at HP;rw[if_neg hyg] at r2;have R2:=Qq r2;clear hb hyg hr r1 r2;go_wp2_with fail;refine HP.out.mono ?_
    rintro r w3 ⟨rfl,b3⟩;have HZ:=Qq (And.intro (zA R1.out b3) R2.out)
    clear b3;go_wp2;exact⟨⟨i+1,by omega,by go_num,HZ⟩,by simp[intOf];omega⟩
  ·have hge:¬(i:Int)<(m:Int):=by omega
   have hd:ks.drop i=[]:=List.drop_of_length_le (by have:=HN.out;omega)
   rw[hd] at r2;have HF:=Qq (And.intro r1 r2)
   clear hr r1 r2 hd;go_wp2;go_ret;exact⟨by rw[HF.out.2];rfl,HF.out.1⟩
theorem KQ (w:World)(ka:Option Addr)(m kc:Nat)(ks:List Zc)(hk:zt w ka (WN ks))(hm:m=ks.length)(hm2:m≤100000) :
  Calls Tryz.prog 162 #[.slice ka m kc] w fun r w'=>r=.returned (.tuple #[.int .i64 (if UO 0 ks<0 then 0 else UO 0 ks),.bool (!decide (UO 0 ks<0))])∧Below w.heap.size w w':=by
 have hx:=Ra w ka m kc ks hk hm hm2;obtain⟨e,he⟩:∃e,e=UO 0 ks:=⟨_,rfl⟩
 rw[←he] at hx ⊢;have HX:=Qq hx;clear hx he hk hm;by_cases h:e<0
 ·rw[if_pos h,show(!decide (e<0))=false by simp[h]]
  go_enter Tryz.func162,Tryz.ntmps162
  go_wp2_with fail;refine HX.out.mono ?_
  rintro r w2 ⟨rfl,b2⟩;have B2:=Qq b2;clear b2;go_wp2;go_ret2
  exact⟨rfl,B2.out⟩
 ·rw[if_neg h,show(!decide (e<0))=true by simp[h]]
  go_enter Tryz.func162,Tryz.ntmps162
  go_wp2_with fail;refine HX.out.mono ?_
  rintro r w2 ⟨rfl,b2⟩;have B2:=Qq b2;clear b2;go_wp2;go_ret2
  exact⟨rfl,B2.out⟩
theorem LW {w0 w:World}{ps:List Pl}{Cs:List Ch}{R:List zy}{la:Option Addr}{lc n:Nat}(h:Own w0 w (YF ps Cs++zd 1 la lc n (xR ps)::R))(hn:n=ps.length)(hl:ps.length=Cs.length)(g:Int)(ka:Option Addr)(m kc:Nat)(ks:List Zc)(ra:Option Addr)(rn rc:Nat)(yU:List Int)
  (hk:∀w' Cs',Own w0 w' (YF ps Cs'++zd 1 la lc n (xR ps)::R)→zt w' ka (WN ks)∧zt w' ra (zr yU)) (hm:m=ks.length) (hm2:m≤1000) (hr8:yU.length=8) (hrn:rn=8) (hok:VT n ks) (B:Nat) (hB:RI B Cs) (hB2:B≤90000) :
  Calls Tryz.prog 171 #[.int .i64 g,.slice ka m kc,.slice ra rn rc,.slice la n lc] w fun r w'=>r=.returned (.tuple #[])∧Own w0 w' (YF ps (wasF g yU 0 ks Cs)++zd 1 la lc n (xR ps)::R):=by
 have H:=Qq h;have HK:=Qq hk;have HN:=Qq hn;have HM:=Qq hm;have HO:=Qq hok;have HL:=Qq hl;have HBB:=Qq hB;subst hrn;clear h hk hn hm hok hl hB;go_enter Tryz.func171,Tryz.ntmps171
 go_wp2_with fail;go_loopw [12] (fun s wr=>∃i:Nat,∃Cs',i≤m∧s=.int .i64 i∧Hid (Own w0 wr (YF ps Cs'++zd 1 la lc n (xR ps)::R)∧wasF g yU i (ks.drop i) Cs'=wasF g yU 0 ks Cs∧Cs'.length=Cs.length∧RI (B+i) Cs')) (fun s _=>m-(intOf s).toNat)
 case atStart=>exact⟨0,Cs,by omega,rfl,Qq ⟨H.out,rfl,rfl,HBB.out⟩⟩
 case round =>
  obtain⟨i,Cs',hi,rfl,hr⟩:=hrel;obtain⟨r1,r2,r3,r4⟩:=hr.out;by_cases hlt:i<m
  ·have hil:i<ks.length:=by have:=HM.out;omega
   obtain⟨kk,kr⟩:=HK.out _ _ r1;obtain⟨b,off,rfl,q0,q1,q2⟩:=zt.wt (l:=ks) (kk) i hil
   have hok:=HO.out ks[i] (List.getElem_mem hil)
   rw[My g yU ks i hil] at r2;obtain⟨x,hx⟩:∃x,x=ks[i]:=⟨_,rfl⟩
   rw[←hx] at q0 q1 q2 hok r2;clear hx kk;obtain⟨k1,k2,k3⟩:=x;simp only at q0 q1 q2 hok
   obtain⟨h0,h1,h2,h3,h4⟩:=hok;have hli:(i:Int)<(m:Int):=by omega
   obtain⟨j,rfl⟩:∃j:Nat,k2=(j:Int):=⟨k2.toNat,by omega⟩
   by_cases h22:k1=2
   ·subst h22
    have e:waF g yU i (2,(j:Int),k3) Cs'=Cs':=by unfold waF;split<;>simp
    rw[e] at r2;have HR:=Qq (show _∧_∧_∧RI (B+(i+1)) Cs' from⟨r1.step (below_alloc1 wr (.cells #[.int .i64 2,.int .i64 (j:Int),.int .i64 k3] 129)),r2,r3,r4.mono (by omega)⟩)
    clear hr r1 r2 r3 r4 h0 h1 h2 h3 h4 e kr;go_wp2;exact⟨⟨i+1,Cs',by omega,by go_num,HR⟩,by simp[intOf];omega⟩
   ·have hjn:j<ps.length:=by have:=h2 h22;have:=HN.out;omega
    have hjC:j<Cs'.length:=by rw[r3,←HL.out];exact hjn
    have hp:ps[j]?=some ps[j]:=List.getElem?_eq_getElem hjn
    have hC:Cs'[j]?=some Cs'[j]:=List.getElem?_eq_getElem hjC
    have hlim:=r4 Cs'[j] (List.getElem_mem hjC)
    generalize ps[j]=p at hp
    generalize Cs'[j]=C at hC hlim
    obtain⟨pb,poff,rfl,gp⟩:=Oe r1 hp;obtain⟨R',hR,hback⟩:=r1.Pw hp hC;have gpl:=World.block_lt_of_cell? _ _ gp
    have hjn':(j:Int)<(n:Int):=by have:=HN.out;omega
    obtain⟨buf,S,Rv,cl⟩:=C;simp only at hlim
    rcases(by omega:k1=0∨k1=1) with rfl|rfl
    ·have e:waF g yU i (0,(j:Int),k3) Cs'=Cs'.set j ⟨buf,S,Rv++[(g,(i:Int),0)],cl⟩:=by unfold waF;simp[hC]
     rw[e] at r2;have hw:=Ql (hR.step (below_alloc1 wr (.cells #[.int .i64 0,.int .i64 (j:Int),.int .i64 k3] 129))) (g,(i:Int),0) (by omega)
     have HW:=Qq hw;have HX:=Qq (fun(w':World) (h':Own w0 w' (yv p.1 p.2 ⟨buf,S,Rv++[(g,(i:Int),0)],cl⟩::R'))=>(show Own w0 w' (YF ps (Cs'.set j ⟨buf,S,Rv++[(g,(i:Int),0)],cl⟩)++zd 1 (some ⟨pb,poff,none⟩) lc n (xR ps)::R)∧wasF g yU (i+1) (ks.drop (i+1)) (Cs'.set j ⟨buf,S,Rv++[(g,(i:Int),0)],cl⟩)=wasF g yU 0 ks Cs∧(Cs'.set j ⟨buf,S,Rv++[(g,(i:Int),0)],cl⟩).length=Cs.length∧RI (B+(i+1)) (Cs'.set j ⟨buf,S,Rv++[(g,(i:Int),0)],cl⟩) from
      ⟨hback w' _ h',r2,by simpa using r3,(r4.mono (by omega)).set _ _ ⟨by simp only;omega,by simp only;omega,by simp;omega⟩⟩))
     unfold wv at HW;simp only at HW
     clear hr r1 r2 r3 r4 h0 h1 h2 h3 h4 h22 e kr hw hback hR hC hp hjC hjn hlim;go_wp2_with fail;refine HW.out.mono ?_
     rintro r w3 ⟨rfl,h3⟩;have HR:=Qq (HX.out _ h3)
     clear h3;go_wp2;exact⟨⟨i+1,_,by omega,by go_num,HR⟩,by simp[intOf];omega⟩
    ·obtain⟨q,rfl⟩:∃q:Nat,k3=(q:Int):=⟨k3.toNat,by omega⟩
     have hq8:q<yU.length:=by omega
     have hq8':(q:Int)<8:=by omega
     obtain⟨rb,ro,rfl,gr⟩:=kr.int q hq8;obtain⟨v,hv⟩:∃v,v=yU[q]:=⟨_,rfl⟩
     have HQ9:=Qq (show q<yU.length∧∀h:q<yU.length,yU[q]=v from⟨hq8,fun _=>hv.symm⟩)
     have HP9:=Qq hp;have HLIM:=Qq hlim;have hlim2:=hlim;clear hlim;rw[←hv] at gr;have e:waF g yU i (1,(j:Int),(q:Int)) Cs'=Cs'.set j ⟨buf,S++[(g,(i:Int),v)],Rv,cl⟩:=by unfold waF;simp[hC,hv,List.getD_eq_getElem?_getD,List.getElem?_eq_getElem hq8]
     rw[e] at r2;have hw:=True.intro;have HW:=hw;have HX:=Qq (fun(w':World) (h':Own w0 w' (yv p.1 p.2 ⟨buf,S++[(g,(i:Int),v)],Rv,cl⟩::R'))=>(show Own w0 w' (YF ps (Cs'.set j ⟨buf,S++[(g,(i:Int),v)],Rv,cl⟩)++zd 1 (some ⟨pb,poff,none⟩) lc n (xR ps)::R)∧wasF g yU (i+1) (ks.drop (i+1)) (Cs'.set j ⟨buf,S++[(g,(i:Int),v)],Rv,cl⟩)=wasF g yU 0 ks Cs∧(Cs'.set j ⟨buf,S++[(g,(i:Int),v)],Rv,cl⟩).length=Cs.length∧RI (B+(i+1)) (Cs'.set j ⟨buf,S++[(g,(i:Int),v)],Rv,cl⟩) from
      ⟨hback w' _ h',r2,by simpa using r3,(r4.mono (by omega)).set _ _ ⟨by simp only;omega,by simp;omega,by simp only;omega⟩⟩))
     obtain⟨s0,hs0⟩:∃s0,s0=wr.heap.size:=⟨_,rfl⟩
     have hA:=hR.alloc [.int .i64 1,.int .i64 (j:Int),.int .i64 (q:Int)] 129 hs0
     have HA:=Qq hA;have HB9:=Qq hback;have grl:=World.block_lt_of_cell? _ _ gr
     clear hr r1 r2 r3 r4 h0 h1 h2 h3 h4 h22 e kr hw HW hback hR hC hp hjC hjn hlim2 hv hq8 hA;go_upto_region 7 with fail
     rw[←hs0];have gp9:=zj gp (below_alloc1 wr (.cells #[.int .i64 1,.int .i64 (j:Int),.int .i64 (q:Int)] 129))
     have gr9:=zj gr (below_alloc1 wr (.cells #[.int .i64 1,.int .i64 (j:Int),.int .i64 (q:Int)] 129))
     clear gp gr hs0;generalize wr.alloc (.cells #[.int .i64 1,.int .i64 (j:Int),.int .i64 (q:Int)] 129)=W at *
     have hw:=QA (S:=S) ((HA.out.step (zg _)).pick 1 rfl) (g,(i:Int),v) (by have:=HLIM.out;omega)
     have HW:=Qq hw;unfold wv at HW;simp only at HW
     have hcel:∀wx C',Own w0 wx (yv p.1 p.2 C'::zf s0 [.int .i64 1,.int .i64 (j:Int),.int .i64 (q:Int)]::R')→wx.cell? ⟨s0,1,none⟩=some (.int .i64 (j:Int))∧wx.cell? ⟨s0,2,none⟩=some (.int .i64 (q:Int))∧wx.cell? ⟨pb,poff+j,none⟩=some (.pointer (some ⟨p.1,0,none⟩))∧wx.cell? ⟨rb,ro+q,none⟩=some (.int .i64 v):=fun wx C' hx=>by
      have hy:=HB9.out _ _ (hx.pick 1 rfl).drop
      obtain⟨_,_,ee,gp'⟩:=Oe hy HP9.out;cases ee
      obtain⟨_,_,ee,gr'⟩:=(HK.out _ _ hy).2.int q HQ9.out.1
      cases ee
      exact⟨(hx.zo 1 rfl 1 _ rfl).1,(hx.zo 1 rfl 2 _ rfl).1,gp',by rw[gr',HQ9.out.2 HQ9.out.1]⟩
     have h0:=hcel _ _ ((HA.out.step (zg W)).pick 1 rfl)
     have HCEL:=Qq hcel;clear hw hcel gp9 gr9;refine yd (fun wx=>wx.cell? ⟨s0,1,none⟩=some (.int .i64 (j:Int))∧wx.cell? ⟨s0,2,none⟩=some (.int .i64 (q:Int))∧wx.cell? ⟨pb,poff+j,none⟩=some (.pointer (some ⟨p.1,0,none⟩))∧wx.cell? ⟨rb,ro+q,none⟩=some (.int .i64 v)) 14 (Array.replicate 14 false) (by kernel_rfl) (by kernel_rfl) ?_
     refine zq 0 13 _ (Qj 14 8191) 1 (by kernel_rfl) za (h0) (by kernel_rfl) ?_
     simp only[QX,QV,QJ];(repeat((first|refine Qx (h:=?_)|refine Qv (h:=?_));simp only[Act.put,QW,QY,QZ]));refine zb ?_;refine zn 13 _ (Qj 14 16383) 0 (by kernel_rfl) (fun K hK=>?_)
     have HKK:=Qq hK;clear hK;simp only[QQ,QJ];refine zc (by rfl) ?_;go_simp;refine HW.out.mono ?_
     rintro r w3 ⟨rfl,h3⟩;have h1:=HCEL.out _ _ h3;have HR:=Qq (HX.out _ (h3.pick 1 rfl).drop)
     clear h3 h0;refine HKK.out _ _ (h1) ?_
     clear HKK K;refine wpAnyH_done (by kernel_rfl) (NoPanic.normal ?_) _
     clear h1;go_wp2;exact⟨⟨i+1,_,by omega,by go_num,HR⟩,by simp[intOf];omega⟩
  ·have hge:¬(i:Int)<(m:Int):=by omega
   have hd:ks.drop i=[]:=List.drop_of_length_le (by have:=HM.out;omega)
   rw[hd] at r2;have HF:=Qq (show Own w0 wr (YF ps (wasF g yU 0 ks Cs)++zd 1 la lc n (xR ps)::R) from by rw[←r2];exact r1)
   clear hr r1 r2 r3 r4 hd;go_wp2;go_end0
   exact⟨rfl,HF.out⟩
structure Tm (W:Wd) (rd:List Int) (g:Nat) (x:zS) (place:Int):Prop where
 ix:R9 W x
 k:W.ks.length≤1000
 j:0≤place∧place<((W.yA x).length:Int)
 s:((W.yA x).getD place.toNat (1,0,0)).1=1→Pf W rd g x ((W.yA x).getD place.toNat (1,0,0)) place
 r:((W.yA x).getD place.toNat (1,0,0)).1≠1→Qf W rd g x ((W.yA x).getD place.toNat (1,0,0)) place
theorem SH {w0 w:World}{p:Nat}{T:List Value}{d:Dq}{W:Wd}{rd:List Int}{R:List zy}(h:yH w0 w p T d W rd R)(hg:d.g<W.gs.length)(hm:1≤(W.g d.g).n∧(W.g d.g).n≤16)(place:Int)(ok:Tm W rd d.g d.x place)(hr:rd.length≤1000) :
  Calls Tryz.prog 158 #[.pointer (some ⟨d.q,0,none⟩),.int .i64 place] w fun r w'=>VQ w0 p T d R W rd (Zw W rd d.g d.x place) r w':=by
 obtain⟨D,ra,rc,hf,h⟩:=h;obtain⟨hx,hk,hj,hs,hrv⟩:=ok;obtain⟨j,rfl,hj8⟩:=yI (n:=(W.yA d.x).length) hj
 obtain⟨c,hc⟩:∃c,c=(W.yA d.x).getD j (1,0,0):=⟨_,rfl⟩
 rw[Int.toNat_natCast,←hc] at hs hrv;have hcj:(W.yA d.x)[j]=c:=by rw[hc,List.getD_eq_getElem?_getD,List.getElem?_eq_getElem hj8];rfl
 have e:Zw W rd d.g d.x (j:Int)=(if c.1=1 then x9 W rd d.g d.x c (j:Int) else xU W rd d.g d.x c (j:Int)):=by
  unfold Zw;simp only[Int.toNat_natCast];rw[←hc]
 rw[e];generalize hoe:(if c.1=1 then x9 W rd d.g d.x c (j:Int) else xU W rd d.g d.x c (j:Int))=o
 have HOE:=Qq hoe;have HSn:=Qq (fun w (h:yH w0 w p T d W rd R) (h1:c.1=1)=>Mb h hg hm c (j:Int) (hs h1) hr)
 have HRv:=Qq (fun w (h:yH w0 w p T d W rd R) (h1:c.1≠1)=>Nj h c (j:Int) (hrv h1) hr)
 obtain⟨c0,c1,c2⟩:=c;have HGE:=Qq hcj;have HCa:=Qq (fun wx Y (ho:Own w0 wx (zh p W D T++Y))=>Z0 ho hf d.x hx hk)
 have H:=Qq h;have HF:=Qq hf;have j0:(0:Int)≤(j:Int):=by omega
 have j8:(j:Int)<((W.yA d.x).length:Int):=by omega
 have SB:∀(wx:World) (Z:List zy),Own w0 wx (zh p W D T++(zf d.q (yn p (d.g:Int) d.x d.th d.dr d.go ra rd.length rc)::Z)) →
   wx.cell? ⟨d.q,0,none⟩=some (.pointer (some ⟨p,0,none⟩))∧wx.cell? ⟨d.q,2,none⟩=some (.int .i64 d.x.1)∧wx.cell? ⟨d.q,3,none⟩=some (.int .i64 d.x.2.1)∧wx.cell? ⟨d.q,4,none⟩=some (.int .i64 d.x.2.2.1)∧wx.cell? ⟨d.q,5,none⟩=some (.int .i64 d.x.2.2.2):=by
  intro wx Z ho;have hc:=ho.zo 10 rfl;exact⟨(hc 0 _ rfl).1,(hc 2 _ rfl).1,(hc 3 _ rfl).1,(hc 4 _ rfl).1,(hc 5 _ rfl).1⟩
 have HSB:=Qq SB;clear h hf hx hk hj hs hrv hc hcj e hoe SB hg hm hr;go_enter Tryz.func158,Tryz.ntmps158
 go_upto_region 1 with fail
 go_cut [5] (fun s5 wx=>∃b5,s5=.pointer (some ⟨b5,0,none⟩)∧Own w0 wx (zh p W D T++(zf b5 [.int .i64 c0,.int .i64 c1,.int .i64 c2]::zf d.q (yn p (d.g:Int) d.x d.th d.dr d.go ra rd.length rc)::zd 1 ra rc rd.length (zr rd)::R)))
 case first =>
  have o1:=H.out.step (zg w)
  refine xY (fun wx=>wx.cell? ⟨d.q,0,none⟩=some (.pointer (some ⟨p,0,none⟩))∧wx.cell? ⟨d.q,2,none⟩=some (.int .i64 d.x.1)∧wx.cell? ⟨d.q,3,none⟩=some (.int .i64 d.x.2.1)∧wx.cell? ⟨d.q,4,none⟩=some (.int .i64 d.x.2.2.1)∧wx.cell? ⟨d.q,5,none⟩=some (.int .i64 d.x.2.2.2)) 14 (Array.replicate 14 false) (by kernel_rfl) (by kernel_rfl) ?_
  refine zY 0 8 _ (Qj 14 255) 6 (by kernel_rfl) za (HSB.out _ _ o1) (by kernel_rfl) ?_
  simp only[QX,QV,QJ];(repeat((first|refine Qx (h:=?_)|refine Qv (h:=?_));simp only[Act.put,QW,QY,QZ]));refine zb ?_;refine zY 9 1 _ (Qj 14 767) 5 (by kernel_rfl) za (HSB.out _ _ o1) (by kernel_rfl) ?_
  simp only[QX,QV,QQ,QJ];(repeat((first|refine Qx (h:=?_)|refine Qv (h:=?_));simp only[Act.put,QW,QY,QZ]));refine zb ?_;refine Zl 8 12 _ (Qj 14 1023) (Qj 14 4863) 4 (by kernel_rfl) (fun K hK=>?_) (fun K hK=>?_)
  ·skip
   have HKK:=Qq hK;clear hK;simp only[QQ,QJ];refine zc (by rfl) ?_;go_simp;refine(HCa.out _ _ o1).mono ?_
   rintro r w3 ⟨a,ca,Z,rfl,hP,hl,o3,-⟩
   obtain⟨cbk,co,rfl,y0,y1,y2⟩:=(hP.cells o3 2 0 rfl rfl).wt j (by omega)
   rw[HGE.out] at y0 y1 y2;have o4:=o3.drop;refine HKK.out _ _ (HSB.out _ _ o4) ?_
   clear HKK K;refine zY 10 1 _ (Qj 14 2047) 3 (by kernel_rfl) za (HSB.out _ _ o4) (by kernel_rfl) ?_
   simp only[QX,QV,QQ,QJ];(repeat((first|refine Qx (h:=?_)|refine Qv (h:=?_));simp only[Act.put,QW,QY,QZ]));refine zb ?_;refine Zl 11 12 _ (Qj 14 4095) (Qj 14 6143) 2 (by kernel_rfl) (fun K hK=>?_) (fun K hK=>?_)
   ·skip
    have HKK:=Qq hK;clear hK;simp only[QQ,QJ];refine zc (by rfl) ?_;go_simp;refine HKK.out _ _ (HSB.out _ _ o4) ?_
    clear HKK K;have o5:=o4.alloc [.int .i64 0,.int .i64 0,.int .i64 0] 129 (b:=w3.heap.size) rfl
    refine yq 12 _ (Qj 14 8191) 1 (by kernel_rfl) (fun K hK=>?_)
    have HKK:=Qq hK;clear hK;simp only[QQ,QJ];refine zc (by rfl) ?_;go_simp;refine HKK.out _ _ (HSB.out _ _ o5.drop) ?_
    clear HKK K;have HOx:=Qq ((o4.alloc [.int .i64 c0,.int .i64 c1,.int .i64 c2] 129 (b:=w3.heap.size) rfl).XW)
    refine xl 13 _ (Qj 14 16383) (by kernel_rfl) (fun K hK=>?_)
    have HKK:=Qq hK;clear hK;simp only[QQ,QJ];refine zc (by rfl) ?_;go_simp;refine HKK.out _ _ (NoPanic.normal ?_)
    clear HKK K;go_wp2_with fail;go_meet;exact⟨_,rfl,HOx.out⟩
   ·skip
    have HKK:=Qq hK;clear hK;simp only[QQ,QJ];refine zc (by rfl) ?_;go_simp;have o5:=o4.alloc [.int .i64 0,.int .i64 0,.int .i64 0] 129 (b:=w3.heap.size) rfl
    refine HKK.out _ _ (HSB.out _ _ o5.drop) ?_
    clear HKK K;have y0':∀q,(w3.alloc q).cell? ⟨cbk,co+j*3,none⟩=some (.int .i64 c0):=fun q=>zj y0 (below_alloc1 w3 q)
    have y1':∀q,(w3.alloc q).cell? ⟨cbk,co+j*3+1,none⟩=some (.int .i64 c1):=fun q=>zj y1 (below_alloc1 w3 q)
    have y2':∀q,(w3.alloc q).cell? ⟨cbk,co+j*3+2,none⟩=some (.int .i64 c2):=fun q=>zj y2 (below_alloc1 w3 q)
    refine yq 11 _ (Qj 14 8191) 1 (by kernel_rfl) (fun K hK=>?_)
    have HKK:=Qq hK;clear hK;simp only[QQ,QJ];refine zc (by rfl) ?_;go_simp;refine HKK.out _ _ (HSB.out _ _ o5.drop) ?_
    clear HKK K;have HOx:=Qq ((o4.alloc [.int .i64 c0,.int .i64 c1,.int .i64 c2] 129 (b:=w3.heap.size) rfl).XW)
    refine xl 13 _ (Qj 14 16383) (by kernel_rfl) (fun K hK=>?_)
    have HKK:=Qq hK;clear hK;simp only[QQ,QJ];refine zc (by rfl) ?_;go_simp;refine HKK.out _ _ (NoPanic.normal ?_)
    clear HKK K;go_wp2_with fail;go_meet;exact⟨_,rfl,HOx.out⟩
  ·skip
   have o5:=(o1.alloc [.int .i64 0,.int .i64 0,.int .i64 0] 129 (b:=w.heap.size) rfl).XW
   have hcb:=World.block_lt_of_cell? _ _ (o5.zo 10 rfl 0 _ rfl).1
   have HKK:=Qq hK;clear hK;simp only[QQ,QJ];refine zc (by rfl) ?_;go_simp;refine HKK.out _ _ (HSB.out _ _ o5.yB.drop) ?_
   clear HKK K;refine yq 8 _ (Qj 14 5119) 3 (by kernel_rfl) (fun K hK=>?_)
   have HKK:=Qq hK;clear hK;simp only[QQ,QJ];refine zc (by rfl) ?_;go_simp;refine(HCa.out _ _ o5).mono ?_
   rintro r w3 ⟨a,ca,Z,rfl,hP,hl,o3,-⟩
   obtain⟨cbk,co,rfl,y0,y1,y2⟩:=(hP.cells o3 2 0 rfl rfl).wt j (by omega)
   rw[HGE.out] at y0 y1 y2;have o6:=o3.drop;refine HKK.out _ _ (HSB.out _ _ o6.yB.drop) ?_
   clear HKK K;refine zY 10 1 _ (Qj 14 6143) 2 (by kernel_rfl) za (HSB.out _ _ o6.yB.drop) (by kernel_rfl) ?_
   simp only[QX,QV,QQ,QJ];(repeat((first|refine Qx (h:=?_)|refine Qv (h:=?_));simp only[Act.put,QW,QY,QZ]));refine zb ?_;refine yq 11 _ (Qj 14 8191) 1 (by kernel_rfl) (fun K hK=>?_)
   have HKK:=Qq hK;clear hK;simp only[QQ,QJ];refine zc (by rfl) ?_;go_simp;refine HKK.out _ _ (HSB.out _ _ o6.yB.drop) ?_
   clear HKK K;obtain⟨z0,f0⟩:=o6.zo 10 rfl 0 _ rfl;obtain⟨z1,f1⟩:=o6.zo 10 rfl 1 _ rfl;obtain⟨z2,f2⟩:=o6.zo 10 rfl 2 _ rfl;have HOx:=Qq (((o6.yB.set 0 (.int .i64 c0)).set 1 (.int .i64 c1)).set 2 (.int .i64 c2)).XW
   refine xl 13 _ (Qj 14 16383) (by kernel_rfl) (fun K hK=>?_)
   have HKK:=Qq hK;clear hK;simp only[QQ,QJ];refine zc (by rfl) ?_;go_simp;refine HKK.out _ _ (NoPanic.normal ?_)
   clear HKK K;go_wp2_with fail;go_meet;exact⟨_,rfl,HOx.out⟩
 case rest =>
  obtain⟨b5,rfl,ho⟩:=hcut;have z0:=(ho.zo 10 rfl 0 _ rfl).1
  have z1:=(ho.zo 10 rfl 1 _ rfl).1
  have z2:=(ho.zo 10 rfl 2 _ rfl).1
  have HD:Hid (yH w0 wc p T d W rd R):=Qq ⟨D,ra,rc,HF.out,ho.yB.drop⟩
  clear ho H HCa HSB;by_cases h1:c0=1
  ·have ht:(c0==1)=true:=by simp[h1]
   have hoo:o=x9 W rd d.g d.x (c0,c1,c2) (j:Int):=by rw[←HOE.out,if_pos h1]
   have HO:=Qq hoo;have HCl:=Qq (HSn.out wc HD.out h1)
   clear HSn HRv HOE hoo h1;go_wp2_with fail;refine HCl.out.mono ?_
   intro r w4 hp;rw[←HO.out] at hp;unfold VQ at hp;cases o with
   | none =>
    obtain⟨rfl,h2⟩:=hp;have H2:=Qq h2;clear h2 HD HCl HO;go_wp2;go_ret;exact⟨rfl,H2.out⟩
   | some m =>
    obtain⟨Wm,rm,tm⟩:=m;cases tm with
    | none =>
     obtain⟨rfl,h2⟩:=hp;have H2:=Qq h2;clear h2 HD HCl HO;go_wp2;go_ret;exact⟨rfl,H2.out⟩
    | some k =>
     obtain⟨rfl,h2⟩:=hp;have H2:=Qq h2;clear h2 HD HCl HO;unfold Wz;go_wp2;exact⟨rfl,rfl,H2.out⟩
  ·have ht:(c0==1)=false:=by simp[h1]
   have hoo:o=xU W rd d.g d.x (c0,c1,c2) (j:Int):=by rw[←HOE.out,if_neg h1]
   have HO:=Qq hoo;have HCl:=Qq (HRv.out wc HD.out h1)
   clear HSn HRv HOE hoo h1;go_wp2_with fail;refine HCl.out.mono ?_
   intro r w4 hp;rw[←HO.out] at hp;unfold VQ at hp;cases o with
   | none =>
    obtain⟨rfl,h2⟩:=hp;have H2:=Qq h2;clear h2 HD HCl HO;go_wp2;go_ret;exact⟨rfl,H2.out⟩
   | some m =>
    obtain⟨Wm,rm,tm⟩:=m;cases tm with
    | none =>
     obtain⟨rfl,h2⟩:=hp;have H2:=Qq h2;clear h2 HD HCl HO;go_wp2;go_ret;exact⟨rfl,H2.out⟩
    | some k =>
     obtain⟨rfl,h2⟩:=hp;have H2:=Qq h2;clear h2 HD HCl HO;unfold Wz;go_wp2;exact⟨rfl,rfl,H2.out⟩
def FE (p:Nat)(W:Wd)(D:Wa)(T:List Value):List zy :=
 [zf p (yD W D++T),Xl D.fa D.fr W.fs D.ca W.ks,zd 2 D.aa D.ac W.gs.length (YE D.sk W.gs),yT (YZ D.sk W.gs),zd 1 D.la D.lc W.Ls.length (W8 D.lp),yT (RH D.lp W.Ls),xx D.sv W.hp,zd 1 D.oa D.oc W.out.length (zr W.out)]
theorem SU {w0 w:World}{p:Nat}{W:Wd}{D:Wa}{T:List Value}{Y:List zy}(h:Own w0 w (zh p W D T++Y))(hf:D.fits W) :
  Own w0 w (YF (List.zip D.ps W.Ns) W.Cs++zd 1 D.ha D.hc W.Cs.length (xR (List.zip D.ps W.Ns))::(FE p W D T++Y)) ∧
   ∀w' Cs',Cs'.length=W.Cs.length→Own w0 w' (YF (List.zip D.ps W.Ns) Cs'++zd 1 D.ha D.hc W.Cs.length (xR (List.zip D.ps W.Ns))::(FE p W D T++Y))→Own w0 w' (zh p { W with Cs:=Cs' } D T++Y)∧D.fits { W with Cs:=Cs' }:=by
 have h1:=((h.pick 5 rfl).pick 5 rfl).pick 1 rfl
 refine⟨h1.DF,fun w' Cs' hl h'=>⟨?_,⟨hf.f,hf.g,by simp[hf.c,hl],by simp[hf.n,hl],hf.l,hf.k⟩⟩⟩
 have h2:=(((((Own.MW h').pick 1 rfl).pick 5 rfl).pick 5 rfl).pick 5 rfl).pick 5 rfl
 simp only[zh,yD,hl];exact h2
theorem Ob {w:World}{s cap:Nat}{G:Gt}(h:zR w s G.n cap G.z)(hn:1≤G.n):zt w (some ⟨s,(G.n-1)*11+2,none⟩) (zr G.yU)∧G.yU.length=8:=by
 have hl:G.yU.length=8:=by unfold Gt.yU Gt.o;rw[List.length_take,List.length_drop,h.len];omega
 refine⟨fun j v hj=>⟨s,_,rfl,?_⟩,hl⟩
 rw[xJ] at hj;unfold Gt.yU Gt.o at hj;rw[List.getElem?_take] at hj
 split at hj
 ·rw[List.getElem?_drop] at hj
  exact(h.yf _ _ (by rw[xJ];exact hj)).1
 ·cases hj
theorem Xa (g:Int)(yU:List Int):∀(l:List Zc) (i:Nat) (Cs:List Ch),(wasF g yU i l Cs).length=Cs.length
 | [],i,Cs=>rfl
 | k::t,i,Cs=>by unfold wasF;rw[Xa g yU t,Gf]
structure Vb (W:Wd) (x:zS):Prop where
 ix:R9 W x
 k:W.ks.length≤1000
 c:VT W.Cs.length (W.yA x)
 lim:∃B,RI B W.Cs∧B≤90000
 cl:W.Cs.length≤1000
theorem To {w0 w:World}{p:Nat}{T:List Value}{d:Dq}{W:Wd}{rd:List Int}{R:List zy}(h:yH w0 w p T d W rd R)(hg:d.g<W.gs.length)(hm:1≤(W.g d.g).n∧(W.g d.g).n≤16)(ok:Vb W d.x) :
  Calls Tryz.prog 159 #[.pointer (some ⟨d.q,0,none⟩)] w fun r w'=>r=.returned (.tuple #[])∧yH w0 w' p T d (Ww W d.g d.x) rd R:=by
 obtain⟨D,ra,rc,hf,h⟩:=h;obtain⟨hx,hk,hco,⟨B,hB,hB2⟩,hcl⟩:=ok;obtain⟨s,cap,hs⟩:=hf.Yn hg;obtain⟨m,hmm⟩:∃m,m=(W.g d.g).n-1:=⟨_,rfl⟩
 have SB:∀(W':Wd) (wx:World) (Z:List zy),W'.Cs.length=W.Cs.length→Own w0 wx (zh p W' D T++(zf d.q (yn p (d.g:Int) d.x d.th d.dr d.go ra rd.length rc)::Z)) →
   wx.cell? ⟨d.q,0,none⟩=some (.pointer (some ⟨p,0,none⟩))∧wx.cell? ⟨d.q,1,none⟩=some (.int .i64 (d.g:Int))∧wx.cell? ⟨d.q,2,none⟩=some (.int .i64 d.x.1)∧wx.cell? ⟨d.q,3,none⟩=some (.int .i64 d.x.2.1)∧wx.cell? ⟨d.q,4,none⟩=some (.int .i64 d.x.2.2.1)∧wx.cell? ⟨d.q,5,none⟩=some (.int .i64 d.x.2.2.2)∧wx.cell? ⟨p,3,none⟩=some (.slice D.ha W.Cs.length D.hc):=by
  intro W' wx Z hcs ho;have hc:=ho.zo 10 rfl;have h3:=(ho.zo 0 rfl 3 _ rfl).1
  rw[hcs] at h3;exact⟨(hc 0 _ rfl).1,(hc 1 _ rfl).1,(hc 2 _ rfl).1,(hc 3 _ rfl).1,(hc 4 _ rfl).1,(hc 5 _ rfl).1,h3⟩
 have HSB:=Qq (SB W · · rfl)
 have HSB2:=Qq (SB { W with Cs:=wasF (d.g:Int) (W.g d.g).yU 0 (W.yA d.x) W.Cs } · · (Xa _ _ _ _ _))
 have HCa:=Qq (fun wx Y (ho:Own w0 wx (zh p W D T++Y))=>Z0 ho hf d.x hx hk)
 have HTop:Hid (∀(wx:World) (Z:List zy),Own w0 wx (zh p W D T++(zf d.q (yn p (d.g:Int) d.x d.th d.dr d.go ra rd.length rc)::Z)) →
   Calls Tryz.prog 118 #[.pointer (some ⟨d.q,0,none⟩)] wx fun r w'=>r=.returned (.pointer (some ⟨s,m*11,none⟩))∧∃k,w'=wx.drewN k):=Qq (fun wx Z hx=>by
  rw[hmm];exact VG hx (hx.zo 10 rfl) hg hs hm)
 have HWt:Hid (∀(wx:World) (a:Option Addr) (c:Nat) (Z:zy) (Y:List zy),SD D W d.x a Z→Own w0 wx (zh p W D T++(Z::Y))→(W.yA d.x).length≤1000 →
   Calls Tryz.prog 171 #[.int .i64 (d.g:Int),.slice a (W.yA d.x).length c,.slice (some ⟨s,m*11+2,none⟩) 8 8,.slice D.ha W.Cs.length D.hc] wx fun r w'=>r=.returned (.tuple #[])∧Own w0 w' (zh p { W with Cs:=wasF (d.g:Int) (W.g d.g).yU 0 (W.yA d.x) W.Cs } D T++(Z::Y))∧D.fits { W with Cs:=wasF (d.g:Int) (W.g d.g).yU 0 (W.yA d.x) W.Cs }):=Qq (fun wx a c Z Y hP ho hcl2=>by
  obtain⟨o1,o2⟩:=SU ho hf;have hpl:W.Cs.length=(List.zip D.ps W.Ns).length:=by rw[List.length_zip,hf.c,hf.n];omega
  have hr8:=(Ob (YT ho hg hs).1 hm.1).2
  refine(LW o1 hpl (by rw[hpl]) (d.g:Int) a (W.yA d.x).length c (W.yA d.x) (some ⟨s,m*11+2,none⟩) 8 8 (W.g d.g).yU (fun w' Cs' h'=>?_) rfl hcl2 hr8 rfl hco B hB hB2).mono (fun r w' hh=>⟨hh.1,o2 w' _ (Xa _ _ _ _ _) hh.2⟩)
  have h2:=h'.Ze;refine⟨hP.cells h2 2 9 rfl rfl,?_⟩
  have h3:=(h2.pick 4 rfl).WG (Yl hs (Wd.WS hg))
  obtain⟨F,⟨-,h4⟩,-⟩:=h3;rw[hmm];exact(Ob h4 hm.1).1)
 have H:=Qq h;have HF:=Qq hf;have HG:=Qq hg;have HM:=Qq hm;have HMM:=Qq hmm;obtain⟨NC,hNC⟩:∃NC,NC=W.Cs.length:=⟨_,rfl⟩
 rw[←hNC] at HSB HSB2 HWt;clear h hf hx hk hco hB hB2 hcl hs SB hg hm hmm hNC;go_enter Tryz.func159,Tryz.ntmps159
 go_upto_region 0 with fail
 have o1:=H.out.step (zg w)
 refine yd (fun wx=>wx.cell? ⟨d.q,0,none⟩=some (.pointer (some ⟨p,0,none⟩))∧wx.cell? ⟨d.q,1,none⟩=some (.int .i64 (d.g:Int))∧wx.cell? ⟨d.q,2,none⟩=some (.int .i64 d.x.1)∧wx.cell? ⟨d.q,3,none⟩=some (.int .i64 d.x.2.1)∧wx.cell? ⟨d.q,4,none⟩=some (.int .i64 d.x.2.2.1)∧wx.cell? ⟨d.q,5,none⟩=some (.int .i64 d.x.2.2.2)∧wx.cell? ⟨p,3,none⟩=some (.slice D.ha NC D.hc)) 26 (Array.replicate 26 false) (by kernel_rfl) (by kernel_rfl) ?_
 refine zq 0 12 _ (Qj 26 4095) 14 (by kernel_rfl) za (HSB.out _ _ o1) (by kernel_rfl) ?_
 simp only[QX,QV,QJ];(repeat((first|refine Qx (h:=?_)|refine Qv (h:=?_));simp only[Act.put,QW,QY,QZ]));refine zb ?_;refine zq 13 1 _ (Qj 26 12287) 13 (by kernel_rfl) za (HSB.out _ _ o1) (by kernel_rfl) ?_
 simp only[QX,QV,QQ,QJ];(repeat((first|refine Qx (h:=?_)|refine Qv (h:=?_));simp only[Act.put,QW,QY,QZ]));refine zb ?_;refine zq 18 7 _ (Qj 26 33304575) 6 (by kernel_rfl) za (HSB.out _ _ o1) (by kernel_rfl) ?_
 simp only[QX,QV,QQ,QJ];(repeat((first|refine Qx (h:=?_)|refine Qv (h:=?_));simp only[Act.put,QW,QY,QZ]));refine zb ?_;refine zn 12 _ (Qj 26 33308671) 5 (by kernel_rfl) (fun K hK=>?_)
 have HKK:=Qq hK;clear hK;simp only[QQ,QJ];refine zc (by rfl) ?_;go_simp;refine(HCa.out _ _ o1).mono ?_
 rintro r w3 ⟨a,ca,Z,rfl,hP,hl,o3,-⟩
 refine HKK.out _ _ (HSB.out _ _ o3.drop) ?_
 clear HKK K;refine zn 14 _ (Qj 26 33325055) 4 (by kernel_rfl) (fun K hK=>?_)
 have HKK:=Qq hK;clear hK;simp only[QQ,QJ];refine zc (by rfl) ?_;go_simp;refine(HTop.out _ _ o3.drop).mono ?_
 rintro r w4 ⟨rfl,k4,hw4⟩;have o4:=o3.q1 hw4;clear hw4;refine HKK.out _ _ (HSB.out _ _ o4.drop) ?_
 clear HKK K;refine zq 15 3 _ (Qj 26 33554431) 1 (by kernel_rfl) za (HSB.out _ _ o4.drop) (by kernel_rfl) ?_
 simp only[QX,QV,QQ,QJ];(repeat((first|refine Qx (h:=?_)|refine Qv (h:=?_));simp only[Act.put,QW,QY,QZ]));refine zb ?_;refine zn 25 _ (Qj 26 67108863) 0 (by kernel_rfl) (fun K hK=>?_)
 have HKK:=Qq hK;clear hK;simp only[QQ,QJ];refine zc (by rfl) ?_;go_simp;refine(HWt.out _ _ _ _ _ hP o4.XW hl).mono ?_
 rintro r w5 ⟨rfl,o5,hf5⟩;refine HKK.out _ _ (HSB2.out _ _ o5.yB.drop) ?_
 clear HKK K;refine wpAnyH_done (by kernel_rfl) (NoPanic.normal ?_) _
 have HWe:Hid (Ww W d.g d.x=({ W with Cs:=wasF (d.g:Int) (W.g d.g).yU 0 (W.yA d.x) W.Cs }:Wd).zQ d.g 2):=Qq rfl
 have o6:=o5.yB.drop;have hg5:d.g<({ W with Cs:=wasF (d.g:Int) (W.g d.g).yU 0 (W.yA d.x) W.Cs }:Wd).gs.length:=HG.out
 have hm5:1≤(({ W with Cs:=wasF (d.g:Int) (W.g d.g).yU 0 (W.yA d.x) W.Cs }:Wd).g d.g).n∧(({ W with Cs:=wasF (d.g:Int) (W.g d.g).yU 0 (W.yA d.x) W.Cs }:Wd).g d.g).n≤16:=HM.out
 generalize ({ W with Cs:=wasF (d.g:Int) (W.g d.g).yU 0 (W.yA d.x) W.Cs }:Wd)=W5 at *
 obtain⟨b,off,s',cap',F⟩:=ZI hf5 o6 hg5 hm5;have HMe:=Qq (F.DC 0)
 have HP:Hid (∀w2 k,w2=(w5.drewN 0).drewN k→yH w0 (w2.setCell ⟨b,off+d.g*2,none⟩ (.int .i64 2)) p T d (W5.zQ d.g 2) rd R):=Qq (fun w2 k e=>⟨D,ra,rc,hf5.ye _ _,Va (o6.q2 e) hf5 hg5 F.aa 2⟩)
 obtain⟨c0,c1⟩:=F.st;clear F o1 o3 o4 o5 o6 hf5 hP HWt HTop HCa HSB HSB2 hg5 hm5 H HF HG HM HMM;go_wp2_with fail;refine(HMe.out).mono ?_
 rintro r w6 ⟨rfl,k,hw6⟩;have HF:=Qq (HP.out _ _ hw6)
 have c0':w6.cell? ⟨b,off+d.g*2,none⟩=some (.int .i64 ((W5.g d.g).st)):=by rw[hw6];exact c0
 have c1':w6.frozen? ⟨b,off+d.g*2,none⟩=false:=by rw[hw6];exact c1
 clear hw6 HP HMe c0 c1;go_wp2;go_end0
 rw[HWe.out];exact⟨rfl,HF.out⟩
theorem Vs:∀(l:List Wt) (W:Wd) (rd:List Int) (x:Wt),goOnsM W rd (l++[x])=goOnM (goOnsM W rd l).1 (goOnsM W rd l).2 x false
 | [],W,rd,x=>rfl
 | y::l,W,rd,x=>by
  show goOnsM (goOnM W rd y false).1 (goOnM W rd y false).2 (l++[x])=_
  rw[Vs l];rfl
theorem NH (W:Wd)(rd:List Int)(x:Wt)(s:Bool):(goOnM W rd x s).2.length≤rd.length+1:=by
 unfold goOnM;simp only
 split
 ·split<;>simp
 ·simp
theorem V9:∀(l:List Wt) (W:Wd) (rd:List Int),(goOnsM W rd l).2.length≤rd.length+l.length
 | [],W,rd=>by simp[goOnsM]
 | y::l,W,rd=>by
  have h1:=V9 l (goOnM W rd y false).1 (goOnM W rd y false).2
  have h2:=NH W rd y false;unfold goOnsM;simp only[List.length_cons];omega
theorem NV {w0 w:World}{p:Nat}{W:Wd}{D:Wa}{T:List Value}{R:List zy}(h:Own w0 w (zh p W D T++R))(hf:D.fits W){i:Nat}(hi:i<W.Cs.length) :
  ∃pt b off Rc,D.ps[i]?=some pt∧D.ha=some ⟨b,off,none⟩∧w.cell? ⟨b,off+i,none⟩=some (.pointer (some ⟨pt,0,none⟩))∧Own w0 w (yv pt (W.Ns.getD i 0) (W.ch (i:Int))::(Rc++R)) ∧
   ∀w' C' R',Own w0 w' (yv pt (W.Ns.getD i 0) C'::(Rc++R'))→Own w0 w' (zh p (W.zM (i:Int) C') D T++R')∧D.fits (W.zM (i:Int) C'):=by
 have hlp:i<D.ps.length:=by rw[hf.c];exact hi
 have hln:i<W.Ns.length:=by rw[hf.n];exact hi
 have hz:(List.zip D.ps W.Ns)[i]?=some (D.ps[i],W.Ns.getD i 0):=Wo (List.getElem?_eq_getElem hlp) (by rw[List.getD_eq_getElem?_getD,List.getElem?_eq_getElem hln];rfl)
 obtain⟨b,off,h1,h2⟩:=(h.yZ 4 rfl).cells i _ (TT _ i _ hz)
 obtain⟨R'',k1,k2⟩:=(h.pick 5 rfl).ZZ (So hz (Wd.UY hi))
 refine⟨D.ps[i],b,off,R''++[zf p (yD W D++T),Xl D.fa D.fr W.fs D.ca W.ks,zd 2 D.aa D.ac W.gs.length (YE D.sk W.gs),yT (YZ D.sk W.gs),zd 1 D.ha D.hc W.Cs.length (xR (List.zip D.ps W.Ns)),
  zd 1 D.la D.lc W.Ls.length (W8 D.lp),yT (RH D.lp W.Ls),xx D.sv W.hp,zd 1 D.oa D.oc W.out.length (zr W.out)],List.getElem?_eq_getElem hlp,h1,h2,by rw[List.append_assoc];exact k1,fun w' C' R' h'=>⟨?_,⟨hf.f,hf.g,by simp[hf.c,Wd.zM],by simp[hf.n,Wd.zM],hf.l,hf.k⟩⟩⟩
 rw[List.append_assoc] at h'
 have h3:=k2 w' _ _ h';rw[TQ C' hz hi] at h3
 have h4:=((((h3.pick 5 rfl).pick 5 rfl).pick 5 rfl).pick 5 rfl).pick 5 rfl
 have e:zh p (W.zM (i:Int) C') D T++R'=(zh p W D T++R').set 5 (yT (YF (List.zip D.ps W.Ns) (W.Cs.set i C'))):=by
  simp only[zh,yD,List.length_set,Wd.zM,Int.toNat_natCast];rfl
 rw[e];exact h4
theorem yH.less {w0 w:World}{p:Nat}{T:List Value}{d:Dq}{W:Wd}{rd:List Int}{A:zy}{R:List zy}(h:yH w0 w p T d W rd (A::R)):yH w0 w p T d W rd R:=by
 obtain⟨D,ra,rc,hf,h⟩:=h;exact⟨D,ra,rc,hf,(h.pick 12 rfl).drop⟩
structure T6 (W:Wd) (x:zS):Prop where
 c0:0≤x.2.1∧x.2.1<(W.Cs.length:Int)
 cl:W.Cs.length≤1000
 n:(W.ch x.2.1).R.length≤100000
 go:(W.ch x.2.1).cl=false→(W.ch x.2.1).S=[]→∀i (h:i<(W.ch x.2.1).R.length),La (goOnsM (W.zM x.2.1 ⟨(W.ch x.2.1).buf,[],[],true⟩) [] ((W.ch x.2.1).R.take i)).1 (W.ch x.2.1).R[i]
theorem QL {w0 w:World}{p:Nat}{T:List Value}{d:Dq}{W:Wd}{R:List zy}(h:yH w0 w p T d W [] R)(ok:T6 W d.x) :
  Calls Tryz.prog 135 #[.pointer (some ⟨d.q,0,none⟩)] w fun r w'=>ZY w0 p T d R (xN W [] d.x) r w':=by
 have H0:=Qq h;obtain⟨D,ra,rc,hf,h⟩:=h;obtain⟨hc0,hcl,hn,hgo⟩:=ok;obtain⟨i,hI,hi8⟩:=yI (n:=W.Cs.length) hc0
 rw[hI] at hn hgo;obtain⟨pt,hb,ho,Rc,hpt,hha,hp,h3,h4⟩:=NV h hf hi8;have q0:=(h.zo 10 rfl 0 _ rfl).1
 have q3:=(h.zo 10 rfl 3 _ rfl).1
 have p3:=(h.zo 0 rfl 3 _ rfl).1
 rw[hha] at p3;rw[hI] at q3;have i0:(0:Int)≤(i:Int):=by omega
 have i8:(i:Int)<(W.Cs.length:Int):=by omega
 have e:xN W [] d.x=(if(W.ch (i:Int)).cl then⟨W,[],some (-2)⟩ else if(W.ch (i:Int)).S=[] then⟨(goOnsM (W.zM (i:Int) ⟨(W.ch (i:Int)).buf,[],[],true⟩) [] (W.ch (i:Int)).R).1,(goOnsM (W.zM (i:Int) ⟨(W.ch (i:Int)).buf,[],[],true⟩) [] (W.ch (i:Int)).R).2,none⟩ else⟨W.zM (i:Int) ⟨(W.ch (i:Int)).buf,[],[],true⟩,[],some (-1)⟩):=by
  unfold xN;rw[hI]
 rw[e];have hsame:=X3 W i hi8;generalize W.Cs.length=NC at *;generalize W.Ns.getD i 0=N at *;generalize hC:W.ch (i:Int)=C at *
 obtain⟨buf,S,Rv,cl⟩:=C;simp only at *
 have HI:=Qq hI;have HF:=Qq hf;cases cl with
 | true =>
  rw[if_pos rfl];have HC:Hid (∀j,Calls Tryz.prog 160 #[.pointer (some ⟨pt,0,none⟩)] (w.drewN j) fun r w'=>r=.returned (.tuple #[.slice none 0 0,.slice none 0 0,.int .i64 10])∧w.drewN j=w'):=Qq (fun j=>RQ (h3.step (zv w j)))
  clear h h3 h4 hpt hha hf hgo hn hcl hc0 hsame hC e hi8 hI;go_enter Tryz.func135,Tryz.ntmps135
  go_upto_region 0 with fail
  refine zi (fun wx=>∃nq,wx=World.drewN (w) nq) 14 8 (Array.replicate 22 false) (Qj 22 16383) (by kernel_rfl) (by kernel_rfl) ?_
  refine ze 0 14 _ (Qj 22 16383) 0 (by kernel_rfl) za (zE w) (by kernel_rfl) ?_
  simp only[QX,QV,QJ];(repeat((first|refine Qx (h:=?_)|refine Qw (h:=?_));simp only[Act.put,QW,QY,QZ]));refine zb ?_;refine zm ?_;refine yz (fun _=>True) 8 0 (Qj 22 4194303) ?_
  refine zB 14 _ (Qj 22 32767) 7 (by kernel_rfl) (fun K hK=>?_)
  have HKK:=Qq hK;clear hK;simp only[QQ,QJ];refine zc (by rfl) ?_;go_simp;refine(HC.out 1).mono ?_
  rintro r w3 ⟨rfl,rfl⟩;refine HKK.out _ _ (trivial) ?_
  clear HKK K;refine ze 15 7 _ (Qj 22 4194303) 0 (by kernel_rfl) za (trivial) (by kernel_rfl) ?_
  simp only[QX,QV,QQ,QJ];(repeat((first|refine Qx (h:=?_)|refine Qv (h:=?_));simp only[Act.put,QW,QY,QZ]));refine zb ?_;refine zm ?_;refine zD (by kernel_rfl) (NoPanic.normal ?_)
  go_wp2;exact⟨rfl,rfl,H0.out.step (zv w 1)⟩
 | false =>
  rw[if_neg (by simp)]
  obtain⟨W1,hW1⟩:∃W1,W1=W.zM (i:Int) ⟨buf,[],[],true⟩:=⟨_,rfl⟩
  rw[←hW1] at hgo ⊢;have HC:Hid (∀j,Calls Tryz.prog 160 #[.pointer (some ⟨pt,0,none⟩)] (w.drewN j) fun r w'=>∃a ac sa sc,r=.returned (.tuple #[.slice a Rv.length ac,.slice sa S.length sc,.int .i64 0]) ∧
    yH w0 w' p T d W1 [] (zd 3 a ac Rv.length (xe Rv)::R)):=Qq (fun j=>(QG (h3.step (zv w j))).mono (fun r w' ⟨a,ac,sa,sc,h1,h2⟩=>by
   refine⟨a,ac,sa,sc,h1,?_⟩
   have h5:Own w0 w' (zd 3 a ac Rv.length (xe Rv)::([yv pt N ⟨buf,[],[],true⟩]++Rc++[zf d.q (yn p (d.g:Int) d.x d.th d.dr d.go ra 0 rc),zd 1 ra rc 0 (zr [])])++R):=by
    have:=((h2.pick 2 rfl).drop).pick 1 rfl
    simpa [List.append_assoc] using this
   have h6:=Own.XW (L:=[yv pt N ⟨buf,[],[],true⟩]++Rc++[zf d.q (yn p (d.g:Int) d.x d.th d.dr d.go ra 0 rc),zd 1 ra rc 0 (zr [])]) (Y:=R) h5
   have h7:=h4 w' ⟨buf,[],[],true⟩ (zf d.q (yn p (d.g:Int) d.x d.th d.dr d.go ra 0 rc)::zd 1 ra rc 0 (zr [])::zd 3 a ac Rv.length (xe Rv)::R) (by simpa [List.append_assoc] using h6)
   exact⟨D,ra,rc,by rw[hW1];exact h7.2,by rw[hW1];exact h7.1⟩))
  clear h h3 h4 hpt hha hf hc0 hsame hC e hi8 hI hW1;cases S with
  | cons x t =>
   rw[if_neg (by simp)]
   have hp1:(0:Int)<((t.length+1:Nat):Int):=by omega
   have hp2:0<t.length+1:=by omega
   simp only[List.length_cons] at HC;clear hgo hn;go_enter Tryz.func135,Tryz.ntmps135
   go_upto_region 0 with fail
   refine zi (fun wx=>∃nq,wx=World.drewN (w) nq) 14 8 (Array.replicate 22 false) (Qj 22 16383) (by kernel_rfl) (by kernel_rfl) ?_
   refine ze 0 14 _ (Qj 22 16383) 0 (by kernel_rfl) za (zE w) (by kernel_rfl) ?_
   simp only[QX,QV,QJ];(repeat((first|refine Qx (h:=?_)|refine Qw (h:=?_));simp only[Act.put,QW,QY,QZ]));refine zb ?_;refine zm ?_;refine yz (fun _=>True) 8 0 (Qj 22 4194303) ?_
   refine zB 14 _ (Qj 22 32767) 7 (by kernel_rfl) (fun K hK=>?_)
   have HKK:=Qq hK;clear hK;simp only[QQ,QJ];refine zc (by rfl) ?_;go_simp;refine(HC.out 1).mono ?_
   rintro r w3 ⟨a,ac,sa,sc,rfl,h3⟩;have H3:=Qq h3;clear h3;refine HKK.out _ _ (trivial) ?_
   clear HKK K;refine ze 15 7 _ (Qj 22 4194303) 0 (by kernel_rfl) za (trivial) (by kernel_rfl) ?_
   simp only[QX,QV,QQ,QJ];(repeat((first|refine Qx (h:=?_)|refine Qv (h:=?_));simp only[Act.put,QW,QY,QZ]));refine zb ?_;refine zm ?_;refine zD (by kernel_rfl) (NoPanic.normal ?_)
   go_wp2;exact⟨rfl,rfl,H3.out.less⟩
  | nil =>
   rw[if_pos rfl];have HGo:=Qq (hgo rfl rfl)
   have HN:=Qq hn;obtain⟨n,hnn⟩:∃n,n=Rv.length:=⟨_,rfl⟩
   have HNN:=Qq hnn;simp only[List.length_nil] at HC;rw[←hnn] at HC hn;clear hgo hnn;go_enter Tryz.func135,Tryz.ntmps135
   go_upto_region 0 with fail
   refine zi (fun wx=>∃nq,wx=World.drewN (w) nq) 14 8 (Array.replicate 22 false) (Qj 22 16383) (by kernel_rfl) (by kernel_rfl) ?_
   refine ze 0 14 _ (Qj 22 16383) 0 (by kernel_rfl) za (zE w) (by kernel_rfl) ?_
   simp only[QX,QV,QJ];(repeat((first|refine Qx (h:=?_)|refine Qw (h:=?_));simp only[Act.put,QW,QY,QZ]));refine zb ?_;refine zm ?_;refine yz (fun _=>True) 8 0 (Qj 22 4194303) ?_
   refine zB 14 _ (Qj 22 32767) 7 (by kernel_rfl) (fun K hK=>?_)
   have HKK:=Qq hK;clear hK;simp only[QQ,QJ];refine zc (by rfl) ?_;go_simp;refine(HC.out 1).mono ?_
   rintro r w3 ⟨a,ac,sa,sc,rfl,h3⟩;have H3:=Qq h3;clear h3;refine HKK.out _ _ (trivial) ?_
   clear HKK K;refine ze 15 7 _ (Qj 22 4194303) 0 (by kernel_rfl) za (trivial) (by kernel_rfl) ?_
   simp only[QX,QV,QQ,QJ];(repeat((first|refine Qx (h:=?_)|refine Qv (h:=?_));simp only[Act.put,QW,QY,QZ]));refine zb ?_;refine zm ?_;refine zD (by kernel_rfl) (NoPanic.normal ?_)
   go_wp2_with fail;go_loopw [35] (fun s wr=>∃j:Nat,j≤n∧s=.int .i64 j∧Hid (yH w0 wr p T d (goOnsM W1 [] (Rv.take j)).1 (goOnsM W1 [] (Rv.take j)).2 (zd 3 a ac n (xe Rv)::R))) (fun s _=>n-(intOf s).toNat)
   case atStart=>exact⟨0,by omega,rfl,H3⟩
   case round =>
    obtain⟨j,hj,rfl,hr⟩:=hrel;by_cases hlt:j<n
    ·have hli:(j:Int)<(n:Int):=by omega
     have hj2:j<Rv.length:=by rw[←HNN.out];exact hlt
     have hok:=HGo.out j hj2;have htk:Rv.take (j+1)=Rv.take j++[Rv[j]]:=by rw[List.take_succ_eq_append_getElem hj2]
     have hrl:(goOnsM W1 [] (Rv.take j)).2.length≤1000000:=by
      have:=V9 (Rv.take j) W1 []
      have:=HN.out
      simp at *
      omega
     have hst:goOnsM W1 [] (Rv.take (j+1))=goOnM (goOnsM W1 [] (Rv.take j)).1 (goOnsM W1 [] (Rv.take j)).2 Rv[j] false:=by rw[htk,Vs]
     have HST:=Qq hst;obtain⟨D,ra,rc,hfD,hr2⟩:=hr.out;obtain⟨cb,co,rfl,y0,y1,y2⟩:=zt.wt (hr2.yZ 12 rfl).cells j hj2
     generalize hx:Rv[j]=x at *
     obtain⟨x1,x2,x3⟩:=x;have ho:=(hr2.alloc [.int .i64 x1,.int .i64 x2,.int .i64 x3] 270 (b:=wr.heap.size) rfl)
     have z0:=(ho.zo 0 rfl 0 _ rfl).1
     have z1:=(ho.zo 0 rfl 1 _ rfl).1
     have z2:=(ho.zo 0 rfl 2 _ rfl).1
     have HGc:=Qq (T9 (show yH w0 _ p T d _ _ _ from⟨D,ra,rc,hfD,ho.drop⟩) (x1,x2,x3) false hok hrl)
     unfold wv at HGc;simp only at HGc y0 y1 y2
     clear hr hr2 ho hok htk hrl hst hfD hx hj2;go_wp2_with fail;refine HGc.out.mono ?_
     rintro r w5 ⟨rfl,h5⟩;rw[←HST.out] at h5;have H5:=Qq h5;clear h5 HST HGc;go_wp2;exact⟨⟨j+1,by omega,by go_num,H5⟩,by simp[intOf];omega⟩
    ·have hge:¬(j:Int)<(n:Int):=by omega
     have htk:Rv.take j=Rv:=List.take_of_length_le (by rw[←HNN.out];omega)
     rw[htk] at hr;clear htk;go_wp2;go_end0
     exact⟨rfl,hr.out.less⟩
section
variable {P:Program} {Q:Exit→Act→World→Prop} {S:World→Prop}
theorem xT {id:Nat}{a:Act}{w:World}{l:List Oper}(S:World→Prop)(fuel:Nat)(listed:Array Bool)(hm:P.follows .mixedOrders=true)(hB:(decide (l.length=fuel)&&(Array.replicate l.length false==listed))=true)
  (h:wpAnyH P .any l.toArray Q S fuel listed a w.drew):(Code.region id l.toArray true).wp P Q a w:=by
 simp only[Bool.and_eq_true,decide_eq_true_eq,beq_iff_eq] at hB;obtain⟨rfl,rfl⟩:=hB;exact wp_region_held hm (by simpa using h)
theorem Xp {K:Act→World→Prop}{fn:Func}{R:Ending→World→Prop}(d:Option Tmp)(v:Value)(c:_)(a:Act)(w:World):Exit.then K (bodyPost P fn R) (.panic c) (a.put d v) w→Exit.then K (bodyPost P fn R) (.panic c) a w:=by
 cases d<;>exact fun h=>h
end
end Go.Proofs.YtlkjheheofgdgaaGreat
open Go Go.RowKit
namespace Go.Proofs.YtlkjheheofgdgaaGreat
def Dq.ask (d:Dq)(v:Int)(g:Bool):Dq:={ d with dr:=v,go:=g }
theorem De {w0 w:World}{p:Nat}{T:List Value}{d:Dq}{W:Wd}{rd:List Int}{R:List zy}(h:yH w0 w p T d W rd R)(draw:Value)(h1:d.x.1≠21)(h2:d.x.1≠16) :
  Calls Tryz.prog 99 #[.pointer (some ⟨d.q,0,none⟩),draw] w fun r w'=>r=.returned (.tuple #[])∧w'=w:=by
 obtain⟨D,ra,rc,hf,h⟩:=h;have q2:=(h.zo 10 rfl 2 _ rfl).1
 have b1:(d.x.1==21)=false:=by simpa using h1
 have b2:(d.x.1==16)=false:=by simpa using h2
 generalize d.x.1=op at *;clear h hf h1 h2;go_enter Tryz.func99,Tryz.ntmps99
 go_wp2;go_end0
 exact⟨rfl,rfl⟩
theorem GC (ps:List Nat)(Ns:List Nat)(Cs:List Ch)(h:ps.length=Cs.length)(hN:Ns.length=Cs.length)(k:Zc):goesB (List.zip ps Ns) Cs k=goesN Ns Cs k:=by
 unfold goesB goesN;cases hC:Cs[k.2.1.toNat]? with
 | none=>rfl
 | some C =>
  have hi:=(List.getElem?_eq_some_iff.1 hC).1
  have hp:(List.zip ps Ns)[k.2.1.toNat]?=some (ps[k.2.1.toNat]'(by omega),Ns[k.2.1.toNat]'(by omega)):=Wo (List.getElem?_eq_getElem _) (List.getElem?_eq_getElem _)
  rw[hp,List.getElem?_eq_getElem (show k.2.1.toNat<Ns.length by omega)]
theorem TA (f g:Zc→Bool)(h:∀k,f k=g k):∀(l:List Zc) (i:Nat),enF f i l=enF g i l
 | [],i=>rfl
 | k::t,i=>by unfold enF;rw[h k,TA f g h t]
def Xq (w0:World)(p:Nat)(T:List Value)(W:Wd)(F:Nat)(fst cap:Array Value)(kind n:Int)(R:List zy)(Qd:Int→List zy→Prop)(Qp:Ending→List zy→Prop):Prop :=
 ∀(Z:List zy) (d:Dq) (w':World),yH w0 w' p T d W [] (Z++R)→Calls Tryz.prog F (fst++(#[.int .i64 kind,.int .i64 n]++cap)) w' fun r w'' =>
  (∃v R',r=.returned (.int .i64 v)∧Qd v R'∧yH w0 w'' p T d W [] (Z++R'))∨(∃chain R',r=.panicked chain∧Qp r R'∧yH w0 w'' p T d W [] (Z++R'))
def TS (w0:World)(p:Nat)(T:List Value)(d:Dq)(W:Wd)(Qd:Int→List zy→Prop)(Qp:Ending→List zy→Prop)(r:Ending)(w':World):Prop :=
 (∃v R',r=.returned (.tuple #[])∧Qd v R'∧yH w0 w' p T (d.ask (xE W d.x v).1 (xE W d.x v).2) W [] R')∨(∃chain R',r=.panicked chain∧Qp r R'∧yH w0 w' p T d W [] R')
theorem yH.Jt {w0 w:World}{p:Nat}{T:List Value}{d:Dq}{W:Wd}{rd:List Int}{R:List zy}(h:yH w0 w p T d W rd R)(v:Int):(∃x,w.cell? ⟨d.q,7,none⟩=some x)∧w.frozen? ⟨d.q,7,none⟩=false∧yH w0 (w.setCell ⟨d.q,7,none⟩ (.int .i64 v)) p T (d.ask v d.go) W rd R:=by
 obtain⟨D,ra,rc,hf,h⟩:=h;obtain⟨x0,x1⟩:=h.zo 10 rfl 7 _ rfl;exact⟨⟨_,x0⟩,x1,D,ra,rc,hf,h.setAt 10 rfl 7 (.int .i64 v)⟩
theorem yH.FF {w0 w:World}{p:Nat}{T:List Value}{d:Dq}{W:Wd}{rd:List Int}{R:List zy}(h:yH w0 w p T d W rd R)(v:Bool):(∃x,w.cell? ⟨d.q,8,none⟩=some x)∧w.frozen? ⟨d.q,8,none⟩=false∧yH w0 (w.setCell ⟨d.q,8,none⟩ (.bool v)) p T (d.ask d.dr v) W rd R:=by
 obtain⟨D,ra,rc,hf,h⟩:=h;obtain⟨x0,x1⟩:=h.zo 10 rfl 8 _ rfl;exact⟨⟨_,x0⟩,x1,D,ra,rc,hf,h.setAt 10 rfl 8 (.bool v)⟩
theorem JF {w0 w:World}{p:Nat}{T:List Value}{d:Dq}{W:Wd}{R:List zy}{F:Nat}{fst cap:Array Value}{Qd:Int→List zy→Prop}{Qp:Ending→List zy→Prop}(h:yH w0 w p T d W [] R)(h1:d.x.1=21)(hgo:d.go=false)(hB:1≤d.x.2.2.1∧d.x.2.2.1<9223372036854775808)
  (en:∀(args:Array Value) (w:World),(callFunc F args).run Tryz.prog w=.ok (.enter F args) w) (hd:Xq w0 p T W F fst cap 4 d.x.2.2.1 R Qd Qp) :
  Calls Tryz.prog 99 #[.pointer (some ⟨d.q,0,none⟩),.func (.func F) fst cap] w fun r w'=>TS w0 p T d W Qd Qp r w':=by
 have ea:∀v,xE W d.x v=(ZL d.x.2.2.1 v,false):=fun v=>by unfold xE;rw[if_pos h1]
 have HD:=Qq hd;have HB:=Qq (fun v w=>U0 d.x.2.2.1 v hB w)
 have H:=Qq h;have SB:∀(wx:World) (d':Dq) (W':Wd) (R':List zy),d'.q=d.q→d'.x=d.x→yH w0 wx p T d' W' [] R'→wx.cell? ⟨d.q,2,none⟩=some (.int .i64 21)∧wx.cell? ⟨d.q,4,none⟩=some (.int .i64 d.x.2.2.1):=by
  intro wx d' W' R' e1 e2 hh;obtain⟨D,ra,rc,hf,hh⟩:=hh;have y2:=(hh.zo 10 rfl 2 _ rfl).1
  have y4:=(hh.zo 10 rfl 4 _ rfl).1
  rw[e1,e2] at y2 y4;rw[h1] at y2;exact⟨y2,y4⟩
 have HSB:=Qq SB;obtain⟨q2,q4⟩:=SB w d W R rfl rfl h;have HEA:=Qq ea;have HGO:=Qq hgo;clear h h1 hd SB ea hgo;go_enter Tryz.func99,Tryz.ntmps99
 go_upto_region 2 with fail
 have o1:=H.out.step (zg w)
 refine xT (fun wx=>wx.cell? ⟨d.q,2,none⟩=some (.int .i64 21)∧wx.cell? ⟨d.q,4,none⟩=some (.int .i64 d.x.2.2.1)) 17 (Array.replicate 17 false) (by kernel_rfl) (by kernel_rfl) ?_
 refine zq 0 12 _ (Qj 17 4095) 5 (by kernel_rfl) (fun d _ _ _ _=>by cases d<;>exact fun h=>h) (HSB.out _ d W R rfl rfl o1) (by kernel_rfl) ?_
 simp only[QX,QV,QJ];(repeat((first|refine Qx (h:=?_)|refine Qv (h:=?_));simp only[Act.put,QW,QY,QZ]));refine zb ?_;refine zn 12 _ (Qj 17 8191) 4 (by kernel_rfl) (fun K hK=>?_)
 have HKK:=Qq hK;clear hK;simp only[QQ,QJ];refine zc (by rfl) ?_;go_simp;refine(HD.out [] d _ o1).mono ?_
 intro r w2 hp;rcases hp with⟨v,R',rfl,hq,h2⟩|⟨ch,R',rfl,hq,h2⟩
 ·have HQ:=Qq hq
  clear hq o1;refine HKK.out _ _ (HSB.out _ d W R' rfl rfl h2) ?_
  clear HKK K;refine zn 13 _ (Qj 17 16383) 3 (by kernel_rfl) (fun K hK=>?_)
  have HKK:=Qq hK;clear hK;simp only[QQ,QJ];refine zc (by rfl) ?_;go_simp;refine(HB.out _ _).mono ?_
  rintro r w3 ⟨rfl,rfl⟩;refine HKK.out _ _ (HSB.out _ d W R' rfl rfl h2) ?_
  clear HKK K;refine zq 14 2 _ (Qj 17 65535) 1 (by kernel_rfl) (fun d _ _ _ _=>by cases d<;>exact fun h=>h) (HSB.out _ d W R' rfl rfl h2) (by kernel_rfl) ?_
  simp only[QX,QV,QQ,QJ];(repeat((first|refine Qx (h:=?_)|refine Qv (h:=?_));simp only[Act.put,QW,QY,QZ]));refine zb ?_;obtain⟨⟨x7,y7⟩,z7,h3⟩:=h2.Jt (ZL d.x.2.2.1 v)
  have H3:=Qq h3;clear h3;refine zn 16 _ (Qj 17 131071) 0 (by kernel_rfl) (fun K hK=>?_)
  have HKK:=Qq hK;clear hK;simp only[QQ,QJ];refine zc (by rfl) ?_;go_simp;refine HKK.out _ _ (HSB.out _ (d.ask (ZL d.x.2.2.1 v) d.go) W R' rfl rfl H3.out) ?_
  clear HKK K;refine wpAnyH_done (by kernel_rfl) (?_) _
  clear h2 y7 z7;go_wp2;go_end0
  exact .inl ⟨v,R',rfl,HQ.out,by rw[HEA.out,←HGO.out];exact H3.out⟩
 ·exact⟨rfl,.inr ⟨ch,R',rfl,hq,h2⟩⟩
theorem Own.CY {w0 w:World}{A B C:zy}{L R:List zy}(h:Own w0 w (A::(L++(B::C::R)))):Own w0 w (L++(B::C::A::R)):=h.perm (by
 have e:List.Perm (A::((L++[B,C])++R)) ((L++[B,C])++(A::R)):=List.perm_middle.symm
 simpa using e)
structure FH (W:Wd) (x:zS):Prop where
 ix:R9 W x
 k:W.ks.length≤1000
 c:VT W.Cs.length (W.yA x)
theorem IC {w0 w:World}{p:Nat}{T:List Value}{d:Dq}{W:Wd}{R:List zy}{F:Nat}{fst cap:Array Value}{Qd:Int→List zy→Prop}{Qp:Ending→List zy→Prop}(h:yH w0 w p T d W [] R)(h1:d.x.1=16)(ok:FH W d.x)(Ls:List Int)(hLs:Ls=enF (goesN W.Ns W.Cs) 0 (W.yA d.x))
  (en:∀(args:Array Value) (w:World),(callFunc F args).run Tryz.prog w=.ok (.enter F args) w) (hd:1≤Ls.length→Ls.length≤1000→Xq w0 p T W F fst cap 3 (Ls.length:Int) R Qd Qp) :
  Calls Tryz.prog 99 #[.pointer (some ⟨d.q,0,none⟩),.func (.func F) fst cap] w fun r w'=>(Ls.length=0∧r=.returned (.tuple #[])∧yH w0 w' p T d W [] R)∨(1≤Ls.length∧TS w0 p T d W Qd Qp r w'):=by
 have ea:1≤Ls.length→∀v,xE W d.x v=(Ls.getD (ZL (Ls.length:Int) v).toNat 0,true):=fun hl v=>by
  unfold xE;rw[if_neg (by omega),if_pos h1,←hLs,if_neg (by omega)]
 obtain⟨D,ra,rc,hf,h⟩:=h;obtain⟨hx,hk,hco⟩:=ok;have SB:∀(wx:World) (Z:List zy),Own w0 wx (zh p W D T++(zf d.q (yn p (d.g:Int) d.x d.th d.dr d.go ra 0 rc)::Z)) →
   wx.cell? ⟨d.q,0,none⟩=some (.pointer (some ⟨p,0,none⟩))∧wx.cell? ⟨d.q,2,none⟩=some (.int .i64 d.x.1)∧wx.cell? ⟨d.q,3,none⟩=some (.int .i64 d.x.2.1)∧wx.cell? ⟨d.q,4,none⟩=some (.int .i64 d.x.2.2.1)∧wx.cell? ⟨d.q,5,none⟩=some (.int .i64 d.x.2.2.2)∧wx.cell? ⟨p,3,none⟩=some (.slice D.ha W.Cs.length D.hc):=by
  intro wx Z ho;have hc:=ho.zo 10 rfl;exact⟨(hc 0 _ rfl).1,(hc 2 _ rfl).1,(hc 3 _ rfl).1,(hc 4 _ rfl).1,(hc 5 _ rfl).1,(ho.zo 0 rfl 3 _ rfl).1⟩
 have HSB:=Qq SB;have HCa:=Qq (fun wx Y (ho:Own w0 wx (zh p W D T++Y))=>Z0 ho hf d.x hx hk)
 have HEn:Hid (∀(wx:World) (a:Option Addr) (c:Nat) (Z:zy) (Y:List zy),SD D W d.x a Z→Own w0 wx (Z::(zh p W D T++Y))→(W.yA d.x).length≤1000 →
   Calls Tryz.prog 115 #[.slice a (W.yA d.x).length c,.slice D.ha W.Cs.length D.hc] wx fun r w'=>∃a' c',r=.returned (.slice a' Ls.length c')∧Ls.length≤1000∧Own w0 w' (zd 1 a' c' Ls.length (zr Ls)::(zh p W D T++Y))):=Qq (fun wx a c Z Y hP ho hcl2=>by
  obtain⟨o1,-⟩:=SU ho.XW hf;have hpl:W.Cs.length=(List.zip D.ps W.Ns).length:=by rw[List.length_zip,hf.c,hf.n];omega
  have e:enF (goesB (List.zip D.ps W.Ns) W.Cs) 0 (W.yA d.x)=Ls:=by
   rw[hLs];exact TA _ _ (fun k=>GC _ _ _ (by rw[hf.c]) (by rw[hf.n]) k) _ _
  have hl2:Ls.length≤1000:=by rw[←e];exact Nat.le_trans (TR _ _ _) hcl2
  refine(SA o1 hpl (by rw[hpl]) a (W.yA d.x).length c (W.yA d.x) (hP.cells ho 2 0 rfl rfl) rfl (by omega) hco).mono (fun r w' hh=>?_)
  obtain⟨a',c',hr,hrow,hF,hb⟩:=hh;rw[e] at hr hrow;exact⟨a',c',hr,hl2,ho.drop.add hb (A:=zd 1 a' c' Ls.length (zr Ls)) (F:=yf a') ⟨rfl,hrow⟩ hF⟩)
 have H:=Qq h;have HF:=Qq hf;have HD:=Qq hd;have HEA:=Qq ea;obtain⟨NC,hNC⟩:∃NC,NC=W.Cs.length:=⟨_,rfl⟩
 rw[←hNC] at HSB HEn;obtain⟨-,q2,-⟩:=SB w _ h;have b1:(d.x.1==21)=false:=by rw[h1];rfl
 have b2:(d.x.1==16)=true:=by rw[h1];rfl
 clear h hf hd ea hx hk hco SB hNC h1 hLs;go_enter Tryz.func99,Tryz.ntmps99
 go_upto_region 4 with fail
 have o1:=H.out.step (zg w)
 clear b1 b2 q2;refine yd (fun wx=>wx.cell? ⟨d.q,0,none⟩=some (.pointer (some ⟨p,0,none⟩))∧wx.cell? ⟨d.q,2,none⟩=some (.int .i64 d.x.1)∧wx.cell? ⟨d.q,3,none⟩=some (.int .i64 d.x.2.1)∧wx.cell? ⟨d.q,4,none⟩=some (.int .i64 d.x.2.2.1)∧wx.cell? ⟨d.q,5,none⟩=some (.int .i64 d.x.2.2.2)∧wx.cell? ⟨p,3,none⟩=some (.slice D.ha NC D.hc)) 18 (Array.replicate 18 false) (by kernel_rfl) (by kernel_rfl) ?_
 refine zq 0 8 _ (Qj 18 255) 10 (by kernel_rfl) za (HSB.out _ _ o1) (by kernel_rfl) ?_
 simp only[QX,QV,QJ];(repeat((first|refine Qx (h:=?_)|refine Qv (h:=?_));simp only[Act.put,QW,QY,QZ]));refine zb ?_;refine zq 9 7 _ (Qj 18 65279) 3 (by kernel_rfl) za (HSB.out _ _ o1) (by kernel_rfl) ?_
 simp only[QX,QV,QQ,QJ];(repeat((first|refine Qx (h:=?_)|refine Qv (h:=?_));simp only[Act.put,QW,QY,QZ]));refine zb ?_;refine zn 8 _ (Qj 18 65535) 2 (by kernel_rfl) (fun K hK=>?_)
 have HKK:=Qq hK;clear hK;simp only[QQ,QJ];refine zc (by rfl) ?_;go_simp;refine(HCa.out _ _ o1).mono ?_
 rintro r w3 ⟨a,ca,Z,rfl,hP,hl,o3,-⟩
 refine HKK.out _ _ (HSB.out _ _ o3.drop) ?_
 clear HKK K;refine zn 16 _ (Qj 18 131071) 1 (by kernel_rfl) (fun K hK=>?_)
 have HKK:=Qq hK;clear hK;simp only[QQ,QJ];refine zc (by rfl) ?_;go_simp;refine(HEn.out _ _ _ _ _ hP o3 hl).mono ?_
 rintro r w4 ⟨a4,c4,rfl,hl4,o4⟩;refine HKK.out _ _ (HSB.out _ _ o4.drop) ?_
 clear HKK K;refine zq 17 1 _ (Qj 18 262143) 0 (by kernel_rfl) za (HSB.out _ _ o4.drop) (by kernel_rfl) ?_
 simp only[QX,QV,QQ,QJ];(repeat((first|refine Qx (h:=?_)|refine Qv (h:=?_));simp only[Act.put,QW,QY,QZ]));refine zb ?_;refine wpAnyH_done (by kernel_rfl) (NoPanic.normal ?_) _
 have H4:Hid (yH w0 w4 p T d W [] ([zd 1 a4 c4 Ls.length (zr Ls)]++R)):=Qq ⟨D,ra,rc,HF.out,o4.CY⟩
 clear o1 o3 o4 hP hl H HF HSB HCa HEn;by_cases hz:Ls.length=0
 ·have HZ:=Qq hz
  rw[hz];clear hz;go_wp2;go_end0
  exact .inl ⟨HZ.out,rfl,yH.less (A:=zd 1 a4 c4 Ls.length (zr Ls)) (R:=R) H4.out⟩
 ·have h0:1≤Ls.length:=by omega
  have HD2:=Qq (HD.out h0 hl4 [zd 1 a4 c4 Ls.length (zr Ls)] d _ H4.out)
  have HB:=Qq (fun v w=>U0 (Ls.length:Int) v (by omega) w)
  have HJ:Hid (∀v,∃j:Nat,ZL (Ls.length:Int) v=(j:Int)∧j<Ls.length):=Qq (fun v=>by
   refine⟨(ZL (Ls.length:Int) v).toNat,?_⟩
   unfold ZL;split<;>split<;>omega)
  have hp0:(0:Int)<(Ls.length:Int):=by omega
  have H0:=Qq h0;clear H4 HD h0 hz hl4;go_wp2_with fail;refine HD2.out.mono ?_
  intro r w5 hp;rcases hp with⟨v,R',rfl,hq,h5⟩|⟨ch,R',rfl,hq,h5⟩
  ·have HQ:=Qq hq
   obtain⟨j,hj1,hj2⟩:=HJ.out v;have HJ1:=Qq hj1;obtain⟨y7,z7,-⟩:=h5.Jt (Ls.getD j 0)
   obtain⟨y8,z8,-⟩:=h5.FF true;obtain⟨x7,y7⟩:=y7;obtain⟨x8,y8⟩:=y8;have hat:∃b off,a4=some ⟨b,off,none⟩∧w5.cell? ⟨b,off+j,none⟩=some (.int .i64 (Ls.getD j 0)):=by
    obtain⟨D5,ra5,rc5,-,h5⟩:=h5;obtain⟨F5,⟨-,hr5⟩,-⟩:=h5.fact 12 (A:=zd 1 a4 c4 Ls.length (zr Ls)) rfl
    exact hr5.cells j _ (by rw[xJ,List.getD_eq_getElem?_getD,List.getElem?_eq_getElem hj2];rfl)
   obtain⟨b4,off4,rfl,hc4⟩:=hat;have H5:Hid (yH w0 ((w5.setCell ⟨d.q,7,none⟩ (.int .i64 (Ls.getD j 0))).setCell ⟨d.q,8,none⟩ (.bool true)) p T (d.ask (Ls.getD j 0) true) W [] R') :=
    Qq (yH.less (A:=zd 1 (some ⟨b4,off4,none⟩) c4 Ls.length (zr Ls)) (R:=R') ((h5.Jt (Ls.getD j 0)).2.2.FF true).2.2)
   clear hq h5 HD2 hj1 HJ;go_wp2_with fail;refine(HB.out _ _).mono ?_
   rintro r w6 ⟨rfl,rfl⟩;rw[HJ1.out];clear HB;go_wp2;go_end0
   refine .inr ⟨H0.out,.inl ⟨v,R',rfl,HQ.out,?_⟩⟩
   have eg:Ls.getD j 0=Ls[j]:=by rw[List.getD_eq_getElem?_getD,List.getElem?_eq_getElem hj2];rfl
   have h6:=H5.out;rw[HEA.out H0.out v,HJ1.out,Int.toNat_natCast];rw[eg] at h6 ⊢;exact h6
  ·exact⟨rfl,.inr ⟨H0.out,.inr ⟨ch,R',rfl,hq,yH.less (A:=zd 1 a4 c4 Ls.length (zr Ls)) (R:=R') h5⟩⟩⟩
theorem Uf {P:Program}{w:World}{mty kt et:TypeId}{r c:Nat}{n:Int}{es:List MapEntry}{i:Nat}{v:Value}(hm:P.underlying mty=some (.map kt et))(hk:P.underlying kt=some (.int .i64))(hb:XJ w r es c)
  (hf:Instr.findNow (.int .i64) (.int .i64 n) es 0=some (some (i,v))):(Instr.lookup mty (.map (some r)) (.int .i64 n) true).run P w=.ok (.tuple #[v,.bool true]) w:=by
 have hc:∀b,(Instr.checkKey b 10000 kt (.int .i64 n)).run P w=.ok () w:=fun b=>MapKept.run_checkKey (k:=.int .i64 n) hk (by simp[MapKept.IsKey]) b 9999
 have hb':w.heap[r]?=some (.map es.toArray c):=hb
 simp[Instr.lookup,run_underlying hm,MapKept.run_getObj_map hb',hc,MapKept.run_findKey hk hf,Result.andThen]
theorem Vv {P:Program}{w:World}{mty kt et:TypeId}{r c:Nat}{n:Int}{es:List MapEntry}{z:Value}(hm:P.underlying mty=some (.map kt et))(hk:P.underlying kt=some (.int .i64))(hb:XJ w r es c)
  (hz:(zeroValue et).run P w=.ok z w) (hf:Instr.findNow (.int .i64) (.int .i64 n) es 0=some none):(Instr.lookup mty (.map (some r)) (.int .i64 n) true).run P w=.ok (.tuple #[z,.bool false]) w:=by
 have hc:∀b,(Instr.checkKey b 10000 kt (.int .i64 n)).run P w=.ok () w:=fun b=>MapKept.run_checkKey (k:=.int .i64 n) hk (by simp[MapKept.IsKey]) b 9999
 have hb':w.heap[r]?=some (.map es.toArray c):=hb
 simp[Instr.lookup,run_underlying hm,MapKept.run_getObj_map hb',hc,MapKept.run_findKey hk hf,hz,Result.andThen]
theorem St (args:Array Value)(w:World):(callFunc 147 args).run Tryz.prog w=.ok (.enter 147 args) w:=by kernel_rfl
theorem PL (args:Array Value)(w:World):(callFunc 149 args).run Tryz.prog w=.ok (.enter 149 args) w:=by kernel_rfl
theorem YX (w:World)(k:Nat):Below w.heap.size w (w.drewN k):=⟨rfl,rfl,rfl,Nat.le_refl _,fun _ _=>rfl⟩
theorem Sb (g o a n cap:Nat)(z:List Int)(b c:Int)(w:World)(ha:a<8)(h:zR w g n cap z)(ho:o+11≤n*11) :
  Calls Tryz.prog 147 #[.pointer (some ⟨g,o,none⟩),.agg #[.int .i64 1,.int .i64 a,.int .i64 b,.int .i64 c]] w fun e w'=>e=.returned (.tuple #[])∧zI [g] w w'∧zR w' g n cap (z.set (o+2+a) b):=by
 have a0:(0:Int)≤(a:Int):=by omega
 have a8:(a:Int)<8:=by omega
 obtain⟨x,-,h1,h2⟩:=h.cell (o+2+a) (by omega)
 have h1':∀q,(w.alloc q).cell? ⟨g,o+2+a,none⟩=some (.int .i64 x):=fun q=>zj h1 (below_alloc1 w q)
 have h2':∀q,(w.alloc q).frozen? ⟨g,o+2+a,none⟩=false:=fun q=>by rw[(below_alloc1 w q).frozen (p:=⟨g,o+2+a,none⟩) h.lt];exact h2
 have H:=Qq h;have hlt:=h.lt;have hw:w.heap.size≠g:=by omega
 clear h h1 h2;go_enter Tryz.func147,Tryz.ntmps147
 go_wp2_with fail;go_region
 go_wp2_with fail;go_end0
 refine⟨rfl,?_,?_⟩
 ·exact(((zI.refl _ _).setCell _ (.inl (by simp))).trans (zI.zK (F:=[]) (below_alloc1 _ _)) (by simp)).drew
 ·exact((H.out.set _ _).below (below_alloc1 _ _)).below (zg _)
theorem Zz (g o n cap fk i:Nat)(z z':List Int)(op a b c at0:Int)(w:World)(h:zR w g n cap z)(hz:z[o+1]?=some at0)(hat:0≤at0∧at0<1000)
  (hf:Instr.findNow (.int .i64) (.int .i64 op) TJ 0=some (some (i,.func (.func fk) #[] #[]))) (eg:∀args w,(callFunc fk args).run Tryz.prog w=.ok (.enter fk args) w)
  (hcal:∀w',zR w' g n cap (z.set (o+1) (at0+1))→Calls Tryz.prog fk #[.pointer (some ⟨g,o,none⟩),.agg #[.int .i64 op,.int .i64 a,.int .i64 b,.int .i64 c]] w' fun e w''=>e=.returned (.tuple #[])∧zI [g] w' w''∧zR w'' g n cap z') :
  Calls Tryz.prog 119 #[.pointer (some ⟨g,o,none⟩),.agg #[.int .i64 op,.int .i64 a,.int .i64 b,.int .i64 c]] w fun e w'=>e=.returned (.bool true)∧zI [g] w w'∧zR w' g n cap z':=by
 have HF:=Qq hf;have HC:=Qq hcal;clear hf hcal;have H:=Qq h;have hlt:=h.lt;have hw:w.heap.size≠g:=by omega
 have HZ:=Qq hz;clear h hz;go_enter Tryz.func119,Tryz.ntmps119
 go_wp2_with fail;have hx0:zF (w.alloc (Obj.cells #[Value.int IntKind.i64 op,Value.int IntKind.i64 a,Value.int IntKind.i64 b,Value.int IntKind.i64 c] 86)) w.heap.size [Value.int IntKind.i64 op,Value.int IntKind.i64 a,Value.int IntKind.i64 b,Value.int IntKind.i64 c]:=zF.mk w _ _ _ rfl
 have hB:=below_alloc1 w (Obj.cells #[Value.int IntKind.i64 op,Value.int IntKind.i64 a,Value.int IntKind.i64 b,Value.int IntKind.i64 c] 86)
 generalize w.alloc (Obj.cells #[Value.int IntKind.i64 op,Value.int IntKind.i64 a,Value.int IntKind.i64 b,Value.int IntKind.i64 c] 86)=W0 at *
 have hxl:=hx0.lt (by simp)
 obtain⟨bx,hbx⟩:∃bx,w.heap.size=bx:=⟨_,rfl⟩
 rw[hbx] at hx0 hB hxl hlt hw ⊢;have HS:=Qq hbx;clear hbx;have HX:=Qq hx0;have HB:=Qq hB;clear hx0 hB;have hld:∀w',Below W0.heap.size W0 w'→w'.cell? ⟨bx,0,none⟩=some (.int .i64 op):=fun w' hb=>((HX.out.below hb) 0 _ rfl).1
 have HL:=Qq hld;clear hld;go_region_held3 (fun w'=>w'.cell? ⟨bx,0,none⟩=some (.int .i64 op)∧Below W0.heap.size W0 w') (first|exact⟨HL.out _ (zg _),zg _⟩|assumption|(have hq:=zA (zg W0) hb;exact⟨HL.out _ hq,hq⟩)) ((go_at_call 129;refine(Ts _).mono ?_;rintro e w1 ⟨rfl,hm,hb⟩;have hl:(Instr.lookup 260 (.map (some W0.heap.size)) (.int .i64 op) true).run Tryz.prog w1=.ok (.tuple #[.func (.func fk) #[] #[],.bool true]) w1:=Uf (n:=op) Tryz.underlying260 Tryz.underlying84 hm HF.out))
 have bel:Below bx w w1:=HB.out.trans ((zA (zg W0) hb).mono (by omega))
 have c1:zI [g] w w1:=zI.zK (by rw[HS.out];exact bel)
 have h1:=H.out.yC (zI.zK (F:=[]) (by rw[HS.out];exact bel)) (by simp)
 obtain⟨y1,y2⟩:=h1.at HZ.out;have hx1:zF w1 bx _:=HX.out.below (zA (zg W0) hb)
 have x0:=(hx1 0 _ rfl).1
 have x1:=(hx1 1 _ rfl).1
 have x2:=(hx1 2 _ rfl).1
 have x3:=(hx1 3 _ rfl).1
 have hbg:(bx==g)=false:=by simp;exact hw
 have H1:=Qq h1;have C1:=Qq c1;clear hl hm hb bel c1 h1 hx1 HL HB HX;go_wp2_with fail;refine(HC.out _ (H1.out.set _ _)).mono ?_
 rintro e w2 ⟨rfl,k1,k2⟩;have K1:=Qq k1;have K2:=Qq k2;clear k1 k2;go_wp2_with fail;go_ret;exact⟨rfl,((C1.out.setCell _ (.inl (by simp))).trans K1.out (fun x hx=>.inl hx)),K2.out⟩
theorem Mh (w:World):(zeroValue 258).run Tryz.prog w=.ok .nilFunc w:=by kernel_rfl
end Go.Proofs.YtlkjheheofgdgaaGreat
