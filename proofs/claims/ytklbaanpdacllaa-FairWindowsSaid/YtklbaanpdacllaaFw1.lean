/-
  Texts put together: FwM, Base, Frame, IRow, Sep, WFw1, Nums, Get, Back, Ints, Bld, Recs, RecsIn, Pool, RowG, RowG2, RowG3, SegH, SegH2, SegP, WFw2, WFw3, WFw4, WSrc1, WRecQ, IRow2, SegZ, SdCfg, W24Win.
-/
import Derived.WalkKit
import Derived.ProofKit
import Derived.Below
import Derived.WalkSpells
import Derived.WalkLawsBesides
import Derived.IntWalk
import Derived.Lib.Hide
import Derived.LoopTactic
import Derived.Deep.RegionWith
import Derived.Deep.MidRow
import Derived.Laws.IdiomCopy
import Derived.Laws.NewBlocks
import Derived.Laws.AppendOwn
import Derived.Lib.ConvBytes
import Derived.Lib.AppendStr
import Derived.ArgAppend
import Derived.Test.YtklbaanpdacllaaChecked
import Derived.Maps.OwnSet
import Derived.Maps.RangeWalk
import Derived.WalkArith
import Derived.Lib.BitFns
import Derived.OpenShut
import Derived.Lib.Builder
import Derived.Deep.SlicePairs
import Derived.Lib.SmallJoins
import Derived.Deep.RegionHeld3
import Derived.Maps.OwnOps
import Derived.WideMake
import Derived.Deep.CutBlock
import Derived.Test.YtklbaanpdacllaaRows
import Derived.BigQuiet
import Derived.Deep.QuietTactic
import Derived.Deep.AppendLies
import Derived.Laws.StructEq
import Derived.WalkSmall
import Derived.Deep.DeepCutAuto
import Derived.RegionTactic
import Derived.Deep.RegionLaw
set_option maxRecDepth 100000
set_option maxHeartbeats 16000000
set_option linter.unusedSimpArgs false
set_option linter.unusedVariables false
open Go Go.RowKit
set_option linter.unusedVariables false
namespace Go.Proofs.Ytklbaanpdacllaa
def runW (m:Nat):List Nat → Nat × Nat → Nat × Nat
 | [],s=>s
 | y :: t,(now,most)=>let n:=if y = m then 0 else now + 1;runW m t (n,max most n)
def mostW (m:Nat) (l:List Nat):Nat:=(runW m l (0,0)).2
def nowW (m:Nat) (l:List Nat):Nat:=(runW m l (0,0)).1
theorem runW_app (m:Nat):∀ (l k:List Nat) (s:Nat × Nat),runW m (l ++ k) s = runW m k (runW m l s)
 | [],k,s=>rfl
 | y :: t,k,(a,b)=>by simp only [List.cons_append,runW];exact runW_app m t k _
theorem now_snoc (m y:Nat) (l:List Nat):nowW m (l ++ [y]) = if y = m then 0 else nowW m l + 1:=by
 unfold nowW;rw [runW_app];simp [runW]
theorem most_snoc (m y:Nat) (l:List Nat):mostW m (l ++ [y]) = max (mostW m l) (nowW m (l ++ [y])):=by
 rw [now_snoc];unfold mostW nowW;rw [runW_app];simp [runW]
theorem snoc_ind {P:List Nat → Prop} (h0:P []) (h1:∀ l y,P l → P (l ++ [y])) (l:List Nat):P l:=by
 rw [← List.reverse_reverse l]
 induction l.reverse with
 | nil=>exact h0
 | cons y t ih=>rw [List.reverse_cons];exact h1 _ _ ih
theorem now_le_most (m:Nat) (l:List Nat):nowW m l ≤ mostW m l:=by
 refine snoc_ind (P:=fun l=>nowW m l ≤ mostW m l) (by simp [nowW,mostW,runW]) (fun l y ih=>?_) l
 rw [most_snoc];exact Nat.le_max_right _ _
theorem now_le_len (m:Nat) (l:List Nat):nowW m l ≤ l.length:=by
 refine snoc_ind (P:=fun l=>nowW m l ≤ l.length) (by simp [nowW,runW]) (fun l y ih=>?_) l
 rw [now_snoc,List.length_append];split <;> simp <;> omega
def topW (f:Nat → Nat):Nat → Nat
 | 0=>0
 | n + 1=>max (topW f n) (f n)
theorem topW_le {f:Nat → Nat} {b:Nat}:∀ {n:Nat},(∀ i,i < n → f i ≤ b) → topW f n ≤ b
 | 0,_=>Nat.zero_le _
 | n + 1,h=>Nat.max_le.2 ⟨topW_le fun i hi=>h i (by omega),h n (by omega)⟩
theorem le_topW {f:Nat → Nat}:∀ {n i:Nat},i < n → f i ≤ topW f n
 | 0,_,h=>by omega
 | n + 1,i,h=>by
  unfold topW
  by_cases e:i = n
  ·subst e;exact Nat.le_max_right _ _
  ·exact Nat.le_trans (le_topW (by omega)) (Nat.le_max_left _ _)
theorem topW_congr {f g:Nat → Nat}:∀ {n:Nat},(∀ i,i < n → f i = g i) → topW f n = topW g n
 | 0,_=>rfl
 | n + 1,h=>by unfold topW;rw [topW_congr fun i hi=>h i (by omega),h n (by omega)]
def winW (l:List Nat) (m:Nat):Nat:=if (∀ x,x < m → x ∈ l) then topW (fun x=>mostW x l + 1) m else 0
def lastOf (x:Nat) (l:List Nat):Nat:=l.length - nowW x l
theorem last_snoc (x y:Nat) (l:List Nat):lastOf x (l ++ [y]) = if y = x then l.length + 1 else lastOf x l:=by
 unfold lastOf
 have:=now_le_len x l
 rw [now_snoc,List.length_append]
 split <;> simp only [List.length_singleton] <;> omega
theorem last_pos (x:Nat) (l:List Nat):0 < lastOf x l ↔ x ∈ l:=by
 refine snoc_ind (P:=fun l=>0 < lastOf x l ↔ x ∈ l) (by simp [lastOf]) (fun l y ih=>?_) l
 rw [last_snoc,List.mem_append,List.mem_singleton]
 split
 ·rename_i h;subst h;simp
 ·rename_i h;rw [ih];exact ⟨.inl,fun q=>q.elim id (fun e=>absurd e.symm h)⟩
theorem last_le (x:Nat) (l:List Nat):lastOf x l ≤ l.length:=Nat.sub_le _ _
def gapW (m:Nat):List Nat → Nat × List Nat → Nat
 | [],(w,_)=>w
 | y :: t,(w,p)=>gapW m t (if y < m then max w (p.length + 1 - lastOf y p) else w,p ++ [y])
def gapOf (m:Nat) (l:List Nat):Nat:=gapW m l (0,[])
theorem gapW_app (m:Nat):∀ (l k:List Nat) (w:Nat) (p:List Nat),gapW m (l ++ k) (w,p) = gapW m k (gapW m l (w,p),p ++ l)
 | [],k,w,p=>by simp [gapW]
 | y :: t,k,w,p=>by simp only [List.cons_append,gapW];rw [gapW_app m t k];simp
theorem gap_snoc (m y:Nat) (l:List Nat):gapOf m (l ++ [y]) = if y < m then max (gapOf m l) (l.length + 1 - lastOf y l) else gapOf m l:=by
 unfold gapOf;rw [gapW_app];simp [gapW]
theorem gap_le (m:Nat) (l:List Nat):gapOf m l ≤ l.length:=by
 refine snoc_ind (P:=fun l=>gapOf m l ≤ l.length) (by simp [gapOf,gapW]) (fun l y ih=>?_) l
 rw [gap_snoc,List.length_append]
 split <;> simp <;> omega
theorem gap_top (m:Nat) (l:List Nat):max (gapOf m l) (topW (fun x=>l.length + 1 - lastOf x l) m) = topW (fun x=>mostW x l + 1) m:=by
 have hn:∀ (x:Nat) (l:List Nat),l.length + 1 - lastOf x l = nowW x l + 1:=fun x l=>by unfold lastOf;have:=now_le_len x l;omega
 rw [topW_congr (g:=fun x=>nowW x l + 1) fun i _=>hn i l]
 refine snoc_ind (P:=fun l=>max (gapOf m l) (topW (fun x=>nowW x l + 1) m) = topW (fun x=>mostW x l + 1) m) ?_ (fun l y ih=>?_) l
 ·have:gapOf m [] = 0:=rfl
  rw [this,Nat.zero_max];exact topW_congr fun i _=>by simp [nowW,mostW,runW]
 have e1:∀ x,mostW x (l ++ [y]) + 1 = max (mostW x l + 1) (nowW x (l ++ [y]) + 1):=fun x=>by rw [most_snoc];omega
 have hA:gapOf m (l ++ [y]) ≤ topW (fun x=>mostW x (l ++ [y]) + 1) m:=by
  rw [gap_snoc]
  have h0:topW (fun x=>mostW x l + 1) m ≤ topW (fun x=>mostW x (l ++ [y]) + 1) m:=topW_le fun i hi=>Nat.le_trans (by rw [e1];exact Nat.le_max_left _ _) (le_topW (f:=fun x=>mostW x (l ++ [y]) + 1) hi)
  split
  ·rename_i hy
   refine Nat.max_le.2 ⟨by omega,?_⟩
   rw [hn]
   have:=le_topW (f:=fun x=>nowW x l + 1) hy
   omega
  ·omega
 have hB:topW (fun x=>nowW x (l ++ [y]) + 1) m ≤ topW (fun x=>mostW x (l ++ [y]) + 1) m:=topW_le fun i hi=>Nat.le_trans (by rw [e1];exact Nat.le_max_right _ _) (le_topW (f:=fun x=>mostW x (l ++ [y]) + 1) hi)
 apply Nat.le_antisymm (Nat.max_le.2 ⟨hA,hB⟩)
 refine topW_le fun i hi=>?_
 rw [e1]
 have g1:=le_topW (f:=fun x=>nowW x (l ++ [y]) + 1) hi
 refine Nat.max_le.2 ⟨?_,Nat.le_trans g1 (Nat.le_max_right _ _)⟩
 have g2:=le_topW (f:=fun x=>mostW x l + 1) hi
 rw [← ih] at g2
 refine Nat.le_trans g2 (Nat.max_le.2 ⟨?_,topW_le fun j hj=>?_⟩)
 ·rw [gap_snoc]
  split
  ·exact Nat.le_trans (Nat.le_max_left _ _) (Nat.le_max_left _ _)
  ·exact Nat.le_max_left _ _
 ·have g3:=le_topW (f:=fun x=>nowW x (l ++ [y]) + 1) hj
  rw [now_snoc] at g3
  by_cases e:y = j
  ·subst e
   rw [gap_snoc,if_pos hj,hn]
   exact Nat.le_trans (Nat.le_max_right _ _) (Nat.le_max_left _ _)
  ·rw [if_neg e] at g3
   refine Nat.le_trans ?_ (Nat.le_max_right _ _)
   show _ ≤ topW (fun x=>nowW x (l ++ [y]) + 1) m
   have:=le_topW (f:=fun x=>nowW x (l ++ [y]) + 1) hj
   rw [now_snoc,if_neg e] at this
   omega
theorem most_more (m:Nat) (l k:List Nat):mostW m l ≤ mostW m (l ++ k) ∧ mostW m (l ++ k) ≤ mostW m l + k.length:=by
 refine snoc_ind (P:=fun k=>mostW m l ≤ mostW m (l ++ k) ∧ mostW m (l ++ k) ≤ mostW m l + k.length) (by simp) (fun k y ih=>?_) k
 have h1:=most_snoc m y (l ++ k)
 have h2:=now_snoc m y (l ++ k)
 have h3:=now_le_most m (l ++ k)
 rw [← List.append_assoc,List.length_append]
 rw [h1,h2]
 simp only [List.length_singleton]
 split <;> omega

theorem below_on {a b c:World} (h:Below a.heap.size a b) (k:Below b.heap.size b c):Below a.heap.size a c:=h.trans (k.mono h.size)


def Blk (w:World) (b:Nat) (cs:List Value):Prop:=∀ j v,cs[j]? = some v → w.cell? ⟨b,j,none⟩ = some v ∧ w.frozen? ⟨b,j,none⟩ = false
theorem Blk.at {w:World} {b:Nat} {cs:List Value} (h:Blk w b cs) (j:Nat) (hj:j < cs.length):w.cell? ⟨b,j,none⟩ = some cs[j] ∧ w.frozen? ⟨b,j,none⟩ = false:=h j _ (List.getElem?_eq_getElem hj)
theorem Blk.new (w:World) (cs:Array Value) (t:TypeId):Blk (w.alloc (.cells cs t)) w.heap.size cs.toList:=fun j v hj=>by
 refine ⟨?_,World.frozen?_alloc_at _ _ _ _ rfl⟩
 rw [World.cell?_alloc_at _ _ _ _ rfl];simpa using hj
theorem Blk.mk (w:World) (l:List Value) (t:TypeId) (b:Nat) (hb:b = w.heap.size):Blk (w.alloc (.cells l.toArray t)) b l:=by subst hb;exact Blk.new w l.toArray t
theorem Blk.set {w:World} {b:Nat} {cs:List Value} (h:Blk w b cs) (k:Nat) (v:Value):Blk (w.setCell ⟨b,k,none⟩ v) b (cs.set k v):=fun j u hj=>by
 by_cases e:j = k
 ·subst e
  have hlt:j < cs.length:=by
   have:=(List.getElem?_eq_some_iff.1 hj).1
   simpa using this
  rw [List.getElem?_set_self hlt] at hj
  obtain rfl:v = u:=by simpa using hj
  obtain ⟨h1,h2⟩:=h.at j hlt
  exact ⟨World.cell?_setCell_same' _ _ _ (by rw [h1];rfl),by rw [World.frozen?_setCell];exact h2⟩
 ·rw [List.getElem?_set_ne (by omega)] at hj
  obtain ⟨h1,h2⟩:=h j u hj
  exact ⟨by rw [World.cell?_setCell_other _ _ _ _ (by simp;first | done | omega)];exact h1,by rw [World.frozen?_setCell];exact h2⟩
theorem results_cell {P:Program} {fn:Func} {p:Tmp} {ty:TypeId} {v:Value} {w w':World} (h:fn.results = #[.cell p ty]) (tmps:Array Value) (a:Addr) (hp:tmps.getD p undef = .pointer (some a))
  (hl:(loadVar ty a).run P w = .ok v w'):(results fn tmps).run P w = .ok v w':=by
 have hp':tmps[p]?.getD undef = .pointer (some a):=by simpa using hp
 simp [results,h,hp',asAddr,hl]
theorem below_alloc1 (w:World) (o:Obj):Below w.heap.size w (w.alloc o):=(Below.refl _ _).alloc (Nat.le_refl _) _
theorem below_drew1 (w:World):Below w.heap.size w w.drew:=(Below.refl _ _).drew

structure Chg (F:List Nat) (w w':World):Prop where
 os:w'.os = w.os
 tape:w'.tape = w.tape
 output:w'.output = w.output
 size:w.heap.size ≤ w'.heap.size
 block:∀ k,k < w.heap.size → k ∉ F → w'.heap[k]? = w.heap[k]?
theorem Chg.refl (F:List Nat) (w:World):Chg F w w:=⟨rfl,rfl,rfl,Nat.le_refl _,fun _ _ _=>rfl⟩
theorem Chg.mono {F G:List Nat} {a b:World} (h:Chg F a b) (hs:∀ x ∈ F,x ∈ G):Chg G a b:=⟨h.os,h.tape,h.output,h.size,fun k hk hn=>h.block k hk (fun hF=>hn (hs k hF))⟩
theorem Chg.of_below {F:List Nat} {w w':World} (h:Below w.heap.size w w'):Chg F w w':=⟨h.os,h.tape,h.output,h.size,fun k hk _=>h.block k hk⟩
theorem Chg.to_below {F:List Nat} {w w':World} {B:Nat} (h:Chg F w w') (hF:∀ x ∈ F,B ≤ x) (hB:B ≤ w.heap.size):Below B w w' :=
 ⟨h.os,h.tape,h.output,h.size,fun k hk=>h.block k (by omega) (fun hx=>by have:=hF k hx;omega)⟩
theorem Chg.below {F:List Nat} {w0 w w':World} (h0:Below w0.heap.size w0 w) (h:Chg F w w') (hF:∀ x ∈ F,w0.heap.size ≤ x):Below w0.heap.size w0 w':=h0.trans (h.to_below hF h0.size)
theorem Chg.setCell {F:List Nat} {w w':World} (h:Chg F w w') {b k:Nat} (v:Value) (hb:b ∈ F ∨ w.heap.size ≤ b):Chg F w (w'.setCell ⟨b,k,none⟩ v) :=
 ⟨h.os,h.tape,h.output,by rw [World.size_setCell];exact h.size,fun x hx hn=>by
  rw [Below.heap_setCell _ _ _ _ (fun e=>by
   subst e
   rcases hb with hb | hb
   ·exact hn hb
   ·omega)]
  exact h.block x hx hn⟩
theorem Chg.setCells {F:List Nat} {w w':World} (h:Chg F w w') {b:Nat}:∀ (vs:List Value) (o:Nat),(b ∈ F ∨ w.heap.size ≤ b) → Chg F w (w'.setCells b o vs):=fun vs=>by
 induction vs generalizing w' with
 | nil=>intro o _;exact h
 | cons v vs ih=>intro o hb;rw [World.setCells];exact ih (h.setCell v hb) (o + 1) hb
theorem cell_of_heap {w w':World} {b k:Nat} (h:w'.heap[b]? = w.heap[b]?):w'.cell? ⟨b,k,none⟩ = w.cell? ⟨b,k,none⟩:=World.cell?_of_block (a:=⟨b,k,none⟩) h
theorem Blk.chg {F:List Nat} {w w':World} {b:Nat} {cs:List Value} (h:Blk w b cs) (c:Chg F w w') (hb:b ∉ F):Blk w' b cs:=fun j v hj=>by
 obtain ⟨h1,h2⟩:=h j v hj
 have hlt:=World.block_lt_of_cell? w _ h1
 have hk:=c.block b hlt hb
 exact ⟨by rw [cell_of_heap hk];exact h1,by rw [World.frozen?_of_block (a:=⟨b,j,none⟩) hk];exact h2⟩
theorem grownBy_chg {w w':World} {row:Option Nat} (h:w.grownBy w' row):Chg row.toList w w':=⟨h.os,h.tape,h.output,h.size,fun k hk hn=>h.block k hk (fun e=>hn (by rw [← e];simp))⟩
def blk (a:Option Addr):List Nat:=(a.map (·.block)).toList
structure Asr where
 at_:World → List Nat → Prop
 lt:∀ {w F},at_ w F → ∀ x ∈ F,x < w.heap.size
 chg:∀ {w w' F G},at_ w F → Chg G w w' → (∀ x ∈ F,x ∉ G) → at_ w' F
def Sep (w:World):List Asr → List Nat → Prop
 | [],F=>F = []
 | A :: As,F=>∃ F1 F2,F = F1 ++ F2 ∧ A.at_ w F1 ∧ (∀ x ∈ F1,x ∉ F2) ∧ Sep w As F2
theorem Sep.lt {w:World}:∀ {As:List Asr} {F:List Nat},Sep w As F → ∀ x ∈ F,x < w.heap.size
 | [],F,h,x,hx=>by unfold Sep at h;subst h;simp at hx
 | A :: As,F,h,x,hx=>by
  obtain ⟨F1,F2,rfl,h1,h2,h3⟩:=h
  rcases List.mem_append.1 hx with hx | hx
  ·exact A.lt h1 x hx
  ·exact h3.lt x hx
theorem Sep.chg {w w':World} {G:List Nat} (c:Chg G w w'):∀ {As:List Asr} {F:List Nat},Sep w As F → (∀ x ∈ F,x ∉ G) → Sep w' As F
 | [],F,h,_=>h
 | A :: As,F,h,hd=>by
  obtain ⟨F1,F2,rfl,h1,h2,h3⟩:=h
  exact ⟨F1,F2,rfl,A.chg h1 c (fun x hx=>hd x (by simp [hx])),h2,Sep.chg c h3 (fun x hx=>hd x (by simp [hx]))⟩
theorem Sep.perm {w:World} {As Bs:List Asr} (hp:As.Perm Bs):∀ {F:List Nat},Sep w As F → ∃ F',Sep w Bs F' ∧ ∀ x,x ∈ F' ↔ x ∈ F:=by
 induction hp with
 | nil=>exact fun h=>⟨_,h,fun _=>Iff.rfl⟩
 | cons A _ ih =>
  intro F h
  obtain ⟨F1,F2,rfl,h1,h2,h3⟩:=h
  obtain ⟨F',h4,h5⟩:=ih h3
  exact ⟨F1 ++ F',⟨F1,F',rfl,h1,fun x hx hc=>h2 x hx ((h5 x).1 hc),h4⟩,fun x=>by simp [h5]⟩
 | swap A B l =>
  intro F h
  obtain ⟨F1,_,rfl,h1,h2,F2,F3,rfl,h3,h4,h5⟩:=h
  exact ⟨F2 ++ (F1 ++ F3),⟨F2,_,rfl,h3,fun x hx hc=>by
   rcases List.mem_append.1 hc with h | h
   ·exact h2 x h (by simp [hx])
   ·exact h4 x hx h,F1,F3,rfl,h1,fun x hx hc=>h2 x hx (by simp [hc]),h5⟩,fun x=>by simp;constructor <;> (intro h;rcases h with h | h | h <;> simp [h])⟩
 | trans _ _ i1 i2 =>
  intro F h
  obtain ⟨F1,h1,e1⟩:=i1 h
  obtain ⟨F2,h2,e2⟩:=i2 h1
  exact ⟨F2,h2,fun x=>(e2 x).trans (e1 x)⟩
theorem Sep.split {w:World}:∀ {As Bs:List Asr} {F:List Nat},Sep w (As ++ Bs) F → ∃ F1 F2,F = F1 ++ F2 ∧ Sep w As F1 ∧ (∀ x ∈ F1,x ∉ F2) ∧ Sep w Bs F2
 | [],Bs,F,h=>⟨[],F,rfl,rfl,fun x hx=>by simp at hx,h⟩
 | A :: As,Bs,F,h=>by
  obtain ⟨F1,F2,rfl,h1,h2,h3⟩:=h
  obtain ⟨F3,F4,rfl,h4,h5,h6⟩:=h3.split
  exact ⟨F1 ++ F3,F4,by simp,⟨F1,F3,rfl,h1,fun x hx hc=>h2 x hx (by simp [hc]),h4⟩,fun x hx hc=>by
   rcases List.mem_append.1 hx with h | h
   ·exact h2 x h (by simp [hc])
   ·exact h5 x h hc,h6⟩
theorem Sep.app {w:World}:∀ {As Bs:List Asr} {F G:List Nat},Sep w As F → Sep w Bs G → (∀ x ∈ F,x ∉ G) → Sep w (As ++ Bs) (F ++ G)
 | [],Bs,F,G,h,k,_=>by unfold Sep at h;subst h;exact k
 | A :: As,Bs,F,G,h,k,d=>by
  obtain ⟨F1,F2,rfl,h1,h2,h3⟩:=h
  exact ⟨F1,F2 ++ G,by simp,h1,fun x hx hc=>by
   rcases List.mem_append.1 hc with h | h
   ·exact h2 x hx h
   ·exact d x (by simp [hx]) h,h3.app k (fun x hx=>d x (by simp [hx]))⟩
def Own (w0 w:World) (As:List Asr):Prop:=Below w0.heap.size w0 w ∧ ∃ F,Sep w As F ∧ ∀ x ∈ F,w0.heap.size ≤ x
theorem Own.bel {w0 w:World} {As:List Asr} (h:Own w0 w As):Below w0.heap.size w0 w:=h.1
theorem Own.nil {w0 w:World} (h:Below w0.heap.size w0 w):Own w0 w []:=⟨h,[],rfl,fun x hx=>by simp at hx⟩
theorem Own.perm {w0 w:World} {As Bs:List Asr} (h:Own w0 w As) (hp:As.Perm Bs):Own w0 w Bs:=by
 obtain ⟨h1,F,h2,h3⟩:=h
 obtain ⟨F',h4,h5⟩:=h2.perm hp
 exact ⟨h1,F',h4,fun x hx=>h3 x ((h5 x).1 hx)⟩
theorem Own.head {w0 w:World} {A:Asr} {As:List Asr} (h:Own w0 w (A :: As)):∃ F,A.at_ w F ∧ ∀ x ∈ F,w0.heap.size ≤ x:=by
 obtain ⟨h1,F,⟨F1,F2,rfl,h2,h3,h4⟩,h5⟩:=h
 exact ⟨F1,h2,fun x hx=>h5 x (by simp [hx])⟩
theorem Own.step {w0 w w':World} {As:List Asr} (h:Own w0 w As) (hb:Below w.heap.size w w'):Own w0 w' As:=by
 obtain ⟨h1,F,h2,h3⟩:=h
 exact ⟨below_on h1 hb,F,h2.chg (Chg.of_below (F:=[]) hb) (fun _ _=>by simp),h3⟩
theorem Own.add {w0 w w':World} {As:List Asr} (h:Own w0 w As) (hb:Below w.heap.size w w') {A:Asr} {F:List Nat} (hA:A.at_ w' F) (hF:∀ x ∈ F,w.heap.size ≤ x):Own w0 w' (A :: As):=by
 obtain ⟨h1,F2,h2,h3⟩:=h
 exact ⟨below_on h1 hb,F ++ F2,⟨F,F2,rfl,hA,fun x hx hc=>by have:=h2.lt x hc;have:=hF x hx;omega,h2.chg (Chg.of_below (F:=[]) hb) (fun _ _=>by simp)⟩,fun x hx=>by
  rcases List.mem_append.1 hx with h | h
  ·exact Nat.le_trans h1.size (hF x h)
  ·exact h3 x h⟩
theorem Own.turn {w0 w w':World} {As As' R:List Asr} (h:Own w0 w (As ++ R)) (hc:∀ F,Sep w As F → ∃ F',Sep w' As' F' ∧ Chg F w w' ∧ ∀ x ∈ F',x ∈ F ∨ w.heap.size ≤ x):Own w0 w' (As' ++ R):=by
 obtain ⟨h1,F,h2,h3⟩:=h
 obtain ⟨F1,F2,rfl,h4,h5,h6⟩:=h2.split
 obtain ⟨F',k1,k2,k3⟩:=hc F1 h4
 have hs:=h1.size
 refine ⟨Chg.below h1 k2 (fun x hx=>h3 x (by simp [hx])),F' ++ F2,k1.app (h6.chg k2 (fun x hx hc=>h5 x hc hx)) (fun x hx hc=>?_),fun x hx=>?_⟩
 ·rcases k3 x hx with h | h
  ·exact h5 x h hc
  ·have:=h6.lt x hc;omega
 ·rcases List.mem_append.1 hx with h | h
  ·rcases k3 x h with h | h
   ·exact h3 x (by simp [h])
   ·omega
  ·exact h3 x (by simp [h])
theorem sep_one {w:World} {A:Asr} {F:List Nat}:Sep w [A] F ↔ A.at_ w F:=by
 constructor
 ·rintro ⟨F1,F2,rfl,h1,h2,h3⟩
  unfold Sep at h3;subst h3;simpa using h1
 ·intro h;exact ⟨F,[],by simp,h,fun _ _=>by simp,rfl⟩
theorem pick_perm {α:Type}:∀ (l:List α) (i:Nat) (a:α),l[i]? = some a → l.Perm (a :: l.eraseIdx i)
 | [],i,a,h=>by simp at h
 | x :: l,0,a,h=>by simp at h;subst h;simp
 | x :: l,i + 1,a,h=>by
  simp only [List.getElem?_cons_succ] at h
  exact ((pick_perm l i a h).cons x).trans (.swap a x _)
theorem Own.pick {w0 w:World} {As:List Asr} (h:Own w0 w As) (i:Nat) {A:Asr} (hi:As[i]? = some A):Own w0 w (A :: As.eraseIdx i):=h.perm (pick_perm As i A hi)
theorem Own.fact {w0 w:World} {As:List Asr} (h:Own w0 w As) (i:Nat) {A:Asr} (hi:As[i]? = some A):∃ F,A.at_ w F ∧ ∀ x ∈ F,w0.heap.size ≤ x:=(h.pick i hi).head
def CelA (b:Nat) (cs:List Value):Asr where
 at_ w F:=F = [b] ∧ b < w.heap.size ∧ Blk w b cs
 lt:=by rintro w F ⟨rfl,h1,h2⟩ x hx;simp at hx;subst hx;exact h1
 chg:=by
  rintro w w' F G ⟨rfl,h1,h2⟩ c hd
  exact ⟨rfl,Nat.lt_of_lt_of_le h1 c.size,h2.chg c (hd b (by simp))⟩
theorem Own.cel {w0 w:World} {As:List Asr} (h:Own w0 w As) (i:Nat) {b:Nat} {cs:List Value} (hi:As[i]? = some (CelA b cs)):Blk w b cs:=by
 obtain ⟨F,⟨_,_,h1⟩,_⟩:=h.fact i hi;exact h1
theorem Own.alloc {w0 w:World} {As:List Asr} (h:Own w0 w As) (l:List Value) (t:TypeId) {b:Nat} (hb:b = w.heap.size):Own w0 (w.alloc (.cells l.toArray t)) (CelA b l :: As) :=
 h.add (below_alloc1 _ _) (F:=[b]) ⟨rfl,by subst hb;simp,Blk.mk w l t b hb⟩ (fun x hx=>by simp at hx;omega)
theorem Own.set {w0 w:World} {As:List Asr} {b:Nat} {cs:List Value} (h:Own w0 w (CelA b cs :: As)) (k:Nat) (v:Value):Own w0 (w.setCell ⟨b,k,none⟩ v) (CelA b (cs.set k v) :: As):=by
 refine Own.turn (As:=[CelA b cs]) (As':=[CelA b (cs.set k v)]) (R:=As) h (fun F hF=>?_)
 obtain ⟨rfl,h1,h2⟩:=sep_one.1 hF
 exact ⟨[b],sep_one.2 ⟨rfl,by rw [World.size_setCell];exact h1,h2.set k v⟩,(Chg.refl _ _).setCell _ (.inl (by simp)),fun x hx=>.inl hx⟩
theorem Own.weak {w0 w:World} {A A':Asr} {As:List Asr} (h:Own w0 w (A :: As)) (hA:∀ F,A.at_ w F → A'.at_ w F):Own w0 w (A' :: As) :=
 Own.turn (As:=[A]) (As':=[A']) (R:=As) h (fun F hF=>⟨F,sep_one.2 (hA F (sep_one.1 hF)),Chg.refl _ _,fun x hx=>.inl hx⟩)
end Go.Proofs.Ytklbaanpdacllaa
open Go Go.RowKit Go.Maps
set_option linter.unusedVariables false
namespace Go.Proofs.Ytklbaanpdacllaa
theorem lawU9:Keyed Try.prog 28:=int_keyed Try.underlying28
theorem zeroI9 (w:World):(zeroValue 3).run Try.prog w = .ok (.int .i64 0) w:=by kernel_rfl
theorem nodup_full (n:Nat) (l:List Nat) (hn:l.Nodup) (h:∀ x ∈ l,x < n):l.length ≤ n:=by
 have:=hn.length_le_of_subset (l₂:=List.range n) (fun x hx=>List.mem_range.2 (h x hx))
 rwa [List.length_range] at this
def LstD (D:DataW Unit) (m:Nat) (ps:List Nat):Prop :=
 (∀ x:Nat,x < m → x ∈ ps → has D (.int .u64 (x:Int)) = true ∧ D.atKey (.int .u64 (x:Int)) (.lit (.int .i64 0)) = .lit (.int .i64 (lastOf x ps:Int))) ∧ (∀ v:Int,(¬ ∃ x:Nat,v = x ∧ x < m ∧ x ∈ ps) → has D (.int .u64 v) = false) ∧ ∃ ks:List Nat,Maps.size D = ks.length ∧ ks.Nodup ∧ ∀ x,x ∈ ks ↔ x < m ∧ x ∈ ps
def Lst (w:World) (r m:Nat) (ps:List Nat):Prop :=
 ∃ D,w.ownsMap (H:=Unit) Try.prog 28 (plainElem Try.prog 3) r ps.length D ∧ LstD D m ps
def LstP (r m:Nat) (ps:List Nat):Asr where
 at_ w F:=F = [r] ∧ Lst w r m ps
 lt:=by rintro w F ⟨rfl,D,h,_⟩ x hx;simp at hx;subst hx;exact h.lt
 chg:=by
  rintro w w' F G ⟨rfl,D,h,h2⟩ c hd
  have hl:=h.lt
  obtain ⟨es,clock,hb,hF,hs,hD⟩:=h
  exact ⟨rfl,D,⟨es,clock,by rw [c.block r hl (hd r (by simp))];exact hb,hF,hs,hD⟩,h2⟩
theorem wfU9 {v:Nat} (h:v < 18446744073709551616):(Lit.int .u64 (v:Int)).wf = true:=WalkArith.wf_u64 (by omega)
theorem keyU9 {v:Nat} (h:v < 18446744073709551616):keyOf Try.prog 28 (.int .u64 (v:Int)) = some (.int .u64 (v:Int)):=keyOf_int_mk Try.underlying28 (wfU9 h)
theorem Own.lstNew {w0 w:World} {R:List Asr} (m:Nat) (h:Own w0 w R) {r:Nat} (hr:r = w.heap.size):Own w0 (w.alloc (.map #[] 0)) (LstP r m [] :: R):=by
 subst hr
 exact h.add (below_alloc1 w _) (A:=LstP w.heap.size m []) (F:=[w.heap.size]) ⟨rfl,_,World.ownsMap_made _ _ _ _,fun v _ hv=>by simp at hv,fun v _=>rfl,[],rfl,List.nodup_nil,fun v=>by simp⟩ (fun x hx=>by simp at hx;omega)
theorem Own.lstGet {w0 w:World} {r m:Nat} {ps:List Nat} {R:List Asr} (h:Own w0 w (LstP r m ps :: R)) (y:Nat) (hy:y < m) (hu:y < 18446744073709551616) :
  (Instr.lookup 43 (.map (some r)) (.int .u64 (y:Int)) false).run Try.prog w = .ok (.int .i64 (lastOf y ps:Int)) w:=by
 obtain ⟨F,⟨_,D,hD,h1,h2,h3⟩,_⟩:=h.fact 0 rfl
 obtain ⟨c,hrun,hat,hwc⟩:=hD.lookup_int lawU9 Try.underlying43 Try.underlying3 (zeroI9 _) (keyU9 hu)
 by_cases hm:y ∈ ps
 ·rw [(h1 y hy hm).2] at hat
  have hc:c = (lastOf y ps:Int):=by simpa using hat.symm
  rw [hc] at hrun
  exact hrun
 ·rw [atKey_of_not_has (h2 y (by rintro ⟨x,e,_,hx⟩;have e2:y = x:=(by omega);rw [e2] at hm;exact hm hx))] at hat
  have hc:c = 0:=by simpa using hat.symm
  rw [hc] at hrun
  have h0:lastOf y ps = 0:=by have:=mt (last_pos y ps).1 hm;omega
  rw [h0]
  exact hrun
theorem Own.lstPut {w0 w:World} {r m:Nat} {ps:List Nat} {R:List Asr} (h:Own w0 w (LstP r m ps :: R)) (y:Nat) (hy:y < m) (hu:y < 18446744073709551616) (hl:ps.length ≤ 100000) :
  ∃ w',(Instr.mapUpdate 43 (.map (some r)) (.int .u64 (y:Int)) (.int .i64 ((ps.length:Int) + 1))).run Try.prog w = .ok () w' ∧ Own w0 w' (LstP r m (ps ++ [y]) :: R):=by
 obtain ⟨F,⟨_,D,hD,h1,h2,ks,h3,h4,h5⟩,_⟩:=h.fact 0 rfl
 obtain ⟨w',hrun,hD',hg⟩:=hD.update lawU9 Try.underlying43 (by unfold maxLen;omega) (keyU9 hu) (plainElem_int Try.underlying3 (a:=(ps.length:Int) + 1) (WalkArith.wf_i64 (by omega)))
 refine ⟨w',hrun,Own.turn (As:=[LstP r m ps]) (As':=[LstP r m (ps ++ [y])]) (R:=R) h (fun F hF=>?_)⟩
 obtain ⟨rfl,_⟩:=sep_one.1 hF
 have hkl:WideAt.IsKeyLit (Lit.int .u64 (y:Int)):=by first | trivial | simp [WideAt.IsKeyLit]
 have hne:∀ {u:Nat},u ≠ y → (Lit.int .u64 (u:Int)) ≠ .int .u64 (y:Int):=fun e hc=>e (by injection hc with _ hc;omega)
 refine ⟨[r],sep_one.2 ⟨rfl,D.put (.int .u64 (y:Int)) (.lit (.int .i64 ((ps.length:Int) + 1))),by rw [List.length_append];exact hD',fun u hum hu=>?_,fun v hv=>?_,if y ∈ ps then ks else ks ++ [y],?_,?_,fun u=>?_⟩,(grownBy_chg hg).mono (by simp),fun x hx=>.inl hx⟩
 ·by_cases e:u = y
  ·subst e
   refine ⟨has_put_same hD.isMap hkl _,?_⟩
   rw [atKey_put_same hD.isMap hkl _ _,last_snoc,if_pos rfl]
   simp
  ·have hu':u ∈ ps:=by rcases List.mem_append.1 hu with h | h;exact h;exact absurd (List.mem_singleton.1 h) e
   rw [has_put_other (hne e),atKey_put_other (hne e),last_snoc,if_neg (fun q=>e q.symm)]
   exact h1 u hum hu'
 ·have e:v ≠ (y:Int):=fun hc=>hv ⟨y,hc,hy,by simp⟩
  have hne:(Lit.int .u64 v) ≠ .int .u64 (y:Int):=fun hc=>e (by injection hc)
  rw [has_put_other hne]
  exact h2 v (fun ⟨x,a,b,c⟩=>hv ⟨x,a,b,List.mem_append.2 (.inl c)⟩)
 ·rw [size_put (hD.tidy lawU9)]
  by_cases hm:y ∈ ps
  ·rw [(h1 y hy hm).1,if_pos hm,h3];rfl
  ·rw [h2 y (by rintro ⟨x,e,_,hx⟩;have e2:y = x:=(by omega);rw [e2] at hm;exact hm hx),if_neg hm,h3,List.length_append];rfl
 ·by_cases hm:y ∈ ps
  ·rw [if_pos hm];exact h4
  ·rw [if_neg hm]
   exact List.nodup_append.2 ⟨h4,by simp,fun a ha b hb e=>by
    rw [List.mem_singleton.1 hb] at e
    rw [e] at ha
    exact hm ((h5 y).1 ha).2⟩
 ·by_cases hm:y ∈ ps
  ·rw [if_pos hm,h5,List.mem_append]
   exact ⟨fun ⟨a,b⟩=>⟨a,.inl b⟩,fun ⟨a,h⟩=>⟨a,h.elim id (fun h=>by rw [List.mem_singleton.1 h];exact hm)⟩⟩
  ·rw [if_neg hm,List.mem_append,List.mem_append,h5,List.mem_singleton]
   exact ⟨fun h=>h.elim (fun ⟨a,b⟩=>⟨a,.inl b⟩) (fun e=>by rw [e];exact ⟨hy,.inr rfl⟩),fun ⟨a,h⟩=>h.elim (fun b=>.inl ⟨a,b⟩) .inr⟩
theorem Own.lstSkip {w0 w:World} {r m:Nat} {ps:List Nat} {R:List Asr} (h:Own w0 w (LstP r m ps :: R)) (y:Nat) (hy:¬ y < m):Own w0 w (LstP r m (ps ++ [y]) :: R):=by
 refine h.weak (fun F hF=>?_)
 obtain ⟨e,D,⟨es,clock,hb,hF,hs,hD⟩,h1,h2,ks,h3,h4,h5⟩:=hF
 have hin:∀ u,u < m → (u ∈ ps ++ [y] ↔ u ∈ ps):=fun u hu=>by
  rw [List.mem_append,List.mem_singleton]
  exact ⟨fun h=>h.elim id (fun e=>by omega),.inl⟩
 refine ⟨e,D,⟨es,clock,hb,hF,by rw [List.length_append];omega,hD⟩,fun u hu hp=>?_,fun v hv=>h2 v (fun ⟨x,a,b,c⟩=>hv ⟨x,a,b,(hin x b).2 c⟩),ks,h3,h4,fun x=>?_⟩
 ·rw [last_snoc,if_neg (by omega)]
  exact h1 u hu ((hin u hu).1 hp)
 ·rw [h5]
  exact ⟨fun ⟨a,b⟩=>⟨a,(hin x a).2 b⟩,fun ⟨a,b⟩=>⟨a,(hin x a).1 b⟩⟩
theorem Own.lstLen {w0 w:World} {r m:Nat} {ps:List Nat} {R:List Asr} (h:Own w0 w (LstP r m ps :: R)) (ty:TypeId) :
  ∃ n:Nat,(Builtin.len_ #[43] ty #[.map (some r)]).run Try.prog w = .ok (.int .i64 (n:Int)) w ∧ n ≤ m ∧ (n < m ↔ ¬ ∀ x,x < m → x ∈ ps):=by
 obtain ⟨F,⟨_,D,hD,h1,h2,ks,h3,h4,h5⟩,_⟩:=h.fact 0 rfl
 have hle:ks.length ≤ m:=nodup_full m ks h4 fun x hx=>((h5 x).1 hx).1
 refine ⟨ks.length,by rw [hD.len Try.underlying43 ty,h3],hle,fun hlt hall=>?_,fun hn=>?_⟩
 ·have:=List.nodup_range.length_le_of_subset (l₁:=List.range m) (l₂:=ks) (fun x hx=>(h5 x).2 ⟨List.mem_range.1 hx,hall x (List.mem_range.1 hx)⟩)
  rw [List.length_range] at this
  omega
 ·rcases Nat.lt_or_ge ks.length m with hlt | hge
  ·exact hlt
  ·exfalso
   apply hn
   intro x hx
   rcases Classical.em (x ∈ ks) with hk | hk
   ·exact ((h5 x).1 hk).2
   ·have:=nodup_full m (x :: ks) (List.nodup_cons.2 ⟨hk,h4⟩) (fun z hz=>by
     rcases List.mem_cons.1 hz with h | h
     ·omega
     ·exact ((h5 z).1 h).1)
    simp at this
    omega
end Go.Proofs.Ytklbaanpdacllaa


open Go Go.RowKit
set_option linter.unusedVariables false
namespace Go.Proofs.Ytklbaanpdacllaa
def room:Nat → Nat
 | 0=>0
 | f + 1=>if f = 0 then 2 else 128 * room f



end Go.Proofs.Ytklbaanpdacllaa


open Go Go.RowKit
set_option linter.unusedVariables false
namespace Go.Proofs.Ytklbaanpdacllaa
abbrev Rec:=Int × Nat
def Rec.ok (r:Rec):Prop:=1 ≤ r.1 ∧ r.1 ≤ 4 ∧ r.2 < 4611686018427387904
instance (r:Rec):Decidable (Rec.ok r):=by unfold Rec.ok;infer_instance


def recCells (l:List Rec):List Value:=l.flatMap fun r=>[Value.int .i64 r.1,Value.int .u64 (r.2:Int)]
theorem recCells_at:∀ (l:List Rec) (i:Nat) (h:i < l.length),(recCells l)[i * 2]? = some (.int .i64 l[i].1) ∧ (recCells l)[i * 2 + 1]? = some (.int .u64 (l[i].2:Int))
 | r :: l,0,_=>⟨rfl,rfl⟩
 | r :: l,i + 1,h=>by
  have:=recCells_at l i (by simpa using h)
  have e:recCells (r :: l) = .int .i64 r.1 :: .int .u64 (r.2:Int) :: recCells l:=rfl
  rw [e,show (i + 1) * 2 = i * 2 + 2 by omega]
  exact this
theorem recCells_snoc (l:List Rec) (k:Nat) (h:k < l.length):recCells (l.take (k + 1)) = recCells (l.take k) ++ [.int .i64 l[k].1,.int .u64 (l[k].2:Int)]:=by
 rw [List.take_succ_eq_append_getElem h];simp only [recCells,List.flatMap_append,List.flatMap_cons,List.flatMap_nil,List.append_nil]
theorem recCells_app (l:List Rec) (r:Rec):recCells (l ++ [r]) = recCells l ++ [.int .i64 r.1,.int .u64 (r.2:Int)]:=by
 simp only [recCells,List.flatMap_append,List.flatMap_cons,List.flatMap_nil,List.append_nil]

def RecsAt (w:World) (a:Option Addr) (l:List Rec):Prop :=
 ∀ i (h:i < l.length),∃ b off,a = some ⟨b,off,none⟩ ∧ w.cell? ⟨b,off + i * 2,none⟩ = some (.int .i64 l[i].1) ∧ w.cell? ⟨b,off + i * 2 + 1,none⟩ = some (.int .u64 (l[i].2:Int))
theorem RecsAt.nil (w:World) (a:Option Addr):RecsAt w a []:=fun i h=>by simp at h
theorem RecsAt.below {w w':World} {a:Option Addr} {l:List Rec} (h:RecsAt w a l) (hb:Below w.heap.size w w'):RecsAt w' a l:=fun i hi=>by
 obtain ⟨b,off,h1,h2,h3⟩:=h i hi
 have hlt:b < w.heap.size:=World.block_lt_of_cell? w _ h2
 exact ⟨b,off,h1,by rw [hb.cell (p:=⟨b,off + i * 2,none⟩) hlt];exact h2,by rw [hb.cell (p:=⟨b,off + i * 2 + 1,none⟩) hlt];exact h3⟩
theorem RecsAt.of_own {w:World} {base:Nat} {e:TypeId} {v:Value} {l:List Rec} (h:w.ownsRow base e 2 v l.length (recCells l)) :
  ∃ a cap,v = .slice a l.length cap ∧ l.length ≤ cap ∧ cap ≤ maxLen ∧ RecsAt w a l:=by
 rcases h.2 with ⟨rfl,h0⟩ | ⟨g,cap,cur,rfl,_,hg,hn,hm,hs,hx⟩
 ·have:l = []:=List.length_eq_zero_iff.1 h0
  subst this
  exact ⟨none,0,rfl,Nat.le_refl _,Nat.zero_le _,RecsAt.nil _ _⟩
 ·refine ⟨_,cap,rfl,hn,hm,fun i hi=>⟨g,0,rfl,?_,?_⟩⟩
  ·have:=(recCells_at l i hi).1
   rw [← hx,List.getElem?_take_of_lt (by omega)] at this
   simp [World.cell?,hg];simpa using this
  ·have:=(recCells_at l i hi).2
   rw [← hx,List.getElem?_take_of_lt (by omega)] at this
   simp [World.cell?,hg];simpa using this


end Go.Proofs.Ytklbaanpdacllaa
open Go Go.RowKit Go.Deep
set_option linter.unusedVariables false
namespace Go.Proofs.Ytklbaanpdacllaa
def IsRecs (w:World) (a:Option Addr) (len cap:Nat) (l:List Rec):Prop :=
 len = l.length ∧ len ≤ cap ∧ cap ≤ maxLen ∧ RecsAt w a l ∧ ∀ r ∈ l,r.2 < 18446744073709551616
theorem isRecs_of {H:Type} {enc:TypeId × Value → H} {P:Program} {w:World} {base:Nat} {spare:Nat → Bool} {held:Bool} {t e:TypeId} {f0 f1:Field} {fuel:Nat} {a:Option Addr} {len cap:Nat} {x:DataW H × List MemPlace}
  (ht:P.underlying t = some (.slice e)) (he:P.underlying e = some (.struct #[f0,f1])) (ce:P.cellsOf e = 2) (o0:f0.offset = 0) (o1:f1.offset = 1) (c0:P.cellsOf f0.type = 1) (c1:P.cellsOf f1.type = 1)
  (t0:P.underlying f0.type = some (.int .i64)) (t1:P.underlying f1.type = some (.int .u64))
  (h:DataW.trod enc P w base spare held fuel t [.slice a len cap] = some x):∃ l,IsRecs w a len cap l:=by
 rcases open_slice_pairs ht he ce o0 o1 c0 c1 h with ⟨hcs,_⟩ | ⟨b,l',c',m,n,V0,V1,D0,D1,P0,P1,hcs,_,hl,hm,hmm,_,hi⟩
 ·simp at hcs
  obtain ⟨rfl,rfl,rfl⟩:=hcs
  exact ⟨[],rfl,Nat.le_refl _,Nat.zero_le _,RecsAt.nil _ _,fun r hr=>by simp at hr⟩
 ·simp at hcs
  obtain ⟨rfl,rfl,rfl⟩:=hcs
  have hlm:len ≤ m:=by rw [hmm];split <;> omega
  have hv:∀ i,i < len → ∃ r:Rec,w.cell? (b.add (i * 2)) = some (.int .i64 r.1) ∧ w.cell? (b.add (i * 2 + 1)) = some (.int .u64 (r.2:Int)) ∧ r.2 < 18446744073709551616:=fun i hil=>by
   obtain ⟨g0,g1,g2,g3⟩:=hi i (by omega)
   obtain ⟨z0,e0,_,w0⟩:=DataW.trod_int t0 g2
   obtain ⟨z1,e1,_,w1⟩:=DataW.trod_int t1 g3
   have b1:=bounds_u64 w1
   refine ⟨(z0,z1.toNat),?_,?_,?_⟩
   ·rw [g0];simpa using e0
   ·rw [g1];simp only;rw [Int.toNat_of_nonneg b1.1];simpa using e1
   ·simp only;omega
  have:∃ l:List Rec,l.length = len ∧ ∀ i (h:i < l.length),w.cell? (b.add (i * 2)) = some (.int .i64 l[i].1) ∧ w.cell? (b.add (i * 2 + 1)) = some (.int .u64 (l[i].2:Int)) ∧ l[i].2 < 18446744073709551616:=by
   have hv':∀ i:Fin len,∃ r:Rec,w.cell? (b.add (i.val * 2)) = some (.int .i64 r.1) ∧ w.cell? (b.add (i.val * 2 + 1)) = some (.int .u64 (r.2:Int)) ∧ r.2 < 18446744073709551616:=fun i=>hv i.val i.isLt
   refine ⟨List.ofFn fun i:Fin len=>Classical.choose (hv' i),by simp,fun i h=>?_⟩
   simp at h
   simp only [List.getElem_ofFn]
   exact Classical.choose_spec (hv' ⟨i,h⟩)
  obtain ⟨l,hll,hat⟩:=this
  refine ⟨l,hll.symm,hl,hm,fun i h=>?_,fun r hr=>?_⟩
  ·obtain ⟨g0,g1,_⟩:=hat i h
   obtain ⟨bb,off,spot⟩:=b
   obtain rfl:spot = none:=by have:=(hat 0 (by omega)).1;simpa [Addr.add] using World.cell?_spot this
   rw [Go.WideShapes.add_plain] at g0 g1
   exact ⟨bb,off,rfl,g0,by rw [Nat.add_assoc];exact g1⟩
  ·obtain ⟨i,h,rfl⟩:=List.mem_iff_getElem.1 hr
   exact (hat i h).2.2
end Go.Proofs.Ytklbaanpdacllaa

open Go Go.RowKit
set_option linter.unusedVariables false
namespace Go.Proofs.Ytklbaanpdacllaa
def RowG (s:Nat) (w:World) (a:Option Addr) (cap n:Nat) (cs:List Value):Prop :=
 cs.length = n * s ∧ n ≤ cap ∧ cap ≤ maxLen ∧ ((a = none ∧ cap = 0) ∨ ∃ b off,a = some ⟨b,off,none⟩ ∧ b < w.heap.size ∧
  (∀ j,j < cap * s → (w.cell? ⟨b,off + j,none⟩).isSome = true ∧ w.frozen? ⟨b,off + j,none⟩ = false) ∧ ∀ j v,cs[j]? = some v → w.cell? ⟨b,off + j,none⟩ = some v)
def CellsAt (w:World) (a:Option Addr) (cs:List Value):Prop:=∀ j v,cs[j]? = some v → ∃ b off,a = some ⟨b,off,none⟩ ∧ w.cell? ⟨b,off + j,none⟩ = some v
theorem RowG.cells {s:Nat} {w:World} {a:Option Addr} {cap n:Nat} {cs:List Value} (h:RowG s w a cap n cs):CellsAt w a cs:=fun j v hj=>by
 obtain ⟨h1,h2,h3,h4⟩:=h
 rcases h4 with ⟨rfl,h0⟩ | ⟨b,off,rfl,hb,h5,h6⟩
 ·have hl:=(List.getElem?_eq_some_iff.1 hj).1
  have:n = 0:=by omega
  subst this;simp at h1;subst h1;simp at hl
 ·exact ⟨b,off,rfl,h6 j v hj⟩
theorem RowG.lt {s:Nat} {w:World} {a:Option Addr} {cap n:Nat} {cs:List Value} (h:RowG s w a cap n cs):∀ x ∈ blk a,x < w.heap.size:=by
 rcases h.2.2.2 with ⟨rfl,_⟩ | ⟨b,off,rfl,hb,_⟩
 ·intro x hx;simp [blk] at hx
 ·intro x hx;simp [blk] at hx;subst hx;exact hb
theorem RowG.chg {s:Nat} {F:List Nat} {w w':World} {a:Option Addr} {cap n:Nat} {cs:List Value} (h:RowG s w a cap n cs) (c:Chg F w w') (hd:∀ x ∈ blk a,x ∉ F):RowG s w' a cap n cs:=by
 refine ⟨h.1,h.2.1,h.2.2.1,?_⟩
 rcases h.2.2.2 with h0 | ⟨b,off,rfl,hb,h1,h2⟩
 ·exact .inl h0
 ·have hk:=c.block b hb (hd b (by simp [blk]))
  refine .inr ⟨b,off,rfl,Nat.lt_of_lt_of_le hb c.size,fun j hj=>?_,fun j v hj=>?_⟩
  ·rw [cell_of_heap hk,World.frozen?_of_block (a:=⟨b,off + j,none⟩) hk];exact h1 j hj
  ·rw [cell_of_heap hk];exact h2 j v hj
theorem RowG.zero {s:Nat} {w:World} {b:Nat} (hb:b < w.heap.size):RowG s w (some ⟨b,0,none⟩) 0 0 []:=⟨by simp,by simp,by simp,.inr ⟨b,0,rfl,hb,fun j hj=>by simp at hj,fun j v hj=>by simp at hj⟩⟩
theorem CellsAt.new (w:World) (cs:List Value) (t:TypeId) {b:Nat} (hb:b = w.heap.size):CellsAt (w.alloc (.cells cs.toArray t)) (some ⟨b,0,none⟩) cs:=fun j v hj=>by
 subst hb
 exact ⟨_,0,rfl,by rw [Nat.zero_add];exact (Blk.new w cs.toArray t j v hj).1⟩
theorem RowG.of_own {s:Nat} {w:World} {base n:Nat} {e:TypeId} {v:Value} {cs:List Value} (h:w.ownsRow base e s v n cs):∃ a cap,v = .slice a n cap ∧ RowG s w a cap n cs ∧ ∀ x ∈ blk a,base ≤ x:=by
 have hx:=h.1
 rcases h.2 with ⟨rfl,h0⟩ | ⟨g,cap,cur,rfl,hb,hg,h1,h2,h3,h4⟩
 ·exact ⟨none,0,by rw [h0],⟨hx,by omega,by simp,.inl ⟨rfl,rfl⟩⟩,fun x hx=>by simp [blk] at hx⟩
 ·have hlt:g < w.heap.size:=(Array.getElem?_eq_some_iff.1 hg).1
  refine ⟨_,cap,rfl,⟨hx,h1,h2,.inr ⟨g,0,rfl,hlt,fun j hj=>⟨?_,?_⟩,fun j v hj=>?_⟩⟩,fun x hx=>by simp [blk] at hx;subst hx;exact hb⟩
  ·rw [Nat.zero_add,cell_of_row w g j cur e (0,0) hg,Array.getElem?_eq_getElem (by omega)];rfl
  ·rw [Nat.zero_add];exact frozen_of_row w g j cur e hg
  ·rw [Nat.zero_add,cell_of_row w g j cur e (0,0) hg]
   rw [← h4,List.getElem?_take] at hj
   split at hj
   ·simpa using hj
   ·cases hj
theorem append_rowG {P:Program} {w:World} {s by_:Nat} (t ty e:TypeId) (i:TypeInfo) (z:Value) (ht:P.underlying t = some (.slice e)) (hi:P.info? e = some i) (hz:i.zero = some z) (hsize:i.size = s) (hby:i.bytes = by_) (hzs:z.cells.size = s) (hs0:0 < s) (hb0:by_ ≤ 1000)
  {a b:Option Addr} {cap c n m:Nat} {cs ds:List Value} (ha:RowG s w a cap n cs) (hb:CellsAt w b ds) (hd:ds.length = m * s) (hone:∀ u ∈ ds,u.oneCell' = true) (h47:n + m ≤ 1000000000) :
  ∃ a' cap' w',(Builtin.append_ #[t,t] ty #[.slice a n cap,.slice b m c]).run P w = .ok (.slice a' (n + m) cap') w' ∧ RowG s w' a' cap' (n + m) (cs ++ ds) ∧ Chg (blk a) w w' ∧ ∀ x ∈ blk a',x ∈ blk a ∨ w.heap.size ≤ x:=by
 have hbyt:(n + m) * by_ ≤ 140737488355328:=Nat.le_trans (Nat.mul_le_mul h47 hb0) (by omega)
 cases b with
 | none =>
  have hdn:ds = []:=by
   cases ds with
   | nil=>rfl
   | cons x t=>obtain ⟨_,_,h1,_⟩:=hb 0 x rfl;cases h1
  subst hdn
  have:m = 0:=by
   have h0:m * s = 0:=by rw [← hd];rfl
   rcases Nat.mul_eq_zero.1 h0 with h | h
   ·exact h
   ·omega
  subst this
  have hl:=ha.2.1
  refine ⟨a,cap,w,?_,by simpa using ha,Chg.refl _ _,fun x hx=>.inl hx⟩
  cases a <;> simp [Builtin.append_,run_underlying ht,sizeOf,typeInfo,hi,Builtin.lenOf,Builtin.firstCells,storeCells,hl]
 | some ad =>
  by_cases hm0:m = 0
  ·subst hm0
   have hdn:ds = []:=List.length_eq_zero_iff.1 (by rw [hd];simp)
   subst hdn
   have hl:=ha.2.1
   refine ⟨a,cap,w,?_,by simpa using ha,Chg.refl _ _,fun x hx=>.inl hx⟩
   cases a <;> simp [Builtin.append_,run_underlying ht,sizeOf,typeInfo,hi,Builtin.lenOf,Builtin.firstCells,storeCells,loadCells,loadCellsFrom,hl]
  have hnews:∀ j u,ds[j]? = some u → w.cell? (ad.add j) = some u:=fun j u hj=>by
   obtain ⟨b,off,h1,h2⟩:=hb j u hj
   cases h1
   rw [Addr.add_lit,h2]
  rcases ha.2.2.2 with ⟨rfl,h0⟩ | ⟨b,off,rfl,hbl,h1,h2⟩
  ·obtain rfl:n = 0:=by have:=ha.2.1;omega
   have hl0:cs = []:=List.length_eq_zero_iff.1 (by have:=ha.1;omega)
   subst hl0
   subst h0
   obtain ⟨v',w',hr,r1,r2,_⟩:=run_append_own (P:=P) w w.heap.size t ty e i z s by_ ht hi hz hsize hby hzs hs0 (.slice none 0 0) 0 [] (World.ownsRow_nil _ _ _ _) ad m c ds hd hnews hone (by unfold maxLen;omega) hbyt (Nat.le_refl _)
   simp only [List.nil_append] at r1
   obtain ⟨a',cap',rfl,hrow,hbase⟩:=RowG.of_own r1
   exact ⟨a',cap',w',hr,by simpa using hrow,grownBy_chg r2 |>.mono (by simp [Value.ownBlock,blk]),fun x hx=>.inr (hbase x hx)⟩
  ·by_cases hroom:n + m ≤ cap
   ·have hcap:(n + m) * s ≤ cap * s:=Nat.mul_le_mul_right _ hroom
    rw [Nat.add_mul] at hcap
    have hr:=run_append_room_cells (P:=P) w t ty e i ht hi b off n cap ad m c ds (by rw [hd,hsize]) hnews hone hroom
     (fun j hj=>by rw [hsize];have:=(h1 (n * s + j) (by omega)).1;rwa [← Nat.add_assoc] at this)
     (fun j hj=>by rw [hsize];have:=(h1 (n * s + j) (by omega)).2;rwa [← Nat.add_assoc] at this)
    rw [hsize] at hr
    have hin:=World.cell?_setCells_in b ds (off + n * s) w (fun j hj=>by have:=(h1 (n * s + j) (by omega)).1;rwa [← Nat.add_assoc] at this)
    have hcl:=ha.1
    refine ⟨_,cap,_,hr,⟨by rw [List.length_append,hd,hcl,Nat.add_mul],hroom,ha.2.2.1,.inr ⟨b,off,rfl,Nat.lt_of_lt_of_le hbl ((Chg.refl [b] w).setCells ds (off + n * s) (.inl (by simp))).size,fun j hj=>⟨?_,?_⟩,fun j v hj=>?_⟩⟩,(Chg.refl _ _).setCells _ _ (.inl (by simp [blk])),fun x hx=>.inl hx⟩
    ·by_cases hj2:n * s ≤ j ∧ j < n * s + m * s
     ·have:=hin (j - n * s) (by omega)
      rw [show off + n * s + (j - n * s) = off + j by omega] at this
      rw [this];rfl
     ·rw [World.cell?_setCells_out b ds _ w _ (fun _ _=>by simp only;omega)]
      exact (h1 j hj).1
    ·rw [World.frozen?_setCells];exact (h1 j hj).2
    ·by_cases hj2:j < n * s
     ·rw [List.getElem?_append_left (by omega)] at hj
      rw [World.cell?_setCells_out b ds _ w _ (fun _ _=>by simp only;omega)]
      exact h2 j v hj
     ·rw [List.getElem?_append_right (by omega),hcl] at hj
      have hlt:j - n * s < ds.length:=(List.getElem?_eq_some_iff.1 hj).1
      have:=hin (j - n * s) hlt
      rw [show off + n * s + (j - n * s) = off + j by omega] at this
      rw [this]
      rw [List.getElem?_eq_getElem hlt] at hj
      exact hj
   ·obtain ⟨v',w',hr,r1,r2⟩:=run_append_arg_grows (P:=P) w t ty e i z s by_ ht hi hz hsize hby hzs hs0 ⟨b,off,none⟩ n cap cs ha.1 (fun j u hj=>by rw [Addr.add_lit];exact h2 j u hj) ad m c ds hd hnews (by omega) (by unfold maxLen;omega) hbyt
    obtain ⟨a',cap',rfl,hrow,hbase⟩:=RowG.of_own r1
    exact ⟨a',cap',w',hr,hrow,(grownBy_chg r2).mono (by simp),fun x hx=>.inr (hbase x hx)⟩
theorem wpList_append_rowG {P:Program} {w:World} {ops:Array Oper} {rest:List Oper} {o:Oper} {ac:Act} {Q:Exit → Act → World → Prop} {s by_:Nat} (hgd:o.guard = none) (sl x:Operand) (t:TypeId)
  (ho:o.op = .call { callee:=.builtin .append,args:=#[sl,x],argTypes:=#[t,t] }) (e:TypeId) (i:TypeInfo) (z:Value) (ht:P.underlying t = some (.slice e)) (hi:P.info? e = some i) (hz:i.zero = some z) (hsize:i.size = s) (hby:i.bytes = by_) (hzs:z.cells.size = s) (hs0:0 < s) (hb0:by_ ≤ 1000)
  {a b:Option Addr} {cap c n m:Nat} {cs ds:List Value} (hs:ac.eval sl = .slice a n cap) (hx:ac.eval x = .slice b m c) (ha:RowG s w a cap n cs) (hb:CellsAt w b ds) (hd:ds.length = m * s) (hone:∀ u ∈ ds,u.oneCell' = true) (h47:n + m ≤ 1000000000)
  (h:∀ a' cap' w',RowG s w' a' cap' (n + m) (cs ++ ds) → Chg (blk a) w w' → (∀ x ∈ blk a',x ∈ blk a ∨ w.heap.size ≤ x) → wpList P ops Q rest (ac.put o.dst (.slice a' (n + m) cap')) w'):wpList P ops Q (o :: rest) ac w:=by
 refine wpList_plain hgd fun K hK=>?_
 obtain ⟨a',cap',w',hr,h2,h3,h4⟩:=append_rowG (P:=P) (w:=w) t o.type e i z ht hi hz hsize hby hzs hs0 hb0 ha (c:=c) hb hd hone h47
 unfold Oper.wp execOp
 simp only [ho,resolve,invoke,builtin,Sem.run_bind,Sem.run_pure,Result.andThen_ok,List.map_toArray,List.map_cons,List.map_nil,hs,hx,hr]
 exact hK _ _ (h a' cap' w' h2 h3 h4)
def RowGA (s:Nat) (a:Option Addr) (cap n:Nat) (cs:List Value):Asr where
 at_ w F:=F = blk a ∧ RowG s w a cap n cs
 lt:=by rintro w F ⟨rfl,h1⟩ x hx;exact h1.lt x hx
 chg:=by rintro w w' F G ⟨rfl,h1⟩ c hd;exact ⟨rfl,h1.chg c hd⟩
theorem Own.rowG {w0 w:World} {As:List Asr} (h:Own w0 w As) (i:Nat) {s:Nat} {a:Option Addr} {cap n:Nat} {cs:List Value} (hi:As[i]? = some (RowGA s a cap n cs)):RowG s w a cap n cs:=by
 obtain ⟨F,⟨_,h1⟩,_⟩:=h.fact i hi;exact h1
theorem Own.rowTurn {w0 w w':World} {As:List Asr} {s:Nat} {a a':Option Addr} {cap cap' n n':Nat} {cs cs':List Value} (h:Own w0 w (RowGA s a cap n cs :: As)) (hr:RowG s w' a' cap' n' cs') (c:Chg (blk a) w w') (hf:∀ x ∈ blk a',x ∈ blk a ∨ w.heap.size ≤ x) :
  Own w0 w' (RowGA s a' cap' n' cs' :: As):=by
 refine Own.turn (As:=[RowGA s a cap n cs]) (As':=[RowGA s a' cap' n' cs']) (R:=As) h (fun F hF=>?_)
 obtain ⟨rfl,h1⟩:=sep_one.1 hF
 exact ⟨blk a',sep_one.2 ⟨rfl,hr⟩,c,hf⟩
end Go.Proofs.Ytklbaanpdacllaa

open Go Go.RowKit
set_option linter.unusedVariables false
namespace Go.Proofs.Ytklbaanpdacllaa
section
variable {P:Program} {ops:Array Oper} {Q:Exit → Act → World → Prop} {S:World → Prop}
def wpSegH (P:Program) (ops:Array Oper) (S:World → Prop) (K:Act → Prop):List Oper → Act → Prop
 | [],a=>K a
 | o :: l,a=>(Region.wanted o (yielded ops a.tmps) = true ∧ ∃ v,(∀ w,S w → (execOp a.eval o).run P w = .ok (.value v) w) ∧ wpSegH P ops S K l (a.put o.dst v)) ∨
  (Region.wanted o (yielded ops a.tmps) = false ∧ wpSegH P ops S K l (a.put o.dst undef))
theorem wpSegH_nil {K:Act → Prop} {a:Act} (h:K a):wpSegH P ops S K [] a:=h
theorem wpSegH_yes {K:Act → Prop} {a:Act} {o:Oper} {l:List Oper} (hw:Region.wanted o (yielded ops a.tmps) = true) (h:∃ v,(∀ w,S w → (execOp a.eval o).run P w = .ok (.value v) w) ∧ wpSegH P ops S K l (a.put o.dst v)):wpSegH P ops S K (o :: l) a:=.inl ⟨hw,h⟩
theorem wpSegH_no {K:Act → Prop} {a:Act} {o:Oper} {l:List Oper} (hw:Region.wanted o (yielded ops a.tmps) = false) (h:wpSegH P ops S K l (a.put o.dst undef)):wpSegH P ops S K (o :: l) a:=.inr ⟨hw,h⟩
def segB (ops:Array Oper):Nat → Nat → Array Bool → Bool
 | 0,_,_=>true
 | f + 1,k,listed=>(Region.ready .any ops listed).contains k && Region.free .any ops listed k && segB ops f (k + 1) (listed.setIfInBounds k true)
def marks:Nat → Nat → Array Bool → Array Bool
 | 0,_,listed=>listed
 | f + 1,k,listed=>marks f (k + 1) (listed.setIfInBounds k true)
theorem wpAnyH_segs (hs:Region.noSelect ops = true) (hQ:∀ (d:Option Tmp) (v:Value) c a w,Q (.panic c) (a.put d v) w → Q (.panic c) a w) (fuel:Nat) (w:World) (hS:S w) :
  ∀ (l:List Oper) (k:Nat) (listed:Array Bool) (a:Act),(∀ j,j < l.length → l[j]? = ops[k + j]?) → segB ops l.length k listed = true →
   wpSegH P ops S (fun a'=>wpAnyH P .any ops Q S fuel (marks l.length k listed) a' w) l a → wpAnyH P .any ops Q S (l.length + fuel) listed a w
 | [],k,listed,a,_,_,h=>by rw [List.length_nil,Nat.zero_add];exact h
 | o :: l,k,listed,a,hl,hB,h=>by
  have h0:ops[k]? = some o:=by simpa using (hl 0 (by simp)).symm
  simp only [List.length_cons,segB,Bool.and_eq_true] at hB
  obtain ⟨⟨hr,hf⟩,hB⟩:=hB
  have hl':∀ j,j < l.length → l[j]? = ops[k + 1 + j]?:=fun j hj=>by have:=hl (j + 1) (by simp;omega);simpa [Nat.add_assoc,Nat.add_comm 1 j] using this
  rw [List.length_cons,show l.length + 1 + fuel = (l.length + fuel) + 1 by omega]
  rcases h with ⟨hw,v,hv,h⟩ | ⟨hw,h⟩
  ·exact wpAnyH_take h0 hs hf hr (fun c a w=>hQ o.dst v c a w) (.inl ⟨hw,hv⟩) hS (wpAnyH_segs hs hQ fuel w hS l (k + 1) _ _ hl' hB h)
  ·exact wpAnyH_take h0 hs hf hr (fun c a w=>hQ o.dst undef c a w) (.inr ⟨hw,rfl⟩) hS (wpAnyH_segs hs hQ fuel w hS l (k + 1) _ _ hl' hB h)
theorem wpAnyH_seg {l:List Oper} (k n:Nat) (listed listed':Array Bool) (fuel:Nat) {a:Act} {w:World} (hs:Region.noSelect l.toArray = true) (hQ:∀ (d:Option Tmp) (v:Value) c a w,Q (.panic c) (a.put d v) w → Q (.panic c) a w) (hS:S w)
  (hB:(segB l.toArray n k listed && decide (k + n ≤ l.length) && (marks n k listed == listed')) = true) (h:wpSegH P l.toArray S (fun a'=>wpAnyH P .any l.toArray Q S fuel listed' a' w) ((l.drop k).take n) a):wpAnyH P .any l.toArray Q S (n + fuel) listed a w:=by
 simp only [Bool.and_eq_true,decide_eq_true_eq,beq_iff_eq] at hB
 obtain ⟨⟨hB,hn⟩,rfl⟩:=hB
 have hln:((l.drop k).take n).length = n:=by rw [List.length_take,List.length_drop];omega
 have:=wpAnyH_segs (P:=P) (Q:=Q) (S:=S) hs hQ fuel w hS ((l.drop k).take n) k listed a (fun j hj=>by
  rw [hln] at hj
  rw [List.getElem?_take,if_pos hj,List.getElem?_drop];simp) (by rw [hln];exact hB) (by rw [hln];exact h)
 rwa [hln] at this
def headH (P:Program) (ops:Array Oper) (Q:Exit → Act → World → Prop) (K:Act → World → Prop) (a:Act) (w:World):List Oper → Prop
 | []=>False
 | o :: _=>Region.wanted o (yielded ops a.tmps) = true ∧ o.wp P a w K Q
theorem headH_mk {K:Act → World → Prop} {a:Act} {w:World} {o:Oper} {l:List Oper} (hw:Region.wanted o (yielded ops a.tmps) = true) (h:o.wp P a w K Q):headH P ops Q K a w (o :: l):=⟨hw,h⟩
theorem wpAnyH_one {l:List Oper} (k:Nat) (listed listed':Array Bool) (fuel:Nat) {a:Act} {w:World} (hB:(decide (Region.ready .any l.toArray listed = [k]) && (listed.setIfInBounds k true == listed')) = true)
  (h:∀ K:Act → World → Prop,(∀ a' w',S w' → wpAnyH P .any l.toArray Q S fuel listed' a' w' → K a' w') → headH P l.toArray Q K a w (l.drop k)):wpAnyH P .any l.toArray Q S (fuel + 1) listed a w:=by
 simp only [Bool.and_eq_true,decide_eq_true_eq,beq_iff_eq] at hB
 obtain ⟨hr,rfl⟩:=hB
 refine wpAnyH_all hr (by simp) (fun i hi=>?_)
 have hik:i = k:=by simpa using hi
 subst hik
 have h1:=h (fun a' w'=>S w' ∧ wpAnyH P .any l.toArray Q S fuel (listed.setIfInBounds i true) a' w') (fun a' w' h2 h3=>⟨h2,h3⟩)
 cases hd:l.drop i with
 | nil=>rw [hd] at h1;exact h1.elim
 | cons o r =>
  rw [hd] at h1
  have h0:l.toArray[i]? = some o:=by
   have:(l.drop i)[0]? = some o:=by rw [hd];rfl
   rw [List.getElem?_drop] at this
   simpa using this
  unfold wpOp
  simp only [h0]
  rw [if_pos h1.1]
  exact .inl h1.2
theorem wp_region_lexH {id:Nat} {a:Act} {w:World} {l:List Oper} (S:World → Prop) (fuel:Nat) (listed:Array Bool) (hm:P.follows .mixedOrders = true) (hB:(decide (l.length = fuel) && (Array.replicate l.length false == listed)) = true)
  (h:wpAnyH P .any l.toArray (NoPanic Q) S fuel listed a w.drew):(Code.region id l.toArray true).wp P Q a w:=by
 simp only [Bool.and_eq_true,decide_eq_true_eq,beq_iff_eq] at hB
 obtain ⟨rfl,rfl⟩:=hB
 exact wp_region_noPanic (wp_region_held hm (by simpa using h))
theorem noPanic_put (d:Option Tmp) (v:Value) (c:_) (a:Act) (w:World):NoPanic Q (.panic c) (a.put d v) w → NoPanic Q (.panic c) a w:=fun h=>h
end
end Go.Proofs.Ytklbaanpdacllaa


open Go Go.RowKit Go.Maps
set_option linter.unusedVariables false
namespace Go.Proofs.Ytklbaanpdacllaa
def picksOf (l:List Rec):List Nat:=(l.filter (fun r=>r.1 == 1)).map (·.2)
theorem picks_snoc (l:List Rec) (k:Nat) (h:k < l.length):picksOf (l.take (k + 1)) = if l[k].1 = 1 then picksOf (l.take k) ++ [l[k].2] else picksOf (l.take k):=by
 unfold picksOf
 rw [List.take_succ_eq_append_getElem h,List.filter_append]
 by_cases e:l[k].1 = 1
 ·rw [if_pos e];simp [e]
 ·rw [if_neg e];simp [e]
theorem picks_len (l:List Rec):(picksOf l).length ≤ l.length:=by
 unfold picksOf;rw [List.length_map];exact List.length_filter_le _ _
theorem win_any (a:Option Addr) (cap:Nat) (l:List Rec) (z:Int) (w:World) (hl:l.length ≤ 1000) (hz:z ≤ 1000) (hat:RecsAt w a l) (hu:∀ r ∈ l,r.2 < 18446744073709551616) :
  Calls Try.prog 8 #[.slice a l.length cap,.int .i64 z] w fun e w'=>e = .returned (.int .i64 (winW (picksOf l) z.toNat:Int)) ∧ Below w.heap.size w w':=by
 have Hat:=Lib.hid hat;clear hat
 have Hu:=Lib.hid hu;clear hu
 obtain ⟨m,hm⟩:∃ m,m = l.length:=⟨_,rfl⟩
 rw [← hm] at hl ⊢
 have Hm:=Lib.hid hm;clear hm
 obtain ⟨M,hM⟩:∃ M,M = z.toNat:=⟨_,rfl⟩
 rw [← hM]
 have HM:=Lib.hid hM;clear hM
 generalize hrr:(winW (picksOf l) M:Int) = rr
 have Hrr:=Lib.hid hrr;clear hrr
 go_enter Try.func8,Try.ntmps8
 have O0:Hid (Own w (w.alloc (.map #[] 0)) [LstP w.heap.size M []]):=Lib.hid (Own.lstNew M (Own.nil (Below.refl _ _)) rfl)
 have hmm:∀ wr:World,(Instr.makeMap 43 none).run Try.prog wr = .ok (.map (some wr.heap.size)) (wr.alloc (.map #[] 0)):=fun wr=>run_makeMap_plain wr _
 have hlk:∀ (w:World) (ps:List Nat) (wr:World) (y:Nat),y < M → y < 18446744073709551616 → ∀ r,Own w wr [LstP r M ps] → (Instr.lookup 43 (.map (some r)) (.int .u64 (y:Int)) false).run Try.prog wr = .ok (.int .i64 (lastOf y ps:Int)) wr:=fun w ps wr y h1 h2 r h=>h.lstGet y h1 h2
 have HLK:=Lib.hid hlk;clear hlk
 go_wp2_with fail
 generalize hr:w.heap.size = r at O0 ⊢
 have Hr:=Lib.hid hr;clear hr
 go_loopw [6,7,15] (fun p v c wr=>∃ k:Nat,k ≤ m ∧ c = .int .i64 k ∧ p = .int .i64 ((picksOf (l.take k)).length:Int) ∧ v = .int .i64 (gapOf M (picksOf (l.take k)):Int) ∧ Hid (Own w wr [LstP r M (picksOf (l.take k))])) (fun _ _ c _=>m - (intOf c).toNat)
 case atStart=>exact ⟨0,by omega,rfl,rfl,rfl,O0⟩
 case round =>
  obtain ⟨k,hk,rfl,rfl,rfl,HO⟩:=hrel
  by_cases hlt:k < m
  ·obtain ⟨b,off,rfl,h0',h1'⟩:=Hat.out k (by have:=Hm.out;omega)
   have hbl:b < w.heap.size:=World.block_lt_of_cell? w _ h0'
   have hsn:=picks_snoc l k (by have:=Hm.out;omega)
   have hub:=Hu.out _ (List.getElem_mem (by have:=Hm.out;omega:k < l.length))
   generalize l[k]'(by have:=Hm.out;omega) = rc at h0' h1' hsn hub
   obtain ⟨rk,rn⟩:=rc
   simp only at h0' h1' hub hsn
   have g0:wr.cell? ⟨b,off + k * 2,none⟩ = some (.int .i64 rk):=by rw [HO.out.bel.cell (p:=⟨b,off + k * 2,none⟩) hbl];exact h0'
   have g1:wr.cell? ⟨b,off + k * 2 + 1,none⟩ = some (.int .u64 (rn:Int)):=by rw [HO.out.bel.cell (p:=⟨b,off + k * 2 + 1,none⟩) hbl];exact h1'
   clear h0' h1'
   have hpl:(picksOf (l.take k)).length ≤ k:=by have:=picks_len (l.take k);rw [List.length_take] at this;omega
   generalize hps:picksOf (l.take k) = ps at HO hsn hpl ⊢
   have Hps:=Lib.hid hps;clear hps
   have Hsn:=Lib.hid hsn;clear hsn
   have O1:=Lib.hid (HO.out.step (below_alloc1 wr (.cells #[.int .i64 rk,.int .u64 (rn:Int)] 30)))
   have hend:∀ wx (p2 v2:Int),p2 = ((picksOf (l.take (k + 1))).length:Int) → v2 = (gapOf M (picksOf (l.take (k + 1))):Int) → Own w wx [LstP r M (picksOf (l.take (k + 1)))] → (∃ k_1:Nat,k_1 ≤ m ∧ Value.int IntKind.i64 ((k:Int) + 1) = Value.int IntKind.i64 k_1 ∧ Value.int IntKind.i64 p2 = Value.int IntKind.i64 ((picksOf (l.take k_1)).length:Int) ∧ Value.int IntKind.i64 v2 = Value.int IntKind.i64 (gapOf M (picksOf (l.take k_1)):Int) ∧ Hid (Own w wx [LstP r M (picksOf (l.take k_1))])) ∧ m - (intOf (Value.int IntKind.i64 ((k:Int) + 1))).toNat < m - (intOf (Value.int IntKind.i64 (k:Int))).toNat:=fun wx p2 v2 e1 e2 h=>⟨⟨k + 1,by omega,by simp,by rw [e1],by rw [e2],Lib.hid h⟩,by simp [intOf];omega⟩
   have HE:=Lib.hid hend;clear hend
   by_cases hk1:rk = 1
   ·subst hk1
    have hsn:picksOf (l.take (k + 1)) = ps ++ [rn]:=by rw [Hsn.out,if_pos rfl]
    by_cases hin:rn < M
    ·have hgl:=gap_le M ps
     have hll:=last_le rn ps
     have hzz:0 ≤ z ∧ (rn:Int) < z:=by have:=HM.out;omega
     obtain ⟨hz0,hz1⟩:=hzz
     have hz2:¬ z < 0:=by omega
     have hL:=O1.out.lstGet rn hin hub
     obtain ⟨w2,hU,O2⟩:=O1.out.lstPut rn hin hub (by omega)
     have hg:=gap_snoc M rn ps
     rw [if_pos hin] at hg
     have Hg:=Lib.hid hg;clear hg
     have O2':=Lib.hid O2;clear O2
     have HSN:=Lib.hid hsn;clear hsn
     generalize hq:lastOf rn ps = q at hL hll Hg ⊢
     clear hq
     generalize hgv:gapOf M ps = gv at hgl Hg ⊢
     generalize hN:ps.length = N at *
     have HN:=Lib.hid hN;clear hN
     go_wp2_with fail
     refine HE.out _ _ _ (by rw [HSN.out,List.length_append,HN.out];simp) (by rw [HSN.out,Hg.out];split <;> omega) (by rw [HSN.out];exact O2'.out)
    ·have hz3:¬ (rn:Int) < (if z < 0 then 0 else z):=by have:=HM.out;split <;> omega
     have O2:=Lib.hid (O1.out.lstSkip rn hin)
     have hg:=gap_snoc M rn ps
     rw [if_neg hin] at hg
     have Hg:=Lib.hid hg;clear hg
     have HSN:=Lib.hid hsn;clear hsn
     have HIN:=Lib.hid hin;clear hin
     by_cases hz:z < 0
     ·rw [if_pos hz] at hz3
      have hz4:¬ 0 ≤ z:=by omega
      go_wp2_with fail
      exact HE.out _ _ _ (by rw [HSN.out,List.length_append];simp) (by rw [HSN.out,Hg.out]) (by rw [HSN.out];exact O2.out)
     ·rw [if_neg hz] at hz3
      have hz4:0 ≤ z:=by omega
      have hz5:(decide ((rn:Int) < z)) = false:=by simpa using hz3
      go_wp2_with fail
      exact HE.out _ _ _ (by rw [HSN.out,List.length_append];simp) (by rw [HSN.out,Hg.out]) (by rw [HSN.out];exact O2.out)
   ·have hk2:(rk == 1) = false:=by simpa using hk1
    have hsn:picksOf (l.take (k + 1)) = ps:=by rw [Hsn.out,if_neg hk1]
    go_wp2_with fail
    exact HE.out _ _ _ (by rw [hsn]) (by rw [hsn]) (by rw [hsn];exact O1.out)
  ·obtain rfl:k = m:=by omega
   have hps:picksOf (l.take k) = picksOf l:=by rw [Hm.out,List.take_length]
   rw [hps] at HO ⊢
   have hpl:(picksOf l).length ≤ k:=by have:=picks_len l;have:=Hm.out;omega
   generalize hps2:picksOf l = ps at HO hpl Hrr ⊢
   clear hps hps2
   obtain ⟨n,hlen,hnm,hfew⟩:=HO.out.lstLen 3
   have hgl:=gap_le M ps
   by_cases hz:(n:Int) < z
   ·have hr0:rr = 0:=by
     have hn:n < M:=by have:=HM.out;omega
     rw [← Hrr.out];unfold winW;rw [if_neg (hfew.1 hn)];rfl
    have Hfew:=Lib.hid hfew;clear hfew
    subst hr0
    go_wp2_with fail
    go_ret
    exact ⟨rfl,HO.out.bel⟩
   ·have hall:∀ x,x < M → x ∈ ps:=by
     have hn:¬ n < M:=by have:=HM.out;omega
     exact Classical.byContradiction fun hc=>hn (hfew.2 hc)
    have hwin:winW ps M = max (gapOf M ps) (topW (fun x=>ps.length + 1 - lastOf x ps) M):=by unfold winW;rw [if_pos hall,gap_top]
    have Hall:=Lib.hid hall;clear hall
    have Hfew:=Lib.hid hfew;clear hfew
    have Hwin:=Lib.hid hwin;clear hwin
    have hz5:decide ((n:Int) < z) = false:=by simpa using hz
    obtain ⟨F9,⟨_,D,hD,hLD⟩,hF9⟩:=HO.out.fact 0 rfl
    have hbw:=HO.out.bel
    have hrw:w.heap.size ≤ r:=by rw [Hr.out];exact Nat.le_refl _
    have HRW:=Lib.hid hrw;clear hrw
    have HLD:=Lib.hid hLD;clear hLD
    have HD:=Lib.hid hD;clear hD
    have HB:=Lib.hid hbw;clear hbw hF9
    have HGL:=Lib.hid hgl;clear hgl
    clear hnm
    have HPL:=Lib.hid hpl;clear hpl
    have hg9:∃ g9:Nat,g9 = gapOf M ps:=⟨_,rfl⟩
    obtain ⟨g9,hg9⟩:=hg9
    rw [← hg9]
    have HG9:=Lib.hid hg9;clear hg9
    generalize hs9:wr.heap.size = s9
    have HS9:=Lib.hid hs9;clear hs9
    have hN:∃ N:Nat,N = ps.length:=⟨_,rfl⟩
    obtain ⟨N,hN⟩:=hN
    rw [← hN]
    have HN:=Lib.hid hN;clear hN
    go_wp2_with (first
     | (at_range;refine wpList_range_own _ rfl _ 43 rfl 28 3 lawU9 Try.underlying43 _ r _ _ rfl HD.out ?_;intro w0 hrg0 hg0 hs0)
     | go_in)
    try go_frame
    rw [HS9.out] at hrg0 ⊢
    have hb0:=Lib.hid (HB.out.grown hg0 HB.out.size (by simp));clear hg0 hs0
    have hsz9:w.heap.size ≤ s9:=by rw [← HS9.out];exact HB.out.size
    have HSZ:=Lib.hid hsz9;clear hsz9
    go_loopw [7] (fun v w9=>∃ (g:Nat) (left:Lit → Bool) (cnt:Nat),v = .int .i64 g ∧ Hid (w9.ranges (H:=Unit) Try.prog 28 (plainElem Try.prog 3) r s9 ps.length D left cnt ∧ Below w.heap.size w w9 ∧ g9 ≤ g ∧ (g = g9 ∨ ∃ x,x < M ∧ g ≤ N + 1 - lastOf x ps) ∧ ∀ x:Nat,x < M → left (.int .u64 (x:Int)) = false → N + 1 - lastOf x ps ≤ g)) (fun _ w9=>w9.rangeLeft r s9)
    case atStart=>exact ⟨g9,_,_,rfl,Lib.hid ⟨hrg0,hb0.out,Nat.le_refl _,.inl rfl,fun x hx hf=>by
     rw [(HLD.out.1 x hx (Hall.out x hx)).1] at hf;exact absurd hf (by decide)⟩⟩
    case round =>
     obtain ⟨g,left,cnt,rfl,HH⟩:=hrel
     go_wp2_with (first
      | (at_next;refine wpList_next_ranges_ii _ rfl _ rfl 28 3 .u64 .i64 lawU9 Try.underlying28 Try.underlying3 r s9 _ _ _ _ rfl HH.out.1 ?_ ?_)
      | go_in)
     ·intro _ hl0
      have hgr:(g:Int) = rr:=by
       obtain ⟨_,_,q1,q2,q3⟩:=HH.out
       rw [← Hrr.out,Hwin.out]
       have hup:topW (fun x=>ps.length + 1 - lastOf x ps) M ≤ g:=topW_le fun x hx=>by rw [← HN.out];exact q3 x hx (hl0 _)
       have:g ≤ max (gapOf M ps) (topW (fun x=>ps.length + 1 - lastOf x ps) M):=by
        rcases q2 with e | ⟨x,hx,e⟩
        ·rw [e,HG9.out];exact Nat.le_max_left _ _
        ·rw [HN.out] at e
         exact Nat.le_trans (Nat.le_trans e (le_topW (f:=fun x=>ps.length + 1 - lastOf x ps) hx)) (Nat.le_max_right _ _)
       have h9:=HG9.out
       omega
      have HGR:=Lib.hid hgr;clear hgr
      clear hl0
      go_wp2_with fail
      go_ret
      exact ⟨by rw [HGR.out];rfl,HH.out.2.1⟩
     ·intro x c w1 cnt1 hwx hwc hlx hat hrg1 hlt1 hg1 hs1 hen
      have hx9:∃ y:Nat,x = (y:Int) ∧ y < M ∧ y ∈ ps:=Classical.byContradiction fun hc=>by
       have h1:=HLD.out.2.1 x hc
       have h2:=hat (.lit (.int .i64 (c + 1)))
       rw [atKey_of_not_has h1] at h2
       simp at h2
       omega
      obtain ⟨y,rfl,hyM,hyp⟩:=hx9
      have hcy:c = (lastOf y ps:Int):=by
       have h2:=hat (.lit (.int .i64 0))
       rw [(HLD.out.1 y hyM hyp).2] at h2
       simpa using h2.symm
      clear hat hwc hwx
      have hll:=last_le y ps
      rw [← HN.out] at hll
      have hNk:N ≤ 1000:=by have:=HN.out;have:=HPL.out;omega
      have hgk:g ≤ N + 1:=by
       obtain ⟨_,_,q1,q2,q3⟩:=HH.out
       rcases q2 with e | ⟨x,hx,e⟩
       ·have:=HG9.out;have:=HGL.out;have:=HN.out;omega
       ·omega
      have hR1:∀ g2:Nat,g2 = max g (N + 1 - lastOf y ps) → (w1.ranges (H:=Unit) Try.prog 28 (plainElem Try.prog 3) r s9 ps.length D (fun z=>left z && !z.sameKey (.int .u64 (y:Int))) cnt1 ∧ Below w.heap.size w w1 ∧ g9 ≤ g2 ∧ (g2 = g9 ∨ ∃ x,x < M ∧ g2 ≤ N + 1 - lastOf x ps) ∧ ∀ x:Nat,x < M → (left (.int .u64 (x:Int)) && !(Lit.int .u64 (x:Int)).sameKey (.int .u64 (y:Int))) = false → N + 1 - lastOf x ps ≤ g2):=fun g2 e2=>by
       obtain ⟨_,q0,q1,q2,q3⟩:=HH.out
       refine ⟨hrg1,q0.grown hg1 q0.size (fun k hk=>by cases hk;exact HSZ.out),by omega,?_,fun x hx hf=>?_⟩
       ·rw [e2]
        rcases Nat.le_total g (N + 1 - lastOf y ps) with hle | hle
        ·rw [Nat.max_eq_right hle];exact .inr ⟨y,hyM,Nat.le_refl _⟩
        ·rw [Nat.max_eq_left hle];exact q2
       ·by_cases e:x = y
        ·subst e;omega
        ·rw [sameKey_ne (fun hc=>e (by injection hc with _ hc;omega))] at hf
         have h5:=q3 x hx (by simpa using hf)
         clear q2 q3
         omega
      have HR1:=Lib.hid hR1;clear hR1
      have hms:w1.rangeLeft r s9 < wr.rangeLeft r s9:=by rw [hrg1.left_eq,HH.out.1.left_eq];exact hlt1
      clear hrg1 hlt1 hg1 hs1 hlx hyp
      generalize lastOf y ps = q at *
      subst hcy
      go_wp2_with fail
      refine ⟨⟨max g (N + 1 - q),_,_,?_,Lib.hid (HR1.out _ rfl)⟩,hms⟩
      congr 1
      split <;> omega
def turnF (S w:Int):Int:=(2 * S + 2) * w
def boundF (R S w g:Int):Int:=turnF S w * (7 * (g + 2) + 4 * (R + 2)) + 8 * w
theorem turn_bd {S w:Int} (hS:0 ≤ S ∧ S ≤ 100) (hw:0 ≤ w ∧ w ≤ 100000):0 ≤ turnF S w ∧ turnF S w ≤ 20200000:=by
 unfold turnF
 constructor
 ·exact Int.mul_nonneg (by omega) (by omega)
 ·calc (2 * S + 2) * w ≤ 202 * 100000:=Int.mul_le_mul (by omega) (by omega) (by omega) (by omega)
   _ ≤ 20200000:=by omega
theorem bound_bd {R S w g:Int} (hS:0 ≤ S ∧ S ≤ 100) (hw:0 ≤ w ∧ w ≤ 100000) (hR:0 ≤ R ∧ R ≤ 100) (hg:0 ≤ g ∧ g ≤ 100000):0 ≤ turnF S w * (7 * (g + 2) + 4 * (R + 2)) ∧ turnF S w * (7 * (g + 2) + 4 * (R + 2)) ≤ 20200000 * 1000000:=by
 obtain ⟨h1,h2⟩:=turn_bd hS hw
 constructor
 ·exact Int.mul_nonneg h1 (by omega)
 ·exact Int.mul_le_mul h2 (by omega) (by omega) (by omega)
theorem bound_any (p M R S wn g:Int) (w:World) (hS:0 ≤ S ∧ S ≤ 100) (hw:0 ≤ wn ∧ wn ≤ 100000) (hR:0 ≤ R ∧ R ≤ 100) (hg:0 ≤ g ∧ g ≤ 100000) :
  Calls Try.prog 11 #[.agg #[.int .i64 p,.int .i64 M,.int .i64 R,.int .i64 S],.int .i64 wn,.int .i64 g] w fun e w'=>e = .returned (.int .i64 (boundF R S wn g)) ∧ Below w.heap.size w w':=by
 have ht:=turn_bd hS hw
 have hb:=bound_bd hS hw hR hg
 obtain ⟨ht1,ht2⟩:=ht
 obtain ⟨hb1,hb2⟩:=hb
 obtain ⟨hS1,hS2⟩:=hS
 obtain ⟨hw1,hw2⟩:=hw
 obtain ⟨hR1,hR2⟩:=hR
 obtain ⟨hg1,hg2⟩:=hg
 have Hbf:Hid (boundF R S wn g = turnF S wn * (7 * (g + 2) + 4 * (R + 2)) + 8 * wn):=Lib.hid rfl
 generalize boundF R S wn g = bf at Hbf ⊢
 have he:turnF S wn = (2 * S + 2) * wn:=rfl
 generalize turnF S wn = T at he ht1 ht2 hb1 hb2 Hbf
 have he':=he.symm
 have HE:=Lib.hid he;clear he
 have hw1:IntKind.i64.wrap ((2 * S + 2) * wn) = T:=by rw [he',IntKind.wrap_i64];omega
 have hb3:IntKind.i64.wrap (T * (7 * (g + 2) + 4 * (R + 2))) = T * (7 * (g + 2) + 4 * (R + 2)):=by rw [IntKind.wrap_i64];omega
 have hB:=below_alloc1 w (.cells #[.int .i64 p,.int .i64 M,.int .i64 R,.int .i64 S] 36)
 have HB:=Lib.hid hB;clear hB
 go_enter Try.func11,Try.ntmps11
 go_wp2_with fail
 go_ret
 exact ⟨by rw [Hbf.out];rfl,HB.out⟩
theorem rbound_any (p M R S wn g:Int) (w:World) (hS:0 ≤ S ∧ S ≤ 100) (hw:0 ≤ wn ∧ wn ≤ 100000) (hR:0 ≤ R ∧ R ≤ 100) (hg:0 ≤ g ∧ g ≤ 100000) :
  Calls Try.prog 12 #[.agg #[.int .i64 p,.int .i64 M,.int .i64 R,.int .i64 S],.int .i64 wn,.int .i64 g] w fun e w'=>e = .returned (.int .i64 (boundF R S wn g)) ∧ Below w.heap.size w w':=by
 have ht:=turn_bd hS hw
 have hb:=bound_bd hS hw hR hg
 obtain ⟨ht1,ht2⟩:=ht
 obtain ⟨hb1,hb2⟩:=hb
 obtain ⟨hS1,hS2⟩:=hS
 obtain ⟨hw1,hw2⟩:=hw
 obtain ⟨hR1,hR2⟩:=hR
 obtain ⟨hg1,hg2⟩:=hg
 have Hbf:Hid (boundF R S wn g = turnF S wn * (7 * g + 14 + 4 * R + 8) + 8 * wn):=Lib.hid (by unfold boundF;rw [show 7 * (g + 2) + 4 * (R + 2) = 7 * g + 14 + 4 * R + 8 by omega])
 rw [show 7 * (g + 2) + 4 * (R + 2) = 7 * g + 14 + 4 * R + 8 by omega] at hb1 hb2
 generalize boundF R S wn g = bf at Hbf ⊢
 have he:turnF S wn = 2 * (S + 1) * wn:=by unfold turnF;rw [show 2 * S + 2 = 2 * (S + 1) by omega]
 generalize turnF S wn = T at he ht1 ht2 hb1 hb2 Hbf
 have he':=he.symm
 have HE:=Lib.hid he;clear he
 have hw1:IntKind.i64.wrap (2 * (S + 1) * wn) = T:=by rw [he',IntKind.wrap_i64];omega
 have hb3:IntKind.i64.wrap (T * (7 * g + 14 + 4 * R + 8)) = T * (7 * g + 14 + 4 * R + 8):=by rw [IntKind.wrap_i64];omega
 have hB:=below_alloc1 w (.cells #[.int .i64 p,.int .i64 M,.int .i64 R,.int .i64 S] 24)
 have HB:=Lib.hid hB;clear hB
 go_enter Try.func12,Try.ntmps12
 go_wp2_with fail
 go_ret
 exact ⟨by rw [Hbf.out];rfl,HB.out⟩
theorem recs3 (w:World) (t:TypeId):RecsAt (w.alloc (.cells #[.int .i64 1,.int .u64 0,.int .i64 1,.int .u64 1,.int .i64 1,.int .u64 0] t)) (some ⟨w.heap.size,0,none⟩) [(1,0),(1,1),(1,0)]:=fun i hi=>by
 have hc:=(CellsAt.new w [.int .i64 1,.int .u64 0,.int .i64 1,.int .u64 1,.int .i64 1,.int .u64 0] t rfl)
 refine ⟨w.heap.size,0,rfl,?_,?_⟩
 all_goals
  match i,hi with
  | 0,_=>first | (obtain ⟨b,o,e,h⟩:=hc 0 _ rfl;cases e;exact h) | (obtain ⟨b,o,e,h⟩:=hc 1 _ rfl;cases e;exact h)
  | 1,_=>first | (obtain ⟨b,o,e,h⟩:=hc 2 _ rfl;cases e;exact h) | (obtain ⟨b,o,e,h⟩:=hc 3 _ rfl;cases e;exact h)
  | 2,_=>first | (obtain ⟨b,o,e,h⟩:=hc 4 _ rfl;cases e;exact h) | (obtain ⟨b,o,e,h⟩:=hc 5 _ rfl;cases e;exact h)
theorem awake24_any (w:World):Calls Try.prog 5 #[] w fun e w'=>e = .returned (.bool true) ∧ Below w.heap.size w w':=by
 go_enter Try.func5,Try.ntmps5
 have h1:=recs3 w 30
 have H1:=Lib.hid h1;clear h1
 go_wp2_with (first
  | (go_at_call 8;refine (win_any _ _ [(1,0),(1,1),(1,0)] 2 _ (by decide) (by decide) H1.out (by decide)).mono ?_;rintro e w2 ⟨rfl,hb2⟩)
  | (go_at_call 11;refine (bound_any 0 0 2 1 1 1 _ (by decide) (by decide) (by decide) (by decide)).mono ?_;rintro e w3 ⟨rfl,hb3⟩)
  | fail)
 have hb:boundF 2 1 1 1 = 156:=by decide
 rw [hb]
 go_ret
 exact ⟨rfl,below_on (below_on (below_alloc1 _ _) hb2) hb3⟩
theorem info_u64w:(Try.prog.info? 28).map (fun i=>(i.zero,i.size,i.bytes)) = some (some (.int .u64 0),1,8):=by kernel_rfl
def uvs (l:List Nat):List Value:=l.map fun (n:Nat)=>Value.int .u64 (n:Int)
theorem uvs_at (l:List Nat) (i:Nat) (h:i < l.length):(uvs l)[i]? = some (.int .u64 (l[i]:Int)):=by unfold uvs;simp [List.getElem?_eq_getElem h]
theorem rwin_any (a:Option Addr) (cap:Nat) (l:List Rec) (z:Int) (w:World) (hl:l.length ≤ 1000) (hz:z ≤ 1000) (hat:RecsAt w a l) (hu:∀ r ∈ l,r.2 < 18446744073709551616) :
  Calls Try.prog 9 #[.slice a l.length cap,.int .i64 z] w fun e w'=>e = .returned (.int .i64 (winW (picksOf l) z.toNat:Int)) ∧ Below w.heap.size w w':=by
 have Hat:=Lib.hid hat;clear hat
 have Hu:=Lib.hid hu;clear hu
 obtain ⟨m,hm⟩:∃ m,m = l.length:=⟨_,rfl⟩
 rw [← hm] at hl ⊢
 have Hm:=Lib.hid hm;clear hm
 obtain ⟨M,hM⟩:∃ M,M = z.toNat:=⟨_,rfl⟩
 rw [← hM]
 have HM:=Lib.hid hM;clear hM
 generalize hrr:(winW (picksOf l) M:Int) = rr
 have Hrr:=Lib.hid hrr;clear hrr
 obtain ⟨i0,hi,hz0,hz1,hz2⟩:=info_parts info_u64w
 have Hi:=Lib.hid hi;clear hi
 have Hz0:=Lib.hid hz0;clear hz0
 have Hz1:=Lib.hid hz1;clear hz1
 have Hz2:=Lib.hid hz2;clear hz2
 go_enter Try.func9,Try.ntmps9
 have ho0:=((Own.nil (Below.refl _ w)).add (below_alloc1 w (.cells #[] 28)) (A:=RowGA 1 (some ⟨w.heap.size,0,none⟩) 0 0 []) (F:=[w.heap.size]) ⟨rfl,RowG.zero (by simp)⟩ (by intro x hx;simp at hx;omega))
 have HO:=Lib.hid ho0;clear ho0
 go_wp2_with fail
 go_loopw [5,18] (fun sv c wr=>∃ k:Nat,∃ ra cap,k ≤ m ∧ c = .int .i64 k ∧ sv = .slice ra (picksOf (l.take k)).length cap ∧ Hid (Own w wr [RowGA 1 ra cap (picksOf (l.take k)).length (uvs (picksOf (l.take k)))])) (fun _ c _=>m - (intOf c).toNat)
 case atStart=>exact ⟨0,some ⟨w.heap.size,0,none⟩,0,by omega,rfl,rfl,HO⟩
 case round =>
  obtain ⟨k,ra,cp,hk,rfl,rfl,hr⟩:=hrel
  by_cases hlt:k < m
  ·obtain ⟨b,off,rfl,h0',h1'⟩:=Hat.out k (by have:=Hm.out;omega)
   have hbl:b < w.heap.size:=World.block_lt_of_cell? w _ h0'
   have hsn:=picks_snoc l k (by have:=Hm.out;omega)
   have hub:=Hu.out _ (List.getElem_mem (by have:=Hm.out;omega:k < l.length))
   generalize l[k]'(by have:=Hm.out;omega) = rc at h0' h1' hsn hub
   obtain ⟨rk,rn⟩:=rc
   simp only at h0' h1' hub hsn
   have g0:wr.cell? ⟨b,off + k * 2,none⟩ = some (.int .i64 rk):=by rw [hr.out.bel.cell (p:=⟨b,off + k * 2,none⟩) hbl];exact h0'
   have g1:wr.cell? ⟨b,off + k * 2 + 1,none⟩ = some (.int .u64 (rn:Int)):=by rw [hr.out.bel.cell (p:=⟨b,off + k * 2 + 1,none⟩) hbl];exact h1'
   clear h0' h1'
   have hpl:(picksOf (l.take k)).length ≤ k:=by have:=picks_len (l.take k);rw [List.length_take] at this;omega
   have hend:∀ wx (a9:Option Addr) (c9 n9:Nat),n9 = (picksOf (l.take (k + 1))).length → Own w wx [RowGA 1 a9 c9 n9 (uvs (picksOf (l.take (k + 1))))] → (∃ k_1:Nat,∃ ra cap,k_1 ≤ m ∧ Value.int IntKind.i64 ((k:Int) + 1) = Value.int IntKind.i64 k_1 ∧ Value.slice a9 n9 c9 = .slice ra (picksOf (l.take k_1)).length cap ∧ Hid (Own w wx [RowGA 1 ra cap (picksOf (l.take k_1)).length (uvs (picksOf (l.take k_1)))])) ∧ m - (intOf (Value.int IntKind.i64 ((k:Int) + 1))).toNat < m - (intOf (Value.int IntKind.i64 (k:Int))).toNat:=fun wx a9 c9 n9 e h=>⟨⟨k + 1,a9,c9,by omega,by simp,by rw [e],Lib.hid (by rw [← e];exact h)⟩,by simp [intOf];omega⟩
   have HE:=Lib.hid hend;clear hend
   generalize hps:picksOf (l.take k) = ps at hr hsn hpl ⊢
   have Hps:=Lib.hid hps;clear hps
   have O1:=Lib.hid (hr.out.step (below_alloc1 wr (.cells #[.int .i64 rk,.int .u64 (rn:Int)] 41)))
   clear hr
   generalize hN:ps.length = N at *
   have HN:=Lib.hid hN;clear hN
   by_cases hk1:rk = 1
   ·subst hk1
    have hsn:picksOf (l.take (k + 1)) = ps ++ [rn]:=by rw [hsn,if_pos rfl]
    have HSN:=Lib.hid hsn;clear hsn
    have O2:=Lib.hid (O1.out.step (below_alloc1 _ (.cells #[.int .u64 (rn:Int)] 28)))
    clear O1
    go_wp2_with (at_builtin;go_loud (refine wpList_append_rowG rfl _ _ 44 rfl 28 i0 _ Try.underlying44 Hi.out Hz0.out Hz1.out Hz2.out rfl (by decide) (by decide) (n:=N) (m:=1) (cs:=uvs ps) (ds:=[.int .u64 (rn:Int)]) (by rfl) (by rfl) (O2.out.rowG 0 rfl) (CellsAt.new _ [.int .u64 (rn:Int)] _ (by simp)) rfl (by simp [Value.oneCell']) (by omega) ?_))
    intro a9 c9 w9 k9 ch9 f9
    have o2:=Own.rowTurn O2.out k9 ch9 (fun x hx=>by simpa using f9 x hx)
    have H2:Hid (Own w w9 [RowGA 1 a9 c9 (N + 1) (uvs (picksOf (l.take (k + 1))))]):=Lib.hid (by rw [HSN.out];unfold uvs at *;rw [List.map_append];exact o2)
    clear o2 k9 ch9 f9 O2
    go_wp2
    exact HE.out _ _ _ _ (by rw [HSN.out,List.length_append,HN.out];rfl) H2.out
   ·have hk2:(rk == 1) = false:=by simpa using hk1
    have hsn:picksOf (l.take (k + 1)) = ps:=by rw [hsn,if_neg hk1]
    have HSN:=Lib.hid hsn;clear hsn
    go_wp2_with fail
    exact HE.out _ _ _ _ (by rw [HSN.out,HN.out]) (by rw [HSN.out];exact O1.out)
  ·obtain rfl:k = m:=by omega
   have hps:picksOf (l.take k) = picksOf l:=by rw [Hm.out,List.take_length]
   rw [hps] at hr ⊢
   have hpl:(picksOf l).length ≤ k:=by have:=picks_len l;have:=Hm.out;omega
   have hpu:∀ x ∈ picksOf l,x < 18446744073709551616:=fun x hx=>by
    unfold picksOf at hx
    obtain ⟨r,hr,rfl⟩:=List.mem_map.1 hx
    exact Hu.out r (List.mem_filter.1 hr).1
   generalize hps2:picksOf l = ps at hr hpl Hrr hpu ⊢
   clear hps hps2
   have hcl:=(hr.out.rowG 0 rfl).cells
   have HC:=Lib.hid hcl;clear hcl
   have HB:=Lib.hid hr.out.bel;clear hr HO Hat Hu Hm hlt hk
   have HPU:=Lib.hid hpu;clear hpu
   generalize hN:ps.length = N at *
   have HN:=Lib.hid hN;clear hN
   go_wp2_with fail
   obtain ⟨wO,hwO⟩:∃ wO,wO = wr:=⟨_,rfl⟩
   rw [← hwO] at HC HB
   have HWO:=Lib.hid hwO;clear hwO
   go_loopw [8,9] (fun ov c w9=>∃ j:Nat,(j ≤ M ∨ j = 0) ∧ c = .int .i64 j ∧ ov = .int .i64 (topW (fun x=>mostW x ps + 1) j:Int) ∧ Hid ((∀ x,x < j → x ∈ ps) ∧ w9 = wO)) (fun _ c _=>M - (intOf c).toNat)
   case atStart=>exact ⟨0,.inr rfl,rfl,rfl,Lib.hid ⟨fun x hx=>by omega,HWO.out.symm⟩⟩
   case round =>
    obtain ⟨j,hj,rfl,rfl,HJ⟩:=hrel
    by_cases hjm:(j:Int) < z
    ·have hjM:j < M:=by have:=HM.out;omega
     have HJM:=Lib.hid hjM;clear hjM
     have hj1000:j ≤ 1000:=by omega
     have hcv:IntKind.u64.wrap (j:Int) = (j:Int):=by rw [IntKind.wrap_u64];omega
     go_upto_region 14 with fail
     go_wp2_with fail
     obtain ⟨hJ1,hJ2⟩:=HJ.out
     rw [← hJ2] at HC HB
     have HJ2:=Lib.hid hJ2;clear hJ2
     have HJ1:=Lib.hid hJ1;clear hJ1 HJ
     generalize wr = W at *
     have HE:Hid (∀ j2:Nat,j2 = j + 1 → j ∈ ps → ∀ v:Int,v = (topW (fun x=>mostW x ps + 1) (j + 1):Int) → (∃ j_1:Nat,(j_1 ≤ M ∨ j_1 = 0) ∧ Value.int IntKind.i64 ((j:Int) + 1) = Value.int IntKind.i64 j_1 ∧ Value.int IntKind.i64 v = Value.int IntKind.i64 (topW (fun x=>mostW x ps + 1) j_1:Int) ∧ Hid ((∀ x,x < j_1 → x ∈ ps) ∧ W = wO)) ∧ M - (intOf (Value.int IntKind.i64 ((j:Int) + 1))).toNat < M - (intOf (Value.int IntKind.i64 (j:Int))).toNat):=Lib.hid (fun j2 e hjp v ev=>⟨⟨j + 1,.inl (by have:=HJM.out;omega),by simp,by rw [ev],Lib.hid ⟨fun x hx=>by
      rcases Nat.lt_succ_iff_lt_or_eq.1 hx with h | h
      ·exact HJ1.out x h
      ·rw [h];exact hjp,HJ2.out⟩⟩,by have:=HJM.out;simp [intOf];omega⟩)
     go_loopw [10,11,12,38] (fun mo no th c w8=>∃ q:Nat,q ≤ N ∧ c = .int .i64 q ∧ mo = .int .i64 (mostW j (ps.take q):Int) ∧ no = .int .i64 (nowW j (ps.take q):Int) ∧ th = .bool (decide (j ∈ ps.take q)) ∧ Hid (w8 = W)) (fun _ _ _ c _=>N - (intOf c).toNat)
     case atStart=>exact ⟨0,by omega,rfl,rfl,rfl,rfl,Lib.hid rfl⟩
     case round =>
      obtain ⟨q,hq,rfl,rfl,rfl,rfl,HW⟩:=hrel
      have hml:nowW j (ps.take q) ≤ q:=by have:=now_le_len j (ps.take q);rw [List.length_take] at this;omega
      have hmo:mostW j (ps.take q) ≤ q:=by have:=(most_more j [] (ps.take q)).2;simp only [List.nil_append,List.length_take] at this;have h0:mostW j [] = 0:=rfl;omega
      by_cases hqN:q < N
      ·have hqp:q < ps.length:=by rw [HN.out];exact hqN
       obtain ⟨b,off,rfl,hc⟩:=HC.out q _ (uvs_at ps q hqp)
       have hs1:ps.take (q + 1) = ps.take q ++ [ps[q]]:=List.take_succ_eq_append_getElem hqp
       have hyu:=HPU.out _ (List.getElem_mem hqp)
       rw [← HW.out] at hc
       generalize ps[q] = y at hc hs1 hyu
       have h1:=now_snoc j y (ps.take q)
       have h2:=most_snoc j y (ps.take q)
       have h3:(decide (j ∈ ps.take q ++ [y])) = (decide (j ∈ ps.take q) || decide (j = y)):=by simp [List.mem_append]
       rw [← hs1] at h1 h2 h3
       rw [h1] at h2
       have HS:Hid (∀ mo no:Int,∀ th:Bool,mo = (mostW j (ps.take (q + 1)):Int) → no = (nowW j (ps.take (q + 1)):Int) → th = decide (j ∈ ps.take (q + 1)) → (∃ q_1:Nat,q_1 ≤ N ∧ Value.int IntKind.i64 ((q:Int) + 1) = Value.int IntKind.i64 q_1 ∧ Value.int IntKind.i64 mo = .int .i64 (mostW j (ps.take q_1):Int) ∧ Value.int IntKind.i64 no = .int .i64 (nowW j (ps.take q_1):Int) ∧ Value.bool th = .bool (decide (j ∈ ps.take q_1)) ∧ Hid (wr = W)) ∧ N - (intOf (Value.int IntKind.i64 ((q:Int) + 1))).toNat < N - (intOf (Value.int IntKind.i64 (q:Int))).toNat):=Lib.hid (fun mo no th e1 e2 e3=>⟨⟨q + 1,by omega,by simp,by rw [e1],by rw [e2],by rw [e3],HW⟩,by simp [intOf];omega⟩)
       have H1:=Lib.hid h1;have H2:=Lib.hid h2;have H3:=Lib.hid h3
       clear h1 h2 h3 hs1
       generalize nowW j (ps.take q) = n0 at *
       generalize mostW j (ps.take q) = m0 at *
       generalize decide (j ∈ ps.take q) = t0 at *
       by_cases hy:y = j
       ·subst hy
        have e1:nowW y (ps.take (q + 1)) = 0:=by rw [H1.out,if_pos rfl]
        have e2:mostW y (ps.take (q + 1)) = m0:=by rw [H2.out,if_pos rfl];omega
        have e3:decide (y ∈ ps.take (q + 1)) = true:=by rw [H3.out];simp
        have E:=Lib.hid (And.intro e1 (And.intro e2 e3))
        clear e1 e2 e3
        go_wp2_with fail
        exact HS.out _ _ _ (by rw [E.out.2.1]) (by rw [E.out.1];rfl) (by rw [E.out.2.2])
       ·have hy2:((y:Int) == (j:Int)) = false:=by simp;omega
        have e1:nowW j (ps.take (q + 1)) = n0 + 1:=by rw [H1.out,if_neg hy]
        have e2:mostW j (ps.take (q + 1)) = max m0 (n0 + 1):=by rw [H2.out,if_neg hy]
        have e3:decide (j ∈ ps.take (q + 1)) = t0:=by rw [H3.out];simp;omega
        have E:=Lib.hid (And.intro e1 (And.intro e2 e3))
        clear e1 e2 e3
        go_wp2_with fail
        exact HS.out _ _ _ (by rw [E.out.2.1];split <;> omega) (by rw [E.out.1];rfl) (by rw [E.out.2.2])
      ·obtain rfl:q = N:=by omega
       have hqt:ps.take q = ps:=List.take_of_length_le (by rw [HN.out];exact Nat.le_refl _)
       rw [hqt] at hml hmo ⊢
       clear hqt
       have htb:topW (fun x=>mostW x ps + 1) j ≤ 2000:=topW_le fun i hi=>by
        have:=(most_more i [] ps).2;simp only [List.nil_append] at this;have h0:mostW i [] = 0:=rfl;have:=HN.out;omega
       generalize hT:topW (fun x=>mostW x ps + 1) j = T at *
       have HT:=Lib.hid hT;clear hT
       generalize hm0:mostW j ps = m0 at *
       have HM0:=Lib.hid hm0;clear hm0
       generalize nowW j ps = n0 at *
       have htop:=Lib.hid (show topW (fun x=>mostW x ps + 1) (j + 1) = max T (m0 + 1) by rw [← HT.out,← HM0.out];rfl)
       by_cases hin:j ∈ ps
       ·have hd:decide (j ∈ ps) = true:=by simpa using hin
        rw [hd]
        clear hd
        have HIN:=Lib.hid hin;clear hin
        go_wp2_with fail
        rw [HW.out]
        exact HE.out _ rfl HIN.out (if (T:Int) < (m0:Int) + 1 then (m0:Int) + 1 else (T:Int)) (by rw [htop.out];split <;> omega)
       ·have hd:decide (j ∈ ps) = false:=by simpa using hin
        rw [hd]
        have h0:rr = 0:=by rw [← Hrr.out];unfold winW;rw [if_neg (fun h=>hin (h j HJM.out))];rfl
        clear hd hin
        have H0:=Lib.hid h0;clear h0
        go_wp2_with fail
        go_ret
        exact ⟨by rw [H0.out];rfl,by rw [HW.out];exact HB.out⟩
    ·have hjM:j = M:=by have:=HM.out;omega
     have hfin:(topW (fun x=>mostW x ps + 1) j:Int) = rr:=by
      rw [← Hrr.out,hjM];unfold winW;rw [if_pos (by rw [← hjM];exact HJ.out.1)]
     have HF:=Lib.hid hfin;clear hfin hjM hj
     have hjz:decide ((j:Int) < z) = false:=by simpa using hjm
     go_wp2_with fail
     go_ret
     exact ⟨by rw [HF.out];rfl,by rw [HJ.out.2];exact HB.out⟩
end Go.Proofs.Ytklbaanpdacllaa

open Go Go.RowKit
set_option linter.unusedVariables false
namespace Go.Proofs.Ytklbaanpdacllaa
theorem info_rrec:(Try.prog.info? 41).map (fun i=>(i.zero,i.size,i.bytes)) = some (some (.agg #[.int .i64 0,.int .u64 0]),2,16):=by kernel_rfl
theorem told_any (a:Option Addr) (cap:Nat) (l:List Rec) (w:World) (hl:l.length ≤ 1000) (hat:RecsAt w a l) :
  Calls Try.prog 10 #[.slice a l.length cap] w fun e w'=>∃ a' cap',e = .returned (.slice a' l.length cap') ∧ RowG 2 w' a' cap' l.length (recCells l) ∧ (∀ x ∈ blk a',w.heap.size ≤ x) ∧ Below w.heap.size w w':=by
 obtain ⟨i0,hi,hz0,hz1,hz2⟩:=info_parts info_rrec
 have Hat:=Lib.hid hat;clear hat
 obtain ⟨m,hm⟩:∃ m,m = l.length:=⟨_,rfl⟩
 rw [← hm] at hl ⊢
 have Hm:=Lib.hid hm;clear hm
 have Hi:=Lib.hid hi;clear hi
 have Hz0:=Lib.hid hz0;clear hz0
 have Hz1:=Lib.hid hz1;clear hz1
 have Hz2:=Lib.hid hz2;clear hz2
 go_enter Try.func10,Try.ntmps10
 go_wp2_with fail
 go_loopw [3,9] (fun s c wr=>∃ k:Nat,k ≤ m ∧ c = .int .i64 k ∧ Hid (wr.ownsRow w.heap.size 41 2 s k (recCells (l.take k)) ∧ Below w.heap.size w wr)) (fun _ c _=>m - (intOf c).toNat)
 case atStart=>exact ⟨0,by omega,rfl,World.ownsRow_made w #[] 0 (Nat.le_refl _) (by decide) rfl,(Below.refl _ _).alloc (Nat.le_refl _) _⟩
 case round =>
  obtain ⟨k,hk,rfl,hr⟩:=hrel
  by_cases hlt:k < m
  ·obtain ⟨b,off,rfl,h0,h1⟩:=(Hat.out.below hr.out.2) k (by have:=Hm.out;omega)
   have hsn:=recCells_snoc l k (by have:=Hm.out;omega)
   generalize l[k]'(by have:=Hm.out;omega) = r at h0 h1 hsn
   obtain ⟨rk,rn⟩:=r
   simp only at h0 h1
   have Hsn:=Lib.hid hsn;clear hsn
   go_wp2_with (at_builtin;refine wpList_append_own _ rfl _ _ 22 rfl w.heap.size 41 i0 (.agg #[.int .i64 0,.int .u64 0]) 2 16 Try.underlying22 Hi.out Hz0.out Hz1.out Hz2.out rfl (by decide) _ _ _ rfl ((hr.out.1.alloc _).alloc _) ⟨wr.heap.size + 1,0,none⟩ 1 1 [.int .i64 rk,.int .u64 (rn:Int)] rfl rfl ?c1 ?c2 ?c3 ?c4 ?c5 ?_)
   case c2=>exact ⟨rfl,rfl⟩
   case c3=>unfold maxLen;omega
   case c4=>omega
   case c5=>have:=hr.out.2.size;simp;omega
   intro v' w1 hown' hgrow _
   have hrel:w1.ownsRow w.heap.size 41 2 v' (k + 1) (recCells (l.take (k + 1))) ∧ Below w.heap.size w w1:=by
    rw [Hsn.out]
    refine ⟨hown',(((hr.out.2.alloc hr.out.2.size _).alloc (by have:=hr.out.2.size;simp;omega) _).grown hgrow (by have:=hr.out.2.size;simp;omega) (fun q hq=>(hr.out.1.lt q hq).1))⟩
   have Hrel:=Lib.hid hrel;clear hrel hown' hgrow
   go_wp2
   exact ⟨⟨k + 1,by omega,by go_num,Hrel⟩,by simp [intOf];omega⟩
  ·have hkm:k = m:=by omega
   have hall:l.take k = l:=by rw [hkm,Hm.out,List.take_length]
   rw [hall,hkm] at hr
   clear hall hkm
   obtain ⟨hown,hbel⟩:=hr.out
   obtain ⟨g,cp,rfl,hc1,hc2⟩:=RowG.of_own hown
   have Hend:=Lib.hid (And.intro hc1 (And.intro hc2 hbel))
   clear hown hbel hc1 hc2 hr
   go_wp2
   go_ret
   exact ⟨g,cp,rfl,Hend.out⟩
theorem info_rec:(Try.prog.info? 30).map (fun i=>(i.zero,i.size,i.bytes)) = some (some (.agg #[.int .i64 0,.int .u64 0]),2,16):=by kernel_rfl

def someR (r:Rec):Rec:=(1 + r.1 % 256 % 4,r.2 % 4611686018427387904)
def someL (l:List Rec):List Rec:=(l.take 40).map someR
theorem someR_ok (r:Rec):Rec.ok (someR r):=by unfold someR Rec.ok;simp only;omega
theorem someL_ok (l:List Rec):∀ r ∈ someL l,Rec.ok r:=by
 intro r hr;unfold someL at hr;rw [List.mem_map] at hr;obtain ⟨x,_,rfl⟩:=hr;exact someR_ok x
theorem someL_len (l:List Rec):(someL l).length ≤ 40:=by unfold someL;simp;omega
theorem and_255s (k:Int):bits BinOp.and IntKind.i64 k 255 = k % 256:=by
 show IntKind.i64.wrap (((BitVec.ofInt 64 k) &&& (BitVec.ofInt 64 255)).toNat:Int) = k % 256
 have e:(BitVec.ofInt 64 255).toNat = 255:=by decide
 rw [BitVec.toNat_and,e,nat_mask8,IntKind.wrap_i64,BitVec.toNat_ofInt];omega
theorem and_most (n:Nat) (h:n < 18446744073709551616):bits BinOp.and IntKind.u64 (n:Int) 4611686018427387903 = ((n % 4611686018427387904:Nat):Int):=by
 have:=u64_and_nat n 4611686018427387903 h (by omega)
 rw [show ((4611686018427387903:Nat):Int) = 4611686018427387903 from rfl] at this
 rw [this];congr 1;exact Nat.and_two_pow_sub_one_eq_mod n 62
theorem some_snoc (l:List Rec) (k:Nat) (h:k < l.length) (hk:k < 40):someL (l.take (k + 1)) = someL (l.take k) ++ [someR l[k]]:=by
 unfold someL
 rw [List.take_take,List.take_take,show min 40 (k + 1) = k + 1 by omega,show min 40 k = k by omega,List.take_succ_eq_append_getElem h];simp only [List.map_append,List.map_cons,List.map_nil]
theorem some_own (a:Option Addr) (cap:Nat) (l:List Rec) (w:World) (hl:l.length ≤ maxLen) (hat:RecsAt w a l) (hu:∀ r ∈ l,r.2 < 18446744073709551616) :
  Calls Try.prog 6 #[.slice a l.length cap] w fun e w'=>∃ a' cap',e = .returned (.slice a' (someL l).length cap') ∧ w'.ownsRow w.heap.size 30 2 (.slice a' (someL l).length cap') (someL l).length (recCells (someL l)) ∧ Below w.heap.size w w':=by
 obtain ⟨i0,hi,hz0,hz1,hz2⟩:=info_parts info_rec
 have Hi:=Lib.hid hi;clear hi
 have Hz0:=Lib.hid hz0;clear hz0
 have Hz1:=Lib.hid hz1;clear hz1
 have Hz2:=Lib.hid hz2;clear hz2
 have Hat:=Lib.hid hat;clear hat
 have Hu:=Lib.hid hu;clear hu
 obtain ⟨m,hm⟩:∃ m,m = l.length:=⟨_,rfl⟩
 rw [← hm] at hl ⊢
 have Hm:=Lib.hid hm;clear hm
 unfold maxLen at hl
 go_enter Try.func6,Try.ntmps6
 go_wp2_with fail
 go_loopw [3,4] (fun v c wr=>∃ k:Nat,k ≤ m ∧ k ≤ 40 ∧ c = .int .i64 k ∧ Hid (wr.ownsRow w.heap.size 30 2 v k (recCells (someL (l.take k))) ∧ Below w.heap.size w wr)) (fun _ c _=>40 - (intOf c).toNat)
 case atStart=>exact ⟨0,by omega,by omega,rfl,World.ownsRow_made w #[] 0 (Nat.le_refl _) (by decide) rfl,(Below.refl _ _).alloc (Nat.le_refl _) _⟩
 case round =>
  obtain ⟨k,hk,hk40,rfl,hr⟩:=hrel
  by_cases hlt:k < m ∧ k < 40
  ·obtain ⟨hlt1,hlt2⟩:=hlt
   obtain ⟨b,off,rfl,h0',h1'⟩:=Hat.out k (by have:=Hm.out;omega)
   have hbl:b < w.heap.size:=World.block_lt_of_cell? w _ h0'
   have hsn:=some_snoc l k (by have:=Hm.out;omega) hlt2
   have hub:=Hu.out _ (List.getElem_mem (by have:=Hm.out;omega:k < l.length))
   generalize l[k]'(by have:=Hm.out;omega) = r at h0' h1' hsn hub
   obtain ⟨rk,rn⟩:=r
   simp only at h0' h1' hub
   have hS:∀ w',Below w.heap.size w w' → (w'.cell? ⟨b,off + k * 2,none⟩ = some (.int .i64 rk) ∧ w'.cell? ⟨b,off + k * 2 + 1,none⟩ = some (.int .u64 (rn:Int)) ∧ Below w.heap.size w w'):=fun w' hb =>
    ⟨by rw [hb.cell (p:=⟨b,off + k * 2,none⟩) hbl];exact h0',by rw [hb.cell (p:=⟨b,off + k * 2 + 1,none⟩) hbl];exact h1',hb⟩
   have HS:=Lib.hid hS;clear hS h0' h1'
   have Hsn:=Lib.hid hsn;clear hsn
   have hX:1 + (bits BinOp.and IntKind.i64 rk 255).tmod 4 = (someR (rk,rn)).1:=by rw [and_255s,Int.tmod_eq_emod_of_nonneg (by omega)];rfl
   have hY:bits BinOp.and IntKind.u64 (rn:Int) 4611686018427387903 = ((someR (rk,rn)).2:Int):=and_most rn hub
   have hW:IntKind.i64.wrap (someR (rk,rn)).1 = (someR (rk,rn)).1:=by have:=someR_ok (rk,rn);obtain ⟨p1,p2,_⟩:=this;rw [IntKind.wrap_i64];omega
   have hB:=hr.out.2.size
   go_wp2_with fail
   go_region_held3 (fun w'=>w'.cell? ⟨b,off + k * 2,none⟩ = some (.int .i64 rk) ∧ w'.cell? ⟨b,off + k * 2 + 1,none⟩ = some (.int .u64 (rn:Int)) ∧ Below w.heap.size w w')
    (first | exact HS.out _ hr.out.2 | exact HS.out _ hr.out.2.drew | exact HS.out _ ((hr.out.2.alloc hr.out.2.size _).drew) | exact HS.out _ (((hr.out.2.alloc hr.out.2.size _).drew).grown hgrow (by simp;omega) (fun q hq=>(hr.out.1.lt q hq).1)))
    ((refine step_append_lies _ (by rfl) _ _ _ (by rfl) w.heap.size 30 i0 _ 2 16 Try.underlying26 Hi.out Hz0.out Hz1.out Hz2.out rfl (by omega) _ _ _ (by rfl) ((hr.out.1.alloc _).drew) ⟨wr.heap.size,0,none⟩ 1 1 _ (by rfl) (by rfl) (World.news_of_block (cs:=#[_,_]) (t:=30) (fr:=(0,0)) (heap_alloc_new wr _)) (by simp [Value.oneCell']) (by omega) (by unfold maxLen;omega) (by omega) (by simp;omega) (wr.heap.size + 1) (by simp) ?_;intro g cp w1 hown1 hgrow hg hgl))
   have hrel:w1.ownsRow w.heap.size 30 2 (.slice (some ⟨g,0,none⟩) (k + 1) cp) (k + 1) (recCells (someL (l.take (k + 1)))) ∧ Below w.heap.size w w1:=by
    rw [Hsn.out,recCells_app]
    exact ⟨hown1,(by assumption:_ ∧ _ ∧ Below w.heap.size w w1).2.2⟩
   have Hrel:=Lib.hid hrel
   clear hrel hown1 hgrow hg hX hY hW
   go_wp2
   exact ⟨⟨k + 1,by omega,by omega,by go_num,Hrel⟩,by simp [intOf];omega⟩
  ·have hlen:(someL (l.take k)) = someL l ∧ k = (someL l).length:=by
    have:=Hm.out
    unfold someL
    rw [List.take_take]
    by_cases h40:k < 40
    ·rw [show min 40 k = m by omega,this,List.take_length,List.take_of_length_le (by omega)];simp;omega
    ·rw [show min 40 k = 40 by omega];simp;omega
   have hown:=hr.out.1
   have hbel:=hr.out.2
   have hdec:¬ ((k:Int) < m ∧ (k:Int) < 40):=by omega
   rw [hlen.1] at hown
   have hk2:=hlen.2
   clear hlen
   rw [hk2] at hown
   obtain ⟨g,cp,rfl,hc1,hc2,hc3⟩:=RecsAt.of_own hown
   have Hend:=Lib.hid (And.intro hown hbel)
   clear hown hbel hc1 hc2 hc3 hr hk2
   by_cases h1:k < m
   ·have h2:¬ k < 40:=by omega
    clear hdec hlt
    go_wp2
    go_ret
    exact ⟨g,cp,rfl,Hend.out⟩
   ·clear hdec hlt
    go_wp2
    go_ret
    exact ⟨g,cp,rfl,Hend.out⟩
theorem and_255 (k:Int):bits BinOp.and IntKind.i64 k 255 = k % 256:=by
 show IntKind.i64.wrap (((BitVec.ofInt 64 k) &&& (BitVec.ofInt 64 255)).toNat:Int) = k % 256
 have e:(BitVec.ofInt 64 255).toNat = 255:=by decide
 rw [BitVec.toNat_and,e,show (255:Nat) = 2 ^ 8 - 1 from rfl,Nat.and_two_pow_sub_one_eq_mod,IntKind.wrap_i64,BitVec.toNat_ofInt];omega
theorem small_of (x:Int) (m:Nat) (hm:0 < m):∃ n:Nat,(bits BinOp.and IntKind.i64 x 255).tmod (m:Int) = (n:Int) ∧ n < m ∧ n ≤ 255:=by
 rw [and_255]
 obtain ⟨k,hk⟩:∃ k:Nat,x % 256 = (k:Int):=⟨(x % 256).toNat,by omega⟩
 have h1:=Nat.mod_lt k hm
 have h2:=Nat.mod_le k m
 exact ⟨k % m,by rw [hk,Int.tmod_eq_emod_of_nonneg (by omega)];rfl,h1,by omega⟩
section
variable {P:Program} {ops:Array Oper} {Q:Exit → Act → World → Prop} {S:World → Prop} {md:Region.Mode}
def endsB (md:Region.Mode) (ops:Array Oper) (i:Nat):Bool:=(List.range ops.size).all fun j=>j == i || (match ops[i]? with
 | some o=>o.after.any fun e=>Region.binds md e && e.on == j
 | none=>false)
def wpAnyZ (P:Program) (md:Region.Mode) (ops:Array Oper) (Q:Exit → Act → World → Prop) (S:World → Prop):Nat → Array Bool → Act → World → Prop
 | 0,listed,a,w=>Region.ready md ops listed = [] ∧ Q .normal a w
 | fuel + 1,listed,a,w =>
  (Region.ready md ops listed = [] → Q .normal a w) ∧
  ∀ i ∈ Region.ready md ops listed,wpOp P ops Q i (fun a' w'=>(endsB md ops i = true ∨ S w') ∧ wpAnyZ P md ops Q S fuel (listed.setIfInBounds i true) a' w') a w
theorem wpAny_of_z:∀ (fuel:Nat) (listed:Array Bool) (a:Act) (w:World),wpAnyZ P md ops Q S fuel listed a w → wpAny P md ops Q fuel listed a w
 | 0,_,_,_,h=>h
 | fuel + 1,_,_,_,h=>⟨h.1,fun i hi=>wpOp_mono (fun a' w' h'=>wpAny_of_z fuel _ a' w' h'.2) (h.2 i hi)⟩
theorem endsB_not {i j:Nat} {listed:Array Bool} (hj:j ∈ Region.ready md ops listed) (hi:i ∈ Region.ready md ops listed) (hne:j ≠ i) (hil:i < ops.size) (he:endsB md ops j = true):False:=by
 obtain ⟨_,oj,hoj,hall⟩:=mem_ready.1 hj
 unfold endsB at he
 rw [List.all_eq_true] at he
 have h1:=he i (List.mem_range.2 hil)
 rw [hoj,Bool.or_eq_true] at h1
 rcases h1 with h1 | h1
 ·exact hne (by simpa using Eq.symm (by simpa using h1))
 ·obtain ⟨e,he1,he2⟩:=Array.any_eq_true'.1 h1
  rw [Bool.and_eq_true] at he2
  have h2:=hall e he1 he2.1
  have h3:e.on = i:=by simpa using he2.2
  rw [h3] at h2
  have h0:=(mem_ready.1 hi).1
  rcases Nat.lt_or_ge i listed.size with h' | h'
  ·simp [h'] at h0 h2;rw [h0] at h2;cases h2
  ·simp [Array.getElem?_eq_none h'] at h2
theorem wpAnyZ_first {i:Nat} {oi:Oper} {v:Value} (hi:ops[i]? = some oi) (hsel:∀ (j:Nat) (o:Oper) cs b,ops[j]? = some o → o.op ≠ .select cs b)
  (hQ:∀ c a w,Q (.panic c) (a.put oi.dst v) w → Q (.panic c) a w) :
  ∀ (fuel:Nat) (listed:Array Bool) (a:Act) (w:World),
   (∀ j oj,ops[j]? = some oj → j ≠ i → listed.getD j true = false → (∀ e ∈ oj.after,Region.binds md e = true → e.on ≠ i) → oi.apart ops oj = true) →
   i ∈ Region.ready md ops listed → YieldsIf P ops S oi v a → S w →
   wpAnyZ P md ops Q S fuel (listed.setIfInBounds i true) (a.put oi.dst v) w → wpAnyZ P md ops Q S (fuel + 1) listed a w
 | 0,listed,a,w,_,hr,hy,hS,H=>by
  refine ⟨fun h=>(by rw [h] at hr;cases hr),fun j hj=>?_⟩
  by_cases hji:j = i
  ·subst hji;exact hy.wpOp hi hS ⟨.inr hS,H⟩
  ·have:=ready_mono hj hji
   rw [H.1] at this
   cases this
 | fuel + 1,listed,a,w,hfree,hr,hy,hS,H=>by
  refine ⟨fun h=>(by rw [h] at hr;cases hr),fun j hj=>?_⟩
  by_cases hji:j = i
  ·subst hji;exact hy.wpOp hi hS ⟨.inr hS,H⟩
  ·have h1:=H.2 j (ready_mono hj hji)
   obtain ⟨hjun,oj,hoj,hall⟩:=mem_ready.1 hj
   have hil:i < ops.size:=(Array.getElem?_eq_some_iff.1 hi).1
   have hnot:∀ e ∈ oj.after,Region.binds md e = true → e.on ≠ i:=fun e he hb heq=>by
    have h2:=hall e he hb
    have h0:=(mem_ready.1 hr).1
    rw [heq] at h2
    rcases Nat.lt_or_ge i listed.size with h' | h'
    ·simp [h'] at h0 h2;rw [h0] at h2;cases h2
    ·simp [Array.getElem?_eq_none h'] at h2
   refine wpOp_mono (fun a' w' h3=>?_) (wpOp_putIf hoj (hfree j oj hoj hji hjun hnot) (fun cs b=>hsel i oi cs b hi) (fun cs b=>hsel j oj cs b hoj) hQ hy h1)
   have hS':S w':=by
    rcases h3.2.1 with h4 | h4
    ·exact (endsB_not hj hr hji hil h4).elim
    ·exact h4
   refine ⟨.inr hS',wpAnyZ_first hi hsel hQ fuel (listed.setIfInBounds j true) a' w' (fun k ok hk hki hun hno=>hfree k ok hk hki ?_ hno) (ready_mono hr (Ne.symm hji)) h3.1 hS' ?_⟩
   ·by_cases hjk:j = k
    ·subst hjk;exact hjun
    ·rw [getD_set_ne true hjk] at hun;exact hun
   ·rw [Array.setIfInBounds_comm _ _ hji]
    exact h3.2.2
theorem wpAnyZ_segs (hs:Region.noSelect ops = true) (hQ:∀ (d:Option Tmp) (v:Value) c a w,Q (.panic c) (a.put d v) w → Q (.panic c) a w) (fuel:Nat) (w:World) (hS:S w) :
  ∀ (l:List Oper) (k:Nat) (listed:Array Bool) (a:Act),(∀ j,j < l.length → l[j]? = ops[k + j]?) → segB ops l.length k listed = true →
   wpSegH P ops S (fun a'=>wpAnyZ P .any ops Q S fuel (marks l.length k listed) a' w) l a → wpAnyZ P .any ops Q S (l.length + fuel) listed a w
 | [],k,listed,a,_,_,h=>by rw [List.length_nil,Nat.zero_add];exact h
 | o :: l,k,listed,a,hl,hB,h=>by
  have h0:ops[k]? = some o:=by simpa using (hl 0 (by simp)).symm
  simp only [List.length_cons,segB,Bool.and_eq_true] at hB
  obtain ⟨⟨hr,hf⟩,hB⟩:=hB
  have hl':∀ j,j < l.length → l[j]? = ops[k + 1 + j]?:=fun j hj=>by have:=hl (j + 1) (by simp;omega);simpa [Nat.add_assoc,Nat.add_comm 1 j] using this
  rw [List.length_cons,show l.length + 1 + fuel = (l.length + fuel) + 1 by omega]
  have hr':k ∈ Region.ready .any ops listed:=by simpa using hr
  rcases h with ⟨hw,v,hv,h⟩ | ⟨hw,h⟩
  ·exact wpAnyZ_first h0 (Region.noSelect_spec hs) (fun c a w=>hQ o.dst v c a w) _ listed a w (Region.free_spec h0 hf) hr' (.inl ⟨hw,hv⟩) hS (wpAnyZ_segs hs hQ fuel w hS l (k + 1) _ _ hl' hB h)
  ·exact wpAnyZ_first h0 (Region.noSelect_spec hs) (fun c a w=>hQ o.dst undef c a w) _ listed a w (Region.free_spec h0 hf) hr' (.inr ⟨hw,rfl⟩) hS (wpAnyZ_segs hs hQ fuel w hS l (k + 1) _ _ hl' hB h)
theorem wpAnyZ_seg {l:List Oper} (k n:Nat) (listed listed':Array Bool) (fuel:Nat) {a:Act} {w:World} (hs:Region.noSelect l.toArray = true) (hQ:∀ (d:Option Tmp) (v:Value) c a w,Q (.panic c) (a.put d v) w → Q (.panic c) a w) (hS:S w)
  (hB:(segB l.toArray n k listed && decide (k + n ≤ l.length) && (marks n k listed == listed')) = true) (h:wpSegH P l.toArray S (fun a'=>wpAnyZ P .any l.toArray Q S fuel listed' a' w) ((l.drop k).take n) a):wpAnyZ P .any l.toArray Q S (n + fuel) listed a w:=by
 simp only [Bool.and_eq_true,decide_eq_true_eq,beq_iff_eq] at hB
 obtain ⟨⟨hB,hn⟩,rfl⟩:=hB
 have hln:((l.drop k).take n).length = n:=by rw [List.length_take,List.length_drop];omega
 have:=wpAnyZ_segs (P:=P) (Q:=Q) (S:=S) hs hQ fuel w hS ((l.drop k).take n) k listed a (fun j hj=>by
  rw [hln] at hj
  rw [List.getElem?_take,if_pos hj,List.getElem?_drop];simp) (by rw [hln];exact hB) (by rw [hln];exact h)
 rwa [hln] at this
theorem headZ {l:List Oper} {i:Nat} {a:Act} {w:World} {K:Act → World → Prop} (h1:headH P l.toArray Q K a w (l.drop i)):wpOp P l.toArray Q i K a w:=by
 cases hd:l.drop i with
 | nil=>rw [hd] at h1;exact h1.elim
 | cons o r =>
  rw [hd] at h1
  have h0:l.toArray[i]? = some o:=by
   have:(l.drop i)[0]? = some o:=by rw [hd];rfl
   rw [List.getElem?_drop] at this
   simpa using this
  unfold wpOp
  simp only [h0]
  rw [if_pos h1.1]
  exact .inl h1.2
theorem wpAnyZ_one {l:List Oper} (k:Nat) (listed listed':Array Bool) (fuel:Nat) {a:Act} {w:World} (hB:(decide (Region.ready .any l.toArray listed = [k]) && (listed.setIfInBounds k true == listed')) = true)
  (h:∀ K:Act → World → Prop,(∀ a' w',S w' → wpAnyZ P .any l.toArray Q S fuel listed' a' w' → K a' w') → headH P l.toArray Q K a w (l.drop k)):wpAnyZ P .any l.toArray Q S (fuel + 1) listed a w:=by
 simp only [Bool.and_eq_true,decide_eq_true_eq,beq_iff_eq] at hB
 obtain ⟨hr,rfl⟩:=hB
 refine ⟨fun h0=>(by rw [hr] at h0;cases h0),fun i hi=>?_⟩
 rw [hr] at hi
 have hik:i = k:=by simpa using hi
 subst hik
 exact headZ (h _ (fun a' w' h2 h3=>⟨.inr h2,h3⟩))
theorem wpAnyZ_end {l:List Oper} (k:Nat) (listed listed':Array Bool) {a:Act} {w:World} (hB:(decide (Region.ready .any l.toArray listed = [k]) && (listed.setIfInBounds k true == listed') && endsB .any l.toArray k && decide (Region.ready .any l.toArray listed' = [])) = true)
  (h:∀ K:Act → World → Prop,(∀ a' w',Q .normal a' w' → K a' w') → headH P l.toArray Q K a w (l.drop k)):wpAnyZ P .any l.toArray Q S (0 + 1) listed a w:=by
 simp only [Bool.and_eq_true,decide_eq_true_eq,beq_iff_eq] at hB
 obtain ⟨⟨⟨hr,rfl⟩,he⟩,h0⟩:=hB
 refine ⟨fun h0=>(by rw [hr] at h0;cases h0),fun i hi=>?_⟩
 rw [hr] at hi
 have hik:i = k:=by simpa using hi
 subst hik
 exact headZ (h _ (fun a' w' h3=>⟨.inl he,h0,h3⟩))
theorem wp_region_lexZ {id:Nat} {a:Act} {w:World} {l:List Oper} (S:World → Prop) (fuel:Nat) (listed:Array Bool) (hm:P.follows .mixedOrders = true) (hB:(decide (l.length = fuel) && (Array.replicate l.length false == listed)) = true)
  (h:wpAnyZ P .any l.toArray (NoPanic Q) S fuel listed a w.drew):(Code.region id l.toArray true).wp P Q a w:=by
 simp only [Bool.and_eq_true,decide_eq_true_eq,beq_iff_eq] at hB
 obtain ⟨rfl,rfl⟩:=hB
 exact wp_region_noPanic (wp_region_any hm (wpAny_of_z _ _ _ _ (by simpa using h)))
end
end Go.Proofs.Ytklbaanpdacllaa
open Go Go.RowKit
set_option linter.unusedVariables false
namespace Go.Proofs.Ytklbaanpdacllaa
theorem some1_any (w:World) (x:Int) (m n:Nat) (hm:0 < m) (hm2:m ≤ 1000) (hn:(bits BinOp.and IntKind.i64 x 255).tmod (m:Int) = (n:Int)) (hn2:n ≤ 255) :
  Calls Try.prog 13 #[.int .i64 x,.int .i64 (m:Int)] w fun r w'=>r = .returned (.int .i64 (n:Int)) ∧ w' = w:=by
 have hz:(m:Int) ≠ 0:=by omega
 have hw:IntKind.i64.wrap (n:Int) = n:=by rw [IntKind.wrap_i64];omega
 go_enter Try.func13,Try.ntmps13
 go_wp2
 go_ret
 exact ⟨rfl,rfl⟩
def SmC (x:Int) (m n:Nat):Prop:=0 < m ∧ m ≤ 1000 ∧ (bits BinOp.and IntKind.i64 x 255).tmod (m:Int) = (n:Int) ∧ n < m ∧ n ≤ 255
theorem smC_any {x:Int} {m n:Nat} (h:SmC x m n) (w:World):Calls Try.prog 13 #[.int .i64 x,.int .i64 (m:Int)] w fun r w'=>r = .returned (.int .i64 (n:Int)) ∧ w' = w :=
 some1_any w x m n h.1 h.2.1 h.2.2.1 h.2.2.2.2
theorem smC_of (x:Int) (m:Nat) (hm:0 < m) (hm2:m ≤ 1000):∃ n,SmC x m n:=by
 obtain ⟨n,h1,h2,h3⟩:=small_of x m hm
 exact ⟨n,hm,hm2,h1,h2,h3⟩
theorem cfg_get {w:World} {q:Nat} {a b c d:Int} (e0:w.cell? ⟨q,0,none⟩ = some (.int .i64 a)) (e1:w.cell? ⟨q,1,none⟩ = some (.int .i64 b)) (e2:w.cell? ⟨q,2,none⟩ = some (.int .i64 c)) (e3:w.cell? ⟨q,3,none⟩ = some (.int .i64 d)) :
  (loadVar 24 ⟨q,0,none⟩).run Try.prog w = .ok (.agg #[.int .i64 a,.int .i64 b,.int .i64 c,.int .i64 d]) w:=by
 simp [go_sem,e0,e1,e2,e3]
theorem some18_any (w:World) (p m r s:Int) (a b c d:Nat) (ha:SmC p 5 a) (hb:SmC m 5 b) (hc:SmC r 5 c) (hd:SmC s 12 d) :
  Calls Try.prog 7 #[.agg #[.int .i64 p,.int .i64 m,.int .i64 r,.int .i64 s]] w fun e w' =>
   e = .returned (.agg #[.int .i64 (1 + (a:Int)),.int .i64 (1 + (b:Int)),.int .i64 (2 + (c:Int)),.int .i64 (1 + (d:Int))]) ∧ Below w.heap.size w w':=by
 have a5:=ha.2.2.2.1
 have b5:=hb.2.2.2.1
 have c5:=hc.2.2.2.1
 have d5:=hd.2.2.2.1
 have ka:=Lib.hid (smC_any ha)
 have kb:=Lib.hid (smC_any hb)
 have kc:=Lib.hid (smC_any hc)
 have kd:=Lib.hid (smC_any hd)
 clear ha hb hc hd
 go_enter Try.func7,Try.ntmps7
 go_upto_region 2 with fail
 have o0:Own w ((w.alloc (.cells #[.int .i64 p,.int .i64 m,.int .i64 r,.int .i64 s] 24)).alloc (.cells #[.int .i64 0,.int .i64 0,.int .i64 0,.int .i64 0] 24))
   [CelA (w.heap.size + 1) [.int .i64 0,.int .i64 0,.int .i64 0,.int .i64 0],CelA w.heap.size [.int .i64 p,.int .i64 m,.int .i64 r,.int .i64 s]]:=by
  have h:=((Own.nil (Below.refl _ w)).alloc [.int .i64 p,.int .i64 m,.int .i64 r,.int .i64 s] 24 (b:=w.heap.size) rfl).alloc [.int .i64 0,.int .i64 0,.int .i64 0,.int .i64 0] 24 (b:=w.heap.size + 1) (by simp)
  exact h
 generalize ((w.alloc (.cells #[.int .i64 p,.int .i64 m,.int .i64 r,.int .i64 s] 24)).alloc (.cells #[.int .i64 0,.int .i64 0,.int .i64 0,.int .i64 0] 24)) = w1 at *
 generalize w.heap.size + 1 = q1 at *
 generalize hq:w.heap.size = q at *
 have HQ:=Lib.hid hq
 clear hq
 have o1:=o0.step (below_drew1 w1)
 clear o0
 have SB:Hid (∀ wx:World,Own w wx [CelA q1 [.int .i64 0,.int .i64 0,.int .i64 0,.int .i64 0],CelA q [.int .i64 p,.int .i64 m,.int .i64 r,.int .i64 s]] → wx.cell? ⟨q,0,none⟩ = some (.int .i64 p) ∧ wx.cell? ⟨q,1,none⟩ = some (.int .i64 m) ∧ wx.cell? ⟨q,2,none⟩ = some (.int .i64 r) ∧ wx.cell? ⟨q,3,none⟩ = some (.int .i64 s)) :=
  Lib.hid (fun wx h=>⟨(h.cel 1 rfl 0 _ rfl).1,(h.cel 1 rfl 1 _ rfl).1,(h.cel 1 rfl 2 _ rfl).1,(h.cel 1 rfl 3 _ rfl).1⟩)
 refine wp_region_lexZ (fun wx=>wx.cell? ⟨q,0,none⟩ = some (.int .i64 p) ∧ wx.cell? ⟨q,1,none⟩ = some (.int .i64 m) ∧ wx.cell? ⟨q,2,none⟩ = some (.int .i64 r) ∧ wx.cell? ⟨q,3,none⟩ = some (.int .i64 s)) 22 (Array.replicate 22 false) (by kernel_rfl) (by kernel_rfl) ?_
 generalize w1.drew = w2 at *
 refine wpAnyZ_seg 0 3 _ #[true,true,true,false,false,false,false,false,false,false,false,false,false,false,false,false,false,false,false,false,false,false] 19 (by kernel_rfl) noPanic_put (SB.out _ o1) (by kernel_rfl) ?_
 simp only [List.take_succ_cons,List.take_zero,List.drop_zero]
 repeat ((first | refine wpSegH_no (by rfl) ?_ | (refine wpSegH_yes (by rfl) ?_;apply Exists.intro;apply And.intro;(· (intro wx hS;(try dsimp only at hS);go_simp;first | done | with_reducible rfl))));simp only [Act.put,List.setIfInBounds_toArray,List.set_cons_zero,List.set_cons_succ])
 refine wpSegH_nil ?_
 refine wpAnyZ_seg 5 3 _ #[true,true,true,false,false,true,true,true,false,false,false,false,false,false,false,false,false,false,false,false,false,false] 16 (by kernel_rfl) noPanic_put (SB.out _ o1) (by kernel_rfl) ?_
 simp only [List.take_succ_cons,List.take_zero,List.drop_succ_cons,List.drop_zero]
 repeat ((first | refine wpSegH_no (by rfl) ?_ | (refine wpSegH_yes (by rfl) ?_;apply Exists.intro;apply And.intro;(· (intro wx hS;(try dsimp only at hS);go_simp;first | done | with_reducible rfl))));simp only [Act.put,List.setIfInBounds_toArray,List.set_cons_zero,List.set_cons_succ])
 refine wpSegH_nil ?_
 refine wpAnyZ_seg 10 3 _ #[true,true,true,false,false,true,true,true,false,false,true,true,true,false,false,false,false,false,false,false,false,false] 13 (by kernel_rfl) noPanic_put (SB.out _ o1) (by kernel_rfl) ?_
 simp only [List.take_succ_cons,List.take_zero,List.drop_succ_cons,List.drop_zero]
 repeat ((first | refine wpSegH_no (by rfl) ?_ | (refine wpSegH_yes (by rfl) ?_;apply Exists.intro;apply And.intro;(· (intro wx hS;(try dsimp only at hS);go_simp;first | done | with_reducible rfl))));simp only [Act.put,List.setIfInBounds_toArray,List.set_cons_zero,List.set_cons_succ])
 refine wpSegH_nil ?_
 refine wpAnyZ_seg 15 3 _ #[true,true,true,false,false,true,true,true,false,false,true,true,true,false,false,true,true,true,false,false,false,false] 10 (by kernel_rfl) noPanic_put (SB.out _ o1) (by kernel_rfl) ?_
 simp only [List.take_succ_cons,List.take_zero,List.drop_succ_cons,List.drop_zero]
 repeat ((first | refine wpSegH_no (by rfl) ?_ | (refine wpSegH_yes (by rfl) ?_;apply Exists.intro;apply And.intro;(· (intro wx hS;(try dsimp only at hS);go_simp;first | done | with_reducible rfl))));simp only [Act.put,List.setIfInBounds_toArray,List.set_cons_zero,List.set_cons_succ])
 refine wpSegH_nil ?_
 refine wpAnyZ_one 3 _ #[true,true,true,true,false,true,true,true,false,false,true,true,true,false,false,true,true,true,false,false,false,false] 9 (by kernel_rfl) (fun K hK=>?_)
 have HKK:=Lib.hid hK
 clear hK
 simp only [List.drop_succ_cons,List.drop_zero]
 refine headH_mk (by rfl) ?_
 go_simp
 refine (ka.out _).mono ?_
 rintro e w3 ⟨rfl,rfl⟩
 refine HKK.out _ _ (SB.out _ o1) ?_
 clear HKK K
 refine wpAnyZ_seg 4 1 _ #[true,true,true,true,true,true,true,true,false,false,true,true,true,false,false,true,true,true,false,false,false,false] 8 (by kernel_rfl) noPanic_put (SB.out _ o1) (by kernel_rfl) ?_
 simp only [List.take_succ_cons,List.take_zero,List.drop_succ_cons,List.drop_zero]
 repeat ((first | refine wpSegH_no (by rfl) ?_ | (refine wpSegH_yes (by rfl) ?_;apply Exists.intro;apply And.intro;(· (intro wx hS;(try dsimp only at hS);go_simp;first | done | with_reducible rfl))));simp only [Act.put,List.setIfInBounds_toArray,List.set_cons_zero,List.set_cons_succ])
 refine wpSegH_nil ?_
 refine wpAnyZ_one 8 _ #[true,true,true,true,true,true,true,true,true,false,true,true,true,false,false,true,true,true,false,false,false,false] 7 (by kernel_rfl) (fun K hK=>?_)
 have HKK:=Lib.hid hK
 clear hK
 simp only [List.drop_succ_cons,List.drop_zero]
 refine headH_mk (by rfl) ?_
 go_simp
 refine (kb.out _).mono ?_
 rintro e w3 ⟨rfl,rfl⟩
 refine HKK.out _ _ (SB.out _ o1) ?_
 clear HKK K
 refine wpAnyZ_seg 9 1 _ #[true,true,true,true,true,true,true,true,true,true,true,true,true,false,false,true,true,true,false,false,false,false] 6 (by kernel_rfl) noPanic_put (SB.out _ o1) (by kernel_rfl) ?_
 simp only [List.take_succ_cons,List.take_zero,List.drop_succ_cons,List.drop_zero]
 repeat ((first | refine wpSegH_no (by rfl) ?_ | (refine wpSegH_yes (by rfl) ?_;apply Exists.intro;apply And.intro;(· (intro wx hS;(try dsimp only at hS);go_simp;first | done | with_reducible rfl))));simp only [Act.put,List.setIfInBounds_toArray,List.set_cons_zero,List.set_cons_succ])
 refine wpSegH_nil ?_
 refine wpAnyZ_one 13 _ #[true,true,true,true,true,true,true,true,true,true,true,true,true,true,false,true,true,true,false,false,false,false] 5 (by kernel_rfl) (fun K hK=>?_)
 have HKK:=Lib.hid hK
 clear hK
 simp only [List.drop_succ_cons,List.drop_zero]
 refine headH_mk (by rfl) ?_
 go_simp
 refine (kc.out _).mono ?_
 rintro e w3 ⟨rfl,rfl⟩
 refine HKK.out _ _ (SB.out _ o1) ?_
 clear HKK K
 refine wpAnyZ_seg 14 1 _ #[true,true,true,true,true,true,true,true,true,true,true,true,true,true,true,true,true,true,false,false,false,false] 4 (by kernel_rfl) noPanic_put (SB.out _ o1) (by kernel_rfl) ?_
 simp only [List.take_succ_cons,List.take_zero,List.drop_succ_cons,List.drop_zero]
 repeat ((first | refine wpSegH_no (by rfl) ?_ | (refine wpSegH_yes (by rfl) ?_;apply Exists.intro;apply And.intro;(· (intro wx hS;(try dsimp only at hS);go_simp;first | done | with_reducible rfl))));simp only [Act.put,List.setIfInBounds_toArray,List.set_cons_zero,List.set_cons_succ])
 refine wpSegH_nil ?_
 refine wpAnyZ_one 18 _ #[true,true,true,true,true,true,true,true,true,true,true,true,true,true,true,true,true,true,true,false,false,false] 3 (by kernel_rfl) (fun K hK=>?_)
 have HKK:=Lib.hid hK
 clear hK
 simp only [List.drop_succ_cons,List.drop_zero]
 refine headH_mk (by rfl) ?_
 go_simp
 refine (kd.out _).mono ?_
 rintro e w3 ⟨rfl,rfl⟩
 refine HKK.out _ _ (SB.out _ o1) ?_
 clear HKK K
 refine wpAnyZ_seg 19 2 _ #[true,true,true,true,true,true,true,true,true,true,true,true,true,true,true,true,true,true,true,true,true,false] 1 (by kernel_rfl) noPanic_put (SB.out _ o1) (by kernel_rfl) ?_
 simp only [List.take_succ_cons,List.take_zero,List.drop_succ_cons,List.drop_zero]
 repeat ((first | refine wpSegH_no (by rfl) ?_ | (refine wpSegH_yes (by rfl) ?_;apply Exists.intro;apply And.intro;(· (intro wx hS;(try dsimp only at hS);go_simp;first | done | with_reducible rfl))));simp only [Act.put,List.setIfInBounds_toArray,List.set_cons_zero,List.set_cons_succ])
 refine wpSegH_nil ?_
 obtain ⟨x0,y0⟩:=o1.cel 0 rfl 0 _ rfl
 obtain ⟨x1,y1⟩:=o1.cel 0 rfl 1 _ rfl
 obtain ⟨x2,y2⟩:=o1.cel 0 rfl 2 _ rfl
 obtain ⟨x3,y3⟩:=o1.cel 0 rfl 3 _ rfl
 have o2:=(((o1.set 0 (.int .i64 (1 + (a:Int)))).set 1 (.int .i64 (1 + (b:Int)))).set 2 (.int .i64 (2 + (c:Int)))).set 3 (.int .i64 (1 + (d:Int)))
 have z0:=(o2.cel 0 rfl 0 _ rfl).1
 have z1:=(o2.cel 0 rfl 1 _ rfl).1
 have z2:=(o2.cel 0 rfl 2 _ rfl).1
 have z3:=(o2.cel 0 rfl 3 _ rfl).1
 have O2:=Lib.hid o2.bel
 clear o1 o2 SB ka kb kc kd
 refine wpAnyZ_end 21 _ #[true,true,true,true,true,true,true,true,true,true,true,true,true,true,true,true,true,true,true,true,true,true] (by kernel_rfl) (fun K hK=>?_)
 have HKK:=Lib.hid hK
 clear hK
 simp only [List.drop_succ_cons,List.drop_zero]
 refine headH_mk (by rfl) ?_
 go_simp
 refine HKK.out _ _ (NoPanic.normal ?_)
 clear HKK K
 have EG:=cfg_get z0 z1 z2 z3
 clear z0 z1 z2 z3
 have E1:Hid (∀ k:Nat,k < 12 → IntKind.i64.wrap (1 + (k:Int)) = 1 + k):=Lib.hid (fun k hk=>by rw [IntKind.wrap_i64];omega)
 have E2:Hid (∀ k:Nat,k < 12 → IntKind.i64.wrap (2 + (k:Int)) = 2 + k):=Lib.hid (fun k hk=>by rw [IntKind.wrap_i64];omega)
 go_wp2
 rw [E1.out a (by omega),E1.out b (by omega),E1.out d (by omega),E2.out c (by omega)]
 exact bodyPost_ret (results_cell Try.results7 _ ⟨q1,0,none⟩ rfl EG) rfl ⟨rfl,by rw [← HQ.out] at *;exact O2.out⟩
end Go.Proofs.Ytklbaanpdacllaa
open Go Go.RowKit Go.Maps
set_option linter.unusedVariables false
namespace Go.Proofs.Ytklbaanpdacllaa.fairWindows
theorem and_fffff (k:Int):bits BinOp.and IntKind.i64 k 1048575 = k % 1048576:=by
 show IntKind.i64.wrap (((BitVec.ofInt 64 k) &&& (BitVec.ofInt 64 1048575)).toNat:Int) = k % 1048576
 have e:(BitVec.ofInt 64 1048575).toNat = 1048575:=by decide
 have h:∀ n:Nat,n &&& 1048575 = n % 1048576:=fun n=>Nat.and_two_pow_sub_one_eq_mod n 20
 rw [BitVec.toNat_and,e,h,IntKind.wrap_i64,BitVec.toNat_ofInt];omega
theorem cut_of (x:Int):∃ n:Nat,(bits BinOp.and IntKind.i64 x 1048575).tmod 100000 = (n:Int) ∧ n < 100000:=by
 rw [and_fffff,Int.tmod_eq_emod_of_nonneg (by omega)]
 exact ⟨(x % 1048576 % 100000).toNat,by omega,by omega⟩
theorem RecsAt.of_cells {w:World} {a:Option Addr} {l:List Rec} (h:CellsAt w a (recCells l)):RecsAt w a l:=fun i hi=>by
 obtain ⟨h0,h1⟩:=recCells_at l i hi
 obtain ⟨b,off,rfl,g0⟩:=h _ _ h0
 obtain ⟨b',off',e,g1⟩:=h _ _ h1
 cases e
 exact ⟨b,off,rfl,g0,by rw [← Nat.add_assoc] at g1;exact g1⟩
def sev (l:List Rec):List Rec:=l.map fun r=>(r.1,r.2 % 7)
theorem sev_snoc (l:List Rec) (k:Nat) (h:k < l.length):recCells (sev (l.take (k + 1))) = recCells (sev (l.take k)) ++ [.int .i64 l[k].1,.int .u64 ((l[k].2 % 7:Nat):Int)]:=by
 unfold sev
 rw [List.take_succ_eq_append_getElem h,List.map_append,List.map_cons,List.map_nil,recCells_app]
theorem keepR:True:=by
 have:=@isRecs_of
 trivial
theorem walk (a0:Option Addr) (len0 cap0:Nat) (l0:List Rec) (a1:Int) (p m r s:Int) (a3 a4:Int) (w:World) (w0:IsRecs w a0 len0 cap0 l0) (w1:(Lit.int .i64 a1).wf = true) (wp:(Lit.int .i64 p).wf = true) (wm:(Lit.int .i64 m).wf = true) (wr:(Lit.int .i64 r).wf = true) (ws:(Lit.int .i64 s).wf = true) (w3:(Lit.int .i64 a3).wf = true) (w4:(Lit.int .i64 a4).wf = true) :
  Calls Try.prog 3 #[.slice a0 len0 cap0,.int .i64 a1,.agg #[.int .i64 p,.int .i64 m,.int .i64 r,.int .i64 s],.int .i64 a3,.int .i64 a4] w fun e w'=>e = .returned (.bool true) ∧ Below w.heap.size w w':=by
 obtain ⟨rfl,hlc,hcm,hat,hu⟩:=w0
 clear wp wm wr ws w3 w4 w1
 obtain ⟨a,ha⟩:=smC_of p 5 (by omega) (by omega)
 obtain ⟨b,hb⟩:=smC_of m 5 (by omega) (by omega)
 obtain ⟨c,hc⟩:=smC_of r 5 (by omega) (by omega)
 obtain ⟨d,hd⟩:=smC_of s 12 (by omega) (by omega)
 have a5:=ha.2.2.2.1
 have b5:=hb.2.2.2.1
 have c5:=hc.2.2.2.1
 have d5:=hd.2.2.2.1
 obtain ⟨wn,hwn,hwn2⟩:=cut_of a3
 obtain ⟨gn,hgn,hgn2⟩:=cut_of a4
 have KS:=Lib.hid (fun w=>some18_any w p m r s a b c d ha hb hc hd)
 clear ha hb hc hd
 have Hat:=Lib.hid hat;clear hat
 have Hu:=Lib.hid hu;clear hu
 have Hlm:Hid (l0.length ≤ maxLen):=Lib.hid (Nat.le_trans hlc hcm)
 clear hlc hcm
 obtain ⟨z,hz⟩:∃ z:Int,z = min a1 6:=⟨_,rfl⟩
 have hz6:z ≤ 6:=by omega
 have hzz:(if 6 < a1 then 6 else a1) = z:=by rw [hz];split <;> omega
 have hmin:min a1 6 = z:=hz.symm
 have HZ:=Lib.hid hz;clear hz
 obtain ⟨i0,hi,hz0,hz1,hz2⟩:=info_parts info_rec
 have Hi:=Lib.hid hi;clear hi
 have Hz0:=Lib.hid hz0;clear hz0
 have Hz1:=Lib.hid hz1;clear hz1
 have Hz2:=Lib.hid hz2;clear hz2
 have o0:=(Own.nil (Below.refl _ w)).alloc [.int .i64 p,.int .i64 m,.int .i64 r,.int .i64 s] 24 (b:=w.heap.size) rfl
 have O0:=Lib.hid o0;clear o0
 go_enter Try.func3,Try.ntmps3
 go_wp2_with fail
 refine (awake24_any _).mono ?_
 rintro e wa ⟨rfl,hba⟩
 have OA:=Lib.hid (O0.out.step hba);clear hba O0
 generalize w.heap.size = q at OA ⊢
 have ho0:=(OA.out.add (below_alloc1 wa (.cells #[] 30)) (A:=RowGA 2 (some ⟨wa.heap.size,0,none⟩) 0 0 []) (F:=[wa.heap.size]) ⟨rfl,RowG.zero (by simp)⟩ (by intro x hx;simp at hx;omega))
 have HO:=Lib.hid ho0;clear ho0
 go_wp2_with fail
 refine (some_own a0 cap0 l0 _ Hlm.out (by first | exact Hat.out.below HO.out.bel) Hu.out).mono ?_
 rintro e wS ⟨sa,sc,rfl,hown,hbs⟩
 obtain ⟨sa2,sc2,he,hrow,hblk⟩:=RowG.of_own hown
 obtain ⟨rfl,rfl⟩:sa = sa2 ∧ sc = sc2:=by simp only [Value.slice.injEq,true_and] at he;exact he
 have o2:=Own.add HO.out hbs (A:=RowGA 2 sa sc (someL l0).length (recCells (someL l0))) (F:=blk sa) ⟨rfl,hrow⟩ hblk
 have O2:=Lib.hid (o2.perm (List.Perm.swap _ _ _));clear o2 hown hrow hblk he hbs HO
 have hsl:=someL_len l0
 have hsok:=someL_ok l0
 generalize someL l0 = S0 at *
 obtain ⟨N,hN⟩:∃ N,N = S0.length:=⟨_,rfl⟩
 rw [← hN] at O2 hsl ⊢
 have HN:=Lib.hid hN;clear hN
 have HOK:=Lib.hid hsok;clear hsok
 go_wp2_with fail
 go_loopw [11,21] (fun sv c wr=>∃ k:Nat,∃ ra cap,k ≤ N ∧ c = .int .i64 k ∧ sv = .slice ra k cap ∧ Hid (Own w wr [RowGA 2 ra cap k (recCells (sev (S0.take k))),RowGA 2 sa sc N (recCells S0),CelA q [.int .i64 p,.int .i64 m,.int .i64 r,.int .i64 s]])) (fun _ c _=>N - (intOf c).toNat)
 case atStart=>exact ⟨0,some ⟨wa.heap.size,0,none⟩,0,by omega,rfl,rfl,O2⟩
 case round =>
  obtain ⟨k,ra,cap,hk,rfl,rfl,hr⟩:=hrel
  by_cases hlt:k < N
  ·have hkl:k < S0.length:=by have:=HN.out;omega
   have hcl:=(hr.out.rowG 1 rfl).cells
   obtain ⟨hv0,hv1⟩:=recCells_at S0 k hkl
   obtain ⟨b1,off,rfl,g0⟩:=hcl _ _ hv0
   obtain ⟨b2,off2,e2,g1⟩:=hcl _ _ hv1
   cases e2
   have hsn:=sev_snoc S0 k hkl
   have hok:=HOK.out _ (List.getElem_mem hkl)
   clear hv0 hv1 hcl
   generalize S0[k] = rc at g0 g1 hsn hok
   obtain ⟨rk,rn⟩:=rc
   obtain ⟨-,-,hrn⟩:=hok
   simp only at g0 g1 hsn hrn
   have hmod:((rn:Int)).tmod 7 = ((rn % 7:Nat):Int):=by rw [Int.tmod_eq_emod_of_nonneg (by omega)];omega
   obtain ⟨v7,hv7⟩:∃ v7,v7 = rn % 7:=⟨_,rfl⟩
   rw [← hv7] at hmod hsn
   have hv7b:v7 < 7:=by omega
   clear hv7
   have Hsn:=Lib.hid hsn;clear hsn
   rw [← Nat.add_assoc] at g1
   have o1:=hr.out.step (below_alloc1 _ (.cells #[.int .i64 rk,.int .u64 (v7:Int)] 30))
   have O3:=Lib.hid (o1.step (below_alloc1 _ (.cells #[.int .i64 rk,.int .u64 (v7:Int)] 30)))
   clear o1 hr
   go_wp2_with (at_builtin;go_loud (refine wpList_append_rowG rfl _ _ 26 rfl 30 i0 _ Try.underlying26 Hi.out Hz0.out Hz1.out Hz2.out rfl (by decide) (by decide) (n:=k) (m:=1) (cs:=recCells (sev (S0.take k))) (ds:=[.int .i64 rk,.int .u64 (v7:Int)]) (by rfl) (by rfl) (O3.out.rowG 0 rfl) (CellsAt.new _ [.int .i64 rk,.int .u64 (v7:Int)] _ (by simp)) rfl (by simp [Value.oneCell']) (by omega) ?_))
   intro a9 c9 w9 k9 ch9 f9
   have o2:=Own.rowTurn O3.out k9 ch9 (fun x hx=>by simpa using f9 x hx)
   have H2:Hid (Own w w9 [RowGA 2 a9 c9 (k + 1) (recCells (sev (S0.take (k + 1)))),RowGA 2 (some ⟨b1,off,none⟩) sc N (recCells S0),CelA q [.int .i64 p,.int .i64 m,.int .i64 r,.int .i64 s]]):=Lib.hid (by rw [Hsn.out];exact o2)
   clear o2 k9 ch9 f9 O3
   go_wp2
   exact ⟨⟨k + 1,a9,c9,by omega,by go_num,rfl,H2⟩,by simp [intOf];omega⟩
  ·obtain rfl:k = N:=by omega
   have hkk:¬ (k:Int) < (k:Int):=by omega
   have hta:S0.take k = S0:=by rw [HN.out,List.take_length]
   rw [hta] at hr
   have hsl2:(sev S0).length = k:=by unfold sev;rw [List.length_map,HN.out]
   have hsm:∀ r ∈ sev S0,r.2 < 18446744073709551616:=fun r hr=>by
    unfold sev at hr
    obtain ⟨v,_,rfl⟩:=List.mem_map.1 hr
    simp only
    omega
   generalize sev S0 = L at hr hsl2 hsm
   clear hta hlt hk
   have HSL:=Lib.hid hsl2;clear hsl2
   have HSM:=Lib.hid hsm;clear hsm
   have o4:Own w wr [CelA q [.int .i64 p,.int .i64 m,.int .i64 r,.int .i64 s],RowGA 2 ra cap k (recCells L),RowGA 2 sa sc k (recCells S0)]:=hr.out.pick 2 rfl
   have O4:=Lib.hid o4;clear o4 hr O2
   have e0:=(O4.out.cel 0 rfl 0 _ rfl).1
   have e1:=(O4.out.cel 0 rfl 1 _ rfl).1
   have e2:=(O4.out.cel 0 rfl 2 _ rfl).1
   have e3:=(O4.out.cel 0 rfl 3 _ rfl).1
   go_wp2_with fail
   refine (KS.out _).mono ?_
   rintro e w5 ⟨rfl,hb5⟩
   clear e0 e1 e2 e3
   have O5:=Lib.hid (O4.out.step hb5);clear O4 hb5
   obtain ⟨A1,hA1⟩:∃ A1:Nat,A1 = 1 + a:=⟨_,rfl⟩
   obtain ⟨B1,hB1⟩:∃ B1:Nat,B1 = 1 + b:=⟨_,rfl⟩
   obtain ⟨C1,hC1⟩:∃ C1:Nat,C1 = 2 + c:=⟨_,rfl⟩
   obtain ⟨D1,hD1⟩:∃ D1:Nat,D1 = 1 + d:=⟨_,rfl⟩
   rw [show 1 + (a:Int) = (A1:Int) by omega,show 1 + (b:Int) = (B1:Int) by omega,show 2 + (c:Int) = (C1:Int) by omega,show 1 + (d:Int) = (D1:Int) by omega]
   have hC:C1 ≤ 10:=by omega
   have hD:D1 ≤ 20:=by omega
   clear hA1 hB1 hC1 hD1 a5 b5 c5 d5 KS
   go_upto_region 13 with fail
   have o6:=O5.out.alloc [.int .i64 (A1:Int),.int .i64 (B1:Int),.int .i64 (C1:Int),.int .i64 (D1:Int)] 24 (b:=w5.heap.size) rfl
   have o7:Own w (w5.alloc (.cells #[.int .i64 (A1:Int),.int .i64 (B1:Int),.int .i64 (C1:Int),.int .i64 (D1:Int)] 24)) [CelA w5.heap.size [.int .i64 (A1:Int),.int .i64 (B1:Int),.int .i64 (C1:Int),.int .i64 (D1:Int)],CelA q [.int .i64 p,.int .i64 m,.int .i64 r,.int .i64 s],RowGA 2 ra cap k (recCells L),RowGA 2 sa sc k (recCells S0)]:=o6
   clear o6 O5
   generalize (w5.alloc (.cells #[.int .i64 (A1:Int),.int .i64 (B1:Int),.int .i64 (C1:Int),.int .i64 (D1:Int)] 24)) = w6 at *
   generalize w5.heap.size = qd at *
   have o1:=o7.step (below_drew1 w6)
   clear o7
   have c1:=fun (wx:World) (hx:RecsAt wx ra L)=>win_any ra cap L z wx (by rw [HSL.out];omega) (by omega) hx HSM.out
   have c2:=fun (a:Option Addr) (cap:Nat) (wx:World) (hx:RecsAt wx a L)=>rwin_any a cap L z wx (by rw [HSL.out];omega) (by omega) hx HSM.out
   have c3:=fun (wx:World) (hx:RecsAt wx ra L)=>told_any ra cap L wx (by rw [HSL.out];omega) hx
   rw [HSL.out] at c1 c2 c3
   have C1':=Lib.hid c1;have C2':=Lib.hid c2;have C3':=Lib.hid c3;clear c1 c2 c3
   have C4':=Lib.hid (fun (wx:World)=>bound_any (A1:Int) (B1:Int) (C1:Int) (D1:Int) (wn:Int) (gn:Int) wx (by omega) (by omega) (by omega) (by omega))
   have C5':=Lib.hid (fun (wx:World)=>rbound_any (A1:Int) (B1:Int) (C1:Int) (D1:Int) (wn:Int) (gn:Int) wx (by omega) (by omega) (by omega) (by omega))
   generalize boundF (C1:Int) (D1:Int) (wn:Int) (gn:Int) = bf at *
   generalize winW (picksOf L) z.toNat = ww at *
   have SB:Hid (∀ (wx:World) (R:List Asr),Own w wx (CelA qd [.int .i64 (A1:Int),.int .i64 (B1:Int),.int .i64 (C1:Int),.int .i64 (D1:Int)] :: R) → wx.cell? ⟨qd,0,none⟩ = some (.int .i64 (A1:Int)) ∧ wx.cell? ⟨qd,1,none⟩ = some (.int .i64 (B1:Int)) ∧ wx.cell? ⟨qd,2,none⟩ = some (.int .i64 (C1:Int)) ∧ wx.cell? ⟨qd,3,none⟩ = some (.int .i64 (D1:Int))) :=
    Lib.hid (fun wx R h=>⟨(h.cel 0 rfl 0 _ rfl).1,(h.cel 0 rfl 1 _ rfl).1,(h.cel 0 rfl 2 _ rfl).1,(h.cel 0 rfl 3 _ rfl).1⟩)
   refine wp_region_lexH (fun wx=>wx.cell? ⟨qd,0,none⟩ = some (.int .i64 (A1:Int)) ∧ wx.cell? ⟨qd,1,none⟩ = some (.int .i64 (B1:Int)) ∧ wx.cell? ⟨qd,2,none⟩ = some (.int .i64 (C1:Int)) ∧ wx.cell? ⟨qd,3,none⟩ = some (.int .i64 (D1:Int))) 20 (Array.replicate 20 false) (by kernel_rfl) (by kernel_rfl) ?_
   generalize w6.drew = w7 at *
   refine wpAnyH_seg 0 2 _ #[true,true,false,false,false,false,false,false,false,false,false,false,false,false,false,false,false,false,false,false] 18 (by kernel_rfl) noPanic_put (SB.out _ _ o1) (by kernel_rfl) ?_
   simp only [List.take_succ_cons,List.take_zero,List.drop_zero]
   repeat ((first | refine wpSegH_no (by rfl) ?_ | (refine wpSegH_yes (by rfl) ?_;apply Exists.intro;apply And.intro;(· (intro wx hS;(try dsimp only at hS);go_simp;first | done | with_reducible rfl))));simp only [Act.put,List.setIfInBounds_toArray,List.set_cons_zero,List.set_cons_succ])
   refine wpSegH_nil ?_
   refine wpAnyH_seg 3 1 _ #[true,true,false,true,false,false,false,false,false,false,false,false,false,false,false,false,false,false,false,false] 17 (by kernel_rfl) noPanic_put (SB.out _ _ o1) (by kernel_rfl) ?_
   simp only [List.take_succ_cons,List.take_zero,List.drop_succ_cons,List.drop_zero]
   repeat ((first | refine wpSegH_no (by rfl) ?_ | (refine wpSegH_yes (by rfl) ?_;apply Exists.intro;apply And.intro;(· (intro wx hS;(try dsimp only at hS);go_simp;first | done | with_reducible rfl))));simp only [Act.put,List.setIfInBounds_toArray,List.set_cons_zero,List.set_cons_succ])
   refine wpSegH_nil ?_
   refine wpAnyH_seg 5 1 _ #[true,true,false,true,false,true,false,false,false,false,false,false,false,false,false,false,false,false,false,false] 16 (by kernel_rfl) noPanic_put (SB.out _ _ o1) (by kernel_rfl) ?_
   simp only [List.take_succ_cons,List.take_zero,List.drop_succ_cons,List.drop_zero]
   repeat ((first | refine wpSegH_no (by rfl) ?_ | (refine wpSegH_yes (by rfl) ?_;apply Exists.intro;apply And.intro;(· (intro wx hS;(try dsimp only at hS);go_simp;first | done | with_reducible rfl))));simp only [Act.put,List.setIfInBounds_toArray,List.set_cons_zero,List.set_cons_succ])
   refine wpSegH_nil ?_
   refine wpAnyH_one 2 _ #[true,true,true,true,false,true,false,false,false,false,false,false,false,false,false,false,false,false,false,false] 15 (by kernel_rfl) (fun K hK=>?_)
   have HKK:=Lib.hid hK
   clear hK
   simp only [List.drop_succ_cons,List.drop_zero]
   refine headH_mk (by rfl) ?_
   go_simp
   refine (C1'.out _ (RecsAt.of_cells (o1.rowG 2 rfl).cells)).mono ?_
   rintro e w8 ⟨rfl,hb⟩
   have o2:=o1.step hb
   clear o1 hb
   refine HKK.out _ _ (SB.out _ _ o2) ?_
   clear HKK K
   refine wpAnyH_one 4 _ #[true,true,true,true,true,true,false,false,false,false,false,false,false,false,false,false,false,false,false,false] 14 (by kernel_rfl) (fun K hK=>?_)
   have HKK:=Lib.hid hK
   clear hK
   simp only [List.drop_succ_cons,List.drop_zero]
   refine headH_mk (by rfl) ?_
   go_simp
   refine (C3'.out _ (RecsAt.of_cells (o2.rowG 2 rfl).cells)).mono ?_
   rintro e w9 ⟨ta,tc,rfl,hrow,hblk,hb⟩
   have htr:=RecsAt.of_cells hrow.cells
   have o3:=o2.step hb
   clear o2 hb hrow hblk
   refine HKK.out _ _ (SB.out _ _ o3) ?_
   clear HKK K
   refine wpAnyH_one 6 _ #[true,true,true,true,true,true,true,false,false,false,false,false,false,false,false,false,false,false,false,false] 13 (by kernel_rfl) (fun K hK=>?_)
   have HKK:=Lib.hid hK
   clear hK
   simp only [List.drop_succ_cons,List.drop_zero]
   refine headH_mk (by rfl) ?_
   go_simp
   refine (C2'.out _ _ _ htr).mono ?_
   rintro e w10 ⟨rfl,hb⟩
   have o4:=o3.step hb
   clear o3 hb htr
   refine HKK.out _ _ (SB.out _ _ o4) ?_
   clear HKK K
   refine wpAnyH_seg 7 5 _ #[true,true,true,true,true,true,true,true,true,true,true,true,false,false,false,false,false,false,false,false] 8 (by kernel_rfl) noPanic_put (SB.out _ _ o4) (by kernel_rfl) ?_
   simp only [List.take_succ_cons,List.take_zero,List.drop_succ_cons,List.drop_zero]
   repeat ((first | refine wpSegH_no (by rfl) ?_ | (refine wpSegH_yes (by rfl) ?_;apply Exists.intro;apply And.intro;(· (intro wx hS;(try dsimp only at hS);go_simp;first | done | with_reducible rfl))));simp only [Act.put,List.setIfInBounds_toArray,List.set_cons_zero,List.set_cons_succ])
   refine wpSegH_nil ?_
   refine wpAnyH_seg 13 3 _ #[true,true,true,true,true,true,true,true,true,true,true,true,false,true,true,true,false,false,false,false] 5 (by kernel_rfl) noPanic_put (SB.out _ _ o4) (by kernel_rfl) ?_
   simp only [List.take_succ_cons,List.take_zero,List.drop_succ_cons,List.drop_zero]
   repeat ((first | refine wpSegH_no (by rfl) ?_ | (refine wpSegH_yes (by rfl) ?_;apply Exists.intro;apply And.intro;(· (intro wx hS;(try dsimp only at hS);go_simp;first | done | with_reducible rfl))));simp only [Act.put,List.setIfInBounds_toArray,List.set_cons_zero,List.set_cons_succ])
   refine wpSegH_nil ?_
   refine wpAnyH_one 12 _ #[true,true,true,true,true,true,true,true,true,true,true,true,true,true,true,true,false,false,false,false] 4 (by kernel_rfl) (fun K hK=>?_)
   have HKK:=Lib.hid hK
   clear hK
   simp only [List.drop_succ_cons,List.drop_zero]
   refine headH_mk (by rfl) ?_
   go_simp
   refine (C4'.out _).mono ?_
   rintro e w11 ⟨rfl,hb⟩
   have o5:=o4.step hb
   clear o4 hb
   refine HKK.out _ _ (SB.out _ _ o5) ?_
   clear HKK K
   refine wpAnyH_one 16 _ #[true,true,true,true,true,true,true,true,true,true,true,true,true,true,true,true,true,false,false,false] 3 (by kernel_rfl) (fun K hK=>?_)
   have HKK:=Lib.hid hK
   clear hK
   simp only [List.drop_succ_cons,List.drop_zero]
   refine headH_mk (by rfl) ?_
   go_simp
   refine (C5'.out _).mono ?_
   rintro e w12 ⟨rfl,hb⟩
   have o6:=o5.step hb
   clear o5 hb
   refine HKK.out _ _ (SB.out _ _ o6) ?_
   clear HKK K
   refine wpAnyH_seg 17 3 _ #[true,true,true,true,true,true,true,true,true,true,true,true,true,true,true,true,true,true,true,true] 0 (by kernel_rfl) noPanic_put (SB.out _ _ o6) (by kernel_rfl) ?_
   simp only [List.take_succ_cons,List.take_zero,List.drop_succ_cons,List.drop_zero]
   repeat ((first | refine wpSegH_no (by rfl) ?_ | (refine wpSegH_yes (by rfl) ?_;apply Exists.intro;apply And.intro;(· (intro wx hS;(try dsimp only at hS);go_simp;first | done | with_reducible rfl))));simp only [Act.put,List.setIfInBounds_toArray,List.set_cons_zero,List.set_cons_succ])
   refine wpSegH_nil ?_
   refine wpAnyH_done (by kernel_rfl) (NoPanic.normal ?_) _
   have OB:=Lib.hid o6.bel
   clear o6
   go_wp2
   go_ret
   exact ⟨rfl,OB.out⟩
end Go.Proofs.Ytklbaanpdacllaa.fairWindows
