/-
  Texts put together: FwM, Base, Frame, IRow, Sep, WFw1, Nums, Get, Back, Ints, Bld, Recs, RecsIn, Pool, RowG, RowG2, RowG3, SegH, SegH2, SegP, WFw2, WFw3, W24Cut.
-/
import Derived.WalkKit
import Derived.ProofKit
import Derived.Below
import Derived.WalkSpells
import Derived.WalkLawsBesides
import Derived.IntWalk
import Derived.Lib.Hide
import Derived.LoopTactic
import Derived.Deep.RegionWith
import Derived.Deep.MidRow
import Derived.Laws.IdiomCopy
import Derived.Laws.NewBlocks
import Derived.Laws.AppendOwn
import Derived.Lib.ConvBytes
import Derived.Lib.AppendStr
import Derived.ArgAppend
import Derived.Test.YtklbaanpdacllaaChecked
import Derived.Maps.OwnSet
import Derived.Maps.RangeWalk
import Derived.WalkArith
import Derived.Lib.BitFns
import Derived.OpenShut
import Derived.Lib.Builder
import Derived.Deep.SlicePairs
import Derived.Lib.SmallJoins
import Derived.Deep.RegionHeld3
import Derived.Maps.OwnOps
import Derived.WideMake
import Derived.Deep.CutBlock
set_option maxRecDepth 100000
set_option maxHeartbeats 16000000
set_option linter.unusedSimpArgs false
set_option linter.unusedVariables false
open Go Go.RowKit
set_option linter.unusedVariables false
namespace Go.Proofs.Ytklbaanpdacllaa
def runW (m:Nat):List Nat → Nat × Nat → Nat × Nat
 | [],s=>s
 | y :: t,(now,most)=>let n:=if y = m then 0 else now + 1;runW m t (n,max most n)
def mostW (m:Nat) (l:List Nat):Nat:=(runW m l (0,0)).2
def nowW (m:Nat) (l:List Nat):Nat:=(runW m l (0,0)).1
theorem runW_app (m:Nat):∀ (l k:List Nat) (s:Nat × Nat),runW m (l ++ k) s = runW m k (runW m l s)
 | [],k,s=>rfl
 | y :: t,k,(a,b)=>by simp only [List.cons_append,runW];exact runW_app m t k _
theorem now_snoc (m y:Nat) (l:List Nat):nowW m (l ++ [y]) = if y = m then 0 else nowW m l + 1:=by
 unfold nowW;rw [runW_app];simp [runW]
theorem most_snoc (m y:Nat) (l:List Nat):mostW m (l ++ [y]) = max (mostW m l) (nowW m (l ++ [y])):=by
 rw [now_snoc];unfold mostW nowW;rw [runW_app];simp [runW]
theorem snoc_ind {P:List Nat → Prop} (h0:P []) (h1:∀ l y,P l → P (l ++ [y])) (l:List Nat):P l:=by
 rw [← List.reverse_reverse l]
 induction l.reverse with
 | nil=>exact h0
 | cons y t ih=>rw [List.reverse_cons];exact h1 _ _ ih
theorem now_le_most (m:Nat) (l:List Nat):nowW m l ≤ mostW m l:=by
 refine snoc_ind (P:=fun l=>nowW m l ≤ mostW m l) (by simp [nowW,mostW,runW]) (fun l y ih=>?_) l
 rw [most_snoc];exact Nat.le_max_right _ _
theorem now_le_len (m:Nat) (l:List Nat):nowW m l ≤ l.length:=by
 refine snoc_ind (P:=fun l=>nowW m l ≤ l.length) (by simp [nowW,runW]) (fun l y ih=>?_) l
 rw [now_snoc,List.length_append];split <;> simp <;> omega
def topW (f:Nat → Nat):Nat → Nat
 | 0=>0
 | n + 1=>max (topW f n) (f n)
theorem topW_le {f:Nat → Nat} {b:Nat}:∀ {n:Nat},(∀ i,i < n → f i ≤ b) → topW f n ≤ b
 | 0,_=>Nat.zero_le _
 | n + 1,h=>Nat.max_le.2 ⟨topW_le fun i hi=>h i (by omega),h n (by omega)⟩
theorem le_topW {f:Nat → Nat}:∀ {n i:Nat},i < n → f i ≤ topW f n
 | 0,_,h=>by omega
 | n + 1,i,h=>by
  unfold topW
  by_cases e:i = n
  ·subst e;exact Nat.le_max_right _ _
  ·exact Nat.le_trans (le_topW (by omega)) (Nat.le_max_left _ _)
theorem topW_congr {f g:Nat → Nat}:∀ {n:Nat},(∀ i,i < n → f i = g i) → topW f n = topW g n
 | 0,_=>rfl
 | n + 1,h=>by unfold topW;rw [topW_congr fun i hi=>h i (by omega),h n (by omega)]
def winW (l:List Nat) (m:Nat):Nat:=if (∀ x,x < m → x ∈ l) then topW (fun x=>mostW x l + 1) m else 0
def lastOf (x:Nat) (l:List Nat):Nat:=l.length - nowW x l
theorem last_snoc (x y:Nat) (l:List Nat):lastOf x (l ++ [y]) = if y = x then l.length + 1 else lastOf x l:=by
 unfold lastOf
 have:=now_le_len x l
 rw [now_snoc,List.length_append]
 split <;> simp only [List.length_singleton] <;> omega
theorem last_pos (x:Nat) (l:List Nat):0 < lastOf x l ↔ x ∈ l:=by
 refine snoc_ind (P:=fun l=>0 < lastOf x l ↔ x ∈ l) (by simp [lastOf]) (fun l y ih=>?_) l
 rw [last_snoc,List.mem_append,List.mem_singleton]
 split
 ·rename_i h;subst h;simp
 ·rename_i h;rw [ih];exact ⟨.inl,fun q=>q.elim id (fun e=>absurd e.symm h)⟩
theorem last_le (x:Nat) (l:List Nat):lastOf x l ≤ l.length:=Nat.sub_le _ _
def gapW (m:Nat):List Nat → Nat × List Nat → Nat
 | [],(w,_)=>w
 | y :: t,(w,p)=>gapW m t (if y < m then max w (p.length + 1 - lastOf y p) else w,p ++ [y])
def gapOf (m:Nat) (l:List Nat):Nat:=gapW m l (0,[])
theorem gapW_app (m:Nat):∀ (l k:List Nat) (w:Nat) (p:List Nat),gapW m (l ++ k) (w,p) = gapW m k (gapW m l (w,p),p ++ l)
 | [],k,w,p=>by simp [gapW]
 | y :: t,k,w,p=>by simp only [List.cons_append,gapW];rw [gapW_app m t k];simp
theorem gap_snoc (m y:Nat) (l:List Nat):gapOf m (l ++ [y]) = if y < m then max (gapOf m l) (l.length + 1 - lastOf y l) else gapOf m l:=by
 unfold gapOf;rw [gapW_app];simp [gapW]
theorem gap_le (m:Nat) (l:List Nat):gapOf m l ≤ l.length:=by
 refine snoc_ind (P:=fun l=>gapOf m l ≤ l.length) (by simp [gapOf,gapW]) (fun l y ih=>?_) l
 rw [gap_snoc,List.length_append]
 split <;> simp <;> omega
theorem gap_top (m:Nat) (l:List Nat):max (gapOf m l) (topW (fun x=>l.length + 1 - lastOf x l) m) = topW (fun x=>mostW x l + 1) m:=by
 have hn:∀ (x:Nat) (l:List Nat),l.length + 1 - lastOf x l = nowW x l + 1:=fun x l=>by unfold lastOf;have:=now_le_len x l;omega
 rw [topW_congr (g:=fun x=>nowW x l + 1) fun i _=>hn i l]
 refine snoc_ind (P:=fun l=>max (gapOf m l) (topW (fun x=>nowW x l + 1) m) = topW (fun x=>mostW x l + 1) m) ?_ (fun l y ih=>?_) l
 ·have:gapOf m [] = 0:=rfl
  rw [this,Nat.zero_max];exact topW_congr fun i _=>by simp [nowW,mostW,runW]
 have e1:∀ x,mostW x (l ++ [y]) + 1 = max (mostW x l + 1) (nowW x (l ++ [y]) + 1):=fun x=>by rw [most_snoc];omega
 have hA:gapOf m (l ++ [y]) ≤ topW (fun x=>mostW x (l ++ [y]) + 1) m:=by
  rw [gap_snoc]
  have h0:topW (fun x=>mostW x l + 1) m ≤ topW (fun x=>mostW x (l ++ [y]) + 1) m:=topW_le fun i hi=>Nat.le_trans (by rw [e1];exact Nat.le_max_left _ _) (le_topW (f:=fun x=>mostW x (l ++ [y]) + 1) hi)
  split
  ·rename_i hy
   refine Nat.max_le.2 ⟨by omega,?_⟩
   rw [hn]
   have:=le_topW (f:=fun x=>nowW x l + 1) hy
   omega
  ·omega
 have hB:topW (fun x=>nowW x (l ++ [y]) + 1) m ≤ topW (fun x=>mostW x (l ++ [y]) + 1) m:=topW_le fun i hi=>Nat.le_trans (by rw [e1];exact Nat.le_max_right _ _) (le_topW (f:=fun x=>mostW x (l ++ [y]) + 1) hi)
 apply Nat.le_antisymm (Nat.max_le.2 ⟨hA,hB⟩)
 refine topW_le fun i hi=>?_
 rw [e1]
 have g1:=le_topW (f:=fun x=>nowW x (l ++ [y]) + 1) hi
 refine Nat.max_le.2 ⟨?_,Nat.le_trans g1 (Nat.le_max_right _ _)⟩
 have g2:=le_topW (f:=fun x=>mostW x l + 1) hi
 rw [← ih] at g2
 refine Nat.le_trans g2 (Nat.max_le.2 ⟨?_,topW_le fun j hj=>?_⟩)
 ·rw [gap_snoc]
  split
  ·exact Nat.le_trans (Nat.le_max_left _ _) (Nat.le_max_left _ _)
  ·exact Nat.le_max_left _ _
 ·have g3:=le_topW (f:=fun x=>nowW x (l ++ [y]) + 1) hj
  rw [now_snoc] at g3
  by_cases e:y = j
  ·subst e
   rw [gap_snoc,if_pos hj,hn]
   exact Nat.le_trans (Nat.le_max_right _ _) (Nat.le_max_left _ _)
  ·rw [if_neg e] at g3
   refine Nat.le_trans ?_ (Nat.le_max_right _ _)
   show _ ≤ topW (fun x=>nowW x (l ++ [y]) + 1) m
   have:=le_topW (f:=fun x=>nowW x (l ++ [y]) + 1) hj
   rw [now_snoc,if_neg e] at this
   omega
theorem win_le (l:List Nat) (m:Nat):winW l m ≤ l.length + 1:=by
 unfold winW
 split
 ·rw [← gap_top]
  have:=gap_le m l
  have:=topW_le (f:=fun x=>l.length + 1 - lastOf x l) (n:=m) (b:=l.length + 1) fun i _=>by omega
  omega
 ·omega
theorem most_more (m:Nat) (l k:List Nat):mostW m l ≤ mostW m (l ++ k) ∧ mostW m (l ++ k) ≤ mostW m l + k.length:=by
 refine snoc_ind (P:=fun k=>mostW m l ≤ mostW m (l ++ k) ∧ mostW m (l ++ k) ≤ mostW m l + k.length) (by simp) (fun k y ih=>?_) k
 have h1:=most_snoc m y (l ++ k)
 have h2:=now_snoc m y (l ++ k)
 have h3:=now_le_most m (l ++ k)
 rw [← List.append_assoc,List.length_append]
 rw [h1,h2]
 simp only [List.length_singleton]
 split <;> omega
theorem win_more (l k:List Nat) (m:Nat) (h:winW l m ≠ 0):winW l m ≤ winW (l ++ k) m ∧ winW (l ++ k) m ≤ winW l m + k.length:=by
 unfold winW at h ⊢
 split at h
 ·rename_i hl
  rw [if_pos hl,if_pos (fun x hx=>List.mem_append.2 (.inl (hl x hx)))]
  constructor
  ·exact topW_le fun i hi=>Nat.le_trans (Nat.add_le_add_right (most_more i l k).1 1) (le_topW (f:=fun x=>mostW x (l ++ k) + 1) hi)
  ·refine topW_le fun i hi=>?_
   have:=le_topW (f:=fun x=>mostW x l + 1) hi
   have:=(most_more i l k).2
   omega
 ·exact absurd rfl h

theorem below_on {a b c:World} (h:Below a.heap.size a b) (k:Below b.heap.size b c):Below a.heap.size a c:=h.trans (k.mono h.size)


def Blk (w:World) (b:Nat) (cs:List Value):Prop:=∀ j v,cs[j]? = some v → w.cell? ⟨b,j,none⟩ = some v ∧ w.frozen? ⟨b,j,none⟩ = false
theorem Blk.new (w:World) (cs:Array Value) (t:TypeId):Blk (w.alloc (.cells cs t)) w.heap.size cs.toList:=fun j v hj=>by
 refine ⟨?_,World.frozen?_alloc_at _ _ _ _ rfl⟩
 rw [World.cell?_alloc_at _ _ _ _ rfl];simpa using hj
theorem below_alloc1 (w:World) (o:Obj):Below w.heap.size w (w.alloc o):=(Below.refl _ _).alloc (Nat.le_refl _) _

theorem slice_head {P:Program} {t:TypeId} {s:Nat} (w:World) (ht:P.underlying t = some (.slice (P.elem t))) (hs:∀ w,(sizeOf (P.elem t)).run P w = .ok s w) (a:Option Addr) (len cap m:Nat) (hm:m ≤ cap) :
  (Instr.slice t (.slice a len cap) none (some (.int .i64 (m:Int))) none).run P w = .ok (.slice a m cap) w:=by
 rw [run_slice_h (P:=P) (t:=t) (ht:=ht) (kh:=.i64) (h:=(m:Int)) (h0:=by omega) (h2:=by omega),hs]
 have:a.map (fun x:Addr=>x.add 0) = a:=by cases a <;> simp [Addr.add]
 simp [Result.andThen,sliced,this]
structure Chg (F:List Nat) (w w':World):Prop where
 os:w'.os = w.os
 tape:w'.tape = w.tape
 output:w'.output = w.output
 size:w.heap.size ≤ w'.heap.size
 block:∀ k,k < w.heap.size → k ∉ F → w'.heap[k]? = w.heap[k]?
theorem Chg.refl (F:List Nat) (w:World):Chg F w w:=⟨rfl,rfl,rfl,Nat.le_refl _,fun _ _ _=>rfl⟩
theorem Chg.mono {F G:List Nat} {a b:World} (h:Chg F a b) (hs:∀ x ∈ F,x ∈ G):Chg G a b:=⟨h.os,h.tape,h.output,h.size,fun k hk hn=>h.block k hk (fun hF=>hn (hs k hF))⟩
theorem Chg.of_below {F:List Nat} {w w':World} (h:Below w.heap.size w w'):Chg F w w':=⟨h.os,h.tape,h.output,h.size,fun k hk _=>h.block k hk⟩
theorem Chg.to_below {F:List Nat} {w w':World} {B:Nat} (h:Chg F w w') (hF:∀ x ∈ F,B ≤ x) (hB:B ≤ w.heap.size):Below B w w' :=
 ⟨h.os,h.tape,h.output,h.size,fun k hk=>h.block k (by omega) (fun hx=>by have:=hF k hx;omega)⟩
theorem Chg.below {F:List Nat} {w0 w w':World} (h0:Below w0.heap.size w0 w) (h:Chg F w w') (hF:∀ x ∈ F,w0.heap.size ≤ x):Below w0.heap.size w0 w':=h0.trans (h.to_below hF h0.size)
theorem Chg.setCell {F:List Nat} {w w':World} (h:Chg F w w') {b k:Nat} (v:Value) (hb:b ∈ F ∨ w.heap.size ≤ b):Chg F w (w'.setCell ⟨b,k,none⟩ v) :=
 ⟨h.os,h.tape,h.output,by rw [World.size_setCell];exact h.size,fun x hx hn=>by
  rw [Below.heap_setCell _ _ _ _ (fun e=>by
   subst e
   rcases hb with hb | hb
   ·exact hn hb
   ·omega)]
  exact h.block x hx hn⟩
theorem Chg.setCells {F:List Nat} {w w':World} (h:Chg F w w') {b:Nat}:∀ (vs:List Value) (o:Nat),(b ∈ F ∨ w.heap.size ≤ b) → Chg F w (w'.setCells b o vs):=fun vs=>by
 induction vs generalizing w' with
 | nil=>intro o _;exact h
 | cons v vs ih=>intro o hb;rw [World.setCells];exact ih (h.setCell v hb) (o + 1) hb
theorem cell_of_heap {w w':World} {b k:Nat} (h:w'.heap[b]? = w.heap[b]?):w'.cell? ⟨b,k,none⟩ = w.cell? ⟨b,k,none⟩:=World.cell?_of_block (a:=⟨b,k,none⟩) h
theorem grownBy_chg {w w':World} {row:Option Nat} (h:w.grownBy w' row):Chg row.toList w w':=⟨h.os,h.tape,h.output,h.size,fun k hk hn=>h.block k hk (fun e=>hn (by rw [← e];simp))⟩
def blk (a:Option Addr):List Nat:=(a.map (·.block)).toList
structure Asr where
 at_:World → List Nat → Prop
 lt:∀ {w F},at_ w F → ∀ x ∈ F,x < w.heap.size
 chg:∀ {w w' F G},at_ w F → Chg G w w' → (∀ x ∈ F,x ∉ G) → at_ w' F
def Sep (w:World):List Asr → List Nat → Prop
 | [],F=>F = []
 | A :: As,F=>∃ F1 F2,F = F1 ++ F2 ∧ A.at_ w F1 ∧ (∀ x ∈ F1,x ∉ F2) ∧ Sep w As F2
theorem Sep.lt {w:World}:∀ {As:List Asr} {F:List Nat},Sep w As F → ∀ x ∈ F,x < w.heap.size
 | [],F,h,x,hx=>by unfold Sep at h;subst h;simp at hx
 | A :: As,F,h,x,hx=>by
  obtain ⟨F1,F2,rfl,h1,h2,h3⟩:=h
  rcases List.mem_append.1 hx with hx | hx
  ·exact A.lt h1 x hx
  ·exact h3.lt x hx
theorem Sep.chg {w w':World} {G:List Nat} (c:Chg G w w'):∀ {As:List Asr} {F:List Nat},Sep w As F → (∀ x ∈ F,x ∉ G) → Sep w' As F
 | [],F,h,_=>h
 | A :: As,F,h,hd=>by
  obtain ⟨F1,F2,rfl,h1,h2,h3⟩:=h
  exact ⟨F1,F2,rfl,A.chg h1 c (fun x hx=>hd x (by simp [hx])),h2,Sep.chg c h3 (fun x hx=>hd x (by simp [hx]))⟩
theorem Sep.perm {w:World} {As Bs:List Asr} (hp:As.Perm Bs):∀ {F:List Nat},Sep w As F → ∃ F',Sep w Bs F' ∧ ∀ x,x ∈ F' ↔ x ∈ F:=by
 induction hp with
 | nil=>exact fun h=>⟨_,h,fun _=>Iff.rfl⟩
 | cons A _ ih =>
  intro F h
  obtain ⟨F1,F2,rfl,h1,h2,h3⟩:=h
  obtain ⟨F',h4,h5⟩:=ih h3
  exact ⟨F1 ++ F',⟨F1,F',rfl,h1,fun x hx hc=>h2 x hx ((h5 x).1 hc),h4⟩,fun x=>by simp [h5]⟩
 | swap A B l =>
  intro F h
  obtain ⟨F1,_,rfl,h1,h2,F2,F3,rfl,h3,h4,h5⟩:=h
  exact ⟨F2 ++ (F1 ++ F3),⟨F2,_,rfl,h3,fun x hx hc=>by
   rcases List.mem_append.1 hc with h | h
   ·exact h2 x h (by simp [hx])
   ·exact h4 x hx h,F1,F3,rfl,h1,fun x hx hc=>h2 x hx (by simp [hc]),h5⟩,fun x=>by simp;constructor <;> (intro h;rcases h with h | h | h <;> simp [h])⟩
 | trans _ _ i1 i2 =>
  intro F h
  obtain ⟨F1,h1,e1⟩:=i1 h
  obtain ⟨F2,h2,e2⟩:=i2 h1
  exact ⟨F2,h2,fun x=>(e2 x).trans (e1 x)⟩
theorem Sep.split {w:World}:∀ {As Bs:List Asr} {F:List Nat},Sep w (As ++ Bs) F → ∃ F1 F2,F = F1 ++ F2 ∧ Sep w As F1 ∧ (∀ x ∈ F1,x ∉ F2) ∧ Sep w Bs F2
 | [],Bs,F,h=>⟨[],F,rfl,rfl,fun x hx=>by simp at hx,h⟩
 | A :: As,Bs,F,h=>by
  obtain ⟨F1,F2,rfl,h1,h2,h3⟩:=h
  obtain ⟨F3,F4,rfl,h4,h5,h6⟩:=h3.split
  exact ⟨F1 ++ F3,F4,by simp,⟨F1,F3,rfl,h1,fun x hx hc=>h2 x hx (by simp [hc]),h4⟩,fun x hx hc=>by
   rcases List.mem_append.1 hx with h | h
   ·exact h2 x h (by simp [hc])
   ·exact h5 x h hc,h6⟩
theorem Sep.app {w:World}:∀ {As Bs:List Asr} {F G:List Nat},Sep w As F → Sep w Bs G → (∀ x ∈ F,x ∉ G) → Sep w (As ++ Bs) (F ++ G)
 | [],Bs,F,G,h,k,_=>by unfold Sep at h;subst h;exact k
 | A :: As,Bs,F,G,h,k,d=>by
  obtain ⟨F1,F2,rfl,h1,h2,h3⟩:=h
  exact ⟨F1,F2 ++ G,by simp,h1,fun x hx hc=>by
   rcases List.mem_append.1 hc with h | h
   ·exact h2 x hx h
   ·exact d x (by simp [hx]) h,h3.app k (fun x hx=>d x (by simp [hx]))⟩
def Own (w0 w:World) (As:List Asr):Prop:=Below w0.heap.size w0 w ∧ ∃ F,Sep w As F ∧ ∀ x ∈ F,w0.heap.size ≤ x
theorem Own.bel {w0 w:World} {As:List Asr} (h:Own w0 w As):Below w0.heap.size w0 w:=h.1
theorem Own.nil {w0 w:World} (h:Below w0.heap.size w0 w):Own w0 w []:=⟨h,[],rfl,fun x hx=>by simp at hx⟩
theorem Own.perm {w0 w:World} {As Bs:List Asr} (h:Own w0 w As) (hp:As.Perm Bs):Own w0 w Bs:=by
 obtain ⟨h1,F,h2,h3⟩:=h
 obtain ⟨F',h4,h5⟩:=h2.perm hp
 exact ⟨h1,F',h4,fun x hx=>h3 x ((h5 x).1 hx)⟩
theorem Own.head {w0 w:World} {A:Asr} {As:List Asr} (h:Own w0 w (A :: As)):∃ F,A.at_ w F ∧ ∀ x ∈ F,w0.heap.size ≤ x:=by
 obtain ⟨h1,F,⟨F1,F2,rfl,h2,h3,h4⟩,h5⟩:=h
 exact ⟨F1,h2,fun x hx=>h5 x (by simp [hx])⟩
theorem Own.step {w0 w w':World} {As:List Asr} (h:Own w0 w As) (hb:Below w.heap.size w w'):Own w0 w' As:=by
 obtain ⟨h1,F,h2,h3⟩:=h
 exact ⟨below_on h1 hb,F,h2.chg (Chg.of_below (F:=[]) hb) (fun _ _=>by simp),h3⟩
theorem Own.add {w0 w w':World} {As:List Asr} (h:Own w0 w As) (hb:Below w.heap.size w w') {A:Asr} {F:List Nat} (hA:A.at_ w' F) (hF:∀ x ∈ F,w.heap.size ≤ x):Own w0 w' (A :: As):=by
 obtain ⟨h1,F2,h2,h3⟩:=h
 exact ⟨below_on h1 hb,F ++ F2,⟨F,F2,rfl,hA,fun x hx hc=>by have:=h2.lt x hc;have:=hF x hx;omega,h2.chg (Chg.of_below (F:=[]) hb) (fun _ _=>by simp)⟩,fun x hx=>by
  rcases List.mem_append.1 hx with h | h
  ·exact Nat.le_trans h1.size (hF x h)
  ·exact h3 x h⟩
theorem Own.turn {w0 w w':World} {As As' R:List Asr} (h:Own w0 w (As ++ R)) (hc:∀ F,Sep w As F → ∃ F',Sep w' As' F' ∧ Chg F w w' ∧ ∀ x ∈ F',x ∈ F ∨ w.heap.size ≤ x):Own w0 w' (As' ++ R):=by
 obtain ⟨h1,F,h2,h3⟩:=h
 obtain ⟨F1,F2,rfl,h4,h5,h6⟩:=h2.split
 obtain ⟨F',k1,k2,k3⟩:=hc F1 h4
 have hs:=h1.size
 refine ⟨Chg.below h1 k2 (fun x hx=>h3 x (by simp [hx])),F' ++ F2,k1.app (h6.chg k2 (fun x hx hc=>h5 x hc hx)) (fun x hx hc=>?_),fun x hx=>?_⟩
 ·rcases k3 x hx with h | h
  ·exact h5 x h hc
  ·have:=h6.lt x hc;omega
 ·rcases List.mem_append.1 hx with h | h
  ·rcases k3 x h with h | h
   ·exact h3 x (by simp [h])
   ·omega
  ·exact h3 x (by simp [h])
theorem sep_one {w:World} {A:Asr} {F:List Nat}:Sep w [A] F ↔ A.at_ w F:=by
 constructor
 ·rintro ⟨F1,F2,rfl,h1,h2,h3⟩
  unfold Sep at h3;subst h3;simpa using h1
 ·intro h;exact ⟨F,[],by simp,h,fun _ _=>by simp,rfl⟩
theorem pick_perm {α:Type}:∀ (l:List α) (i:Nat) (a:α),l[i]? = some a → l.Perm (a :: l.eraseIdx i)
 | [],i,a,h=>by simp at h
 | x :: l,0,a,h=>by simp at h;subst h;simp
 | x :: l,i + 1,a,h=>by
  simp only [List.getElem?_cons_succ] at h
  exact ((pick_perm l i a h).cons x).trans (.swap a x _)
theorem Own.pick {w0 w:World} {As:List Asr} (h:Own w0 w As) (i:Nat) {A:Asr} (hi:As[i]? = some A):Own w0 w (A :: As.eraseIdx i):=h.perm (pick_perm As i A hi)
theorem Own.fact {w0 w:World} {As:List Asr} (h:Own w0 w As) (i:Nat) {A:Asr} (hi:As[i]? = some A):∃ F,A.at_ w F ∧ ∀ x ∈ F,w0.heap.size ≤ x:=(h.pick i hi).head
theorem Own.weak {w0 w:World} {A A':Asr} {As:List Asr} (h:Own w0 w (A :: As)) (hA:∀ F,A.at_ w F → A'.at_ w F):Own w0 w (A' :: As) :=
 Own.turn (As:=[A]) (As':=[A']) (R:=As) h (fun F hF=>⟨F,sep_one.2 (hA F (sep_one.1 hF)),Chg.refl _ _,fun x hx=>.inl hx⟩)
end Go.Proofs.Ytklbaanpdacllaa
open Go Go.RowKit Go.Maps
set_option linter.unusedVariables false
namespace Go.Proofs.Ytklbaanpdacllaa
theorem lawU9:Keyed Try.prog 28:=int_keyed Try.underlying28
theorem zeroI9 (w:World):(zeroValue 3).run Try.prog w = .ok (.int .i64 0) w:=by kernel_rfl
theorem nodup_full (n:Nat) (l:List Nat) (hn:l.Nodup) (h:∀ x ∈ l,x < n):l.length ≤ n:=by
 have:=hn.length_le_of_subset (l₂:=List.range n) (fun x hx=>List.mem_range.2 (h x hx))
 rwa [List.length_range] at this
def LstD (D:DataW Unit) (m:Nat) (ps:List Nat):Prop :=
 (∀ x:Nat,x < m → x ∈ ps → has D (.int .u64 (x:Int)) = true ∧ D.atKey (.int .u64 (x:Int)) (.lit (.int .i64 0)) = .lit (.int .i64 (lastOf x ps:Int))) ∧ (∀ v:Int,(¬ ∃ x:Nat,v = x ∧ x < m ∧ x ∈ ps) → has D (.int .u64 v) = false) ∧ ∃ ks:List Nat,Maps.size D = ks.length ∧ ks.Nodup ∧ ∀ x,x ∈ ks ↔ x < m ∧ x ∈ ps
def Lst (w:World) (r m:Nat) (ps:List Nat):Prop :=
 ∃ D,w.ownsMap (H:=Unit) Try.prog 28 (plainElem Try.prog 3) r ps.length D ∧ LstD D m ps
def LstP (r m:Nat) (ps:List Nat):Asr where
 at_ w F:=F = [r] ∧ Lst w r m ps
 lt:=by rintro w F ⟨rfl,D,h,_⟩ x hx;simp at hx;subst hx;exact h.lt
 chg:=by
  rintro w w' F G ⟨rfl,D,h,h2⟩ c hd
  have hl:=h.lt
  obtain ⟨es,clock,hb,hF,hs,hD⟩:=h
  exact ⟨rfl,D,⟨es,clock,by rw [c.block r hl (hd r (by simp))];exact hb,hF,hs,hD⟩,h2⟩
theorem wfU9 {v:Nat} (h:v < 18446744073709551616):(Lit.int .u64 (v:Int)).wf = true:=WalkArith.wf_u64 (by omega)
theorem keyU9 {v:Nat} (h:v < 18446744073709551616):keyOf Try.prog 28 (.int .u64 (v:Int)) = some (.int .u64 (v:Int)):=keyOf_int_mk Try.underlying28 (wfU9 h)
theorem Own.lstNew {w0 w:World} {R:List Asr} (m:Nat) (h:Own w0 w R) {r:Nat} (hr:r = w.heap.size):Own w0 (w.alloc (.map #[] 0)) (LstP r m [] :: R):=by
 subst hr
 exact h.add (below_alloc1 w _) (A:=LstP w.heap.size m []) (F:=[w.heap.size]) ⟨rfl,_,World.ownsMap_made _ _ _ _,fun v _ hv=>by simp at hv,fun v _=>rfl,[],rfl,List.nodup_nil,fun v=>by simp⟩ (fun x hx=>by simp at hx;omega)
theorem Own.lstGet {w0 w:World} {r m:Nat} {ps:List Nat} {R:List Asr} (h:Own w0 w (LstP r m ps :: R)) (y:Nat) (hy:y < m) (hu:y < 18446744073709551616) :
  (Instr.lookup 43 (.map (some r)) (.int .u64 (y:Int)) false).run Try.prog w = .ok (.int .i64 (lastOf y ps:Int)) w:=by
 obtain ⟨F,⟨_,D,hD,h1,h2,h3⟩,_⟩:=h.fact 0 rfl
 obtain ⟨c,hrun,hat,hwc⟩:=hD.lookup_int lawU9 Try.underlying43 Try.underlying3 (zeroI9 _) (keyU9 hu)
 by_cases hm:y ∈ ps
 ·rw [(h1 y hy hm).2] at hat
  have hc:c = (lastOf y ps:Int):=by simpa using hat.symm
  rw [hc] at hrun
  exact hrun
 ·rw [atKey_of_not_has (h2 y (by rintro ⟨x,e,_,hx⟩;have e2:y = x:=(by omega);rw [e2] at hm;exact hm hx))] at hat
  have hc:c = 0:=by simpa using hat.symm
  rw [hc] at hrun
  have h0:lastOf y ps = 0:=by have:=mt (last_pos y ps).1 hm;omega
  rw [h0]
  exact hrun
theorem Own.lstPut {w0 w:World} {r m:Nat} {ps:List Nat} {R:List Asr} (h:Own w0 w (LstP r m ps :: R)) (y:Nat) (hy:y < m) (hu:y < 18446744073709551616) (hl:ps.length ≤ 100000) :
  ∃ w',(Instr.mapUpdate 43 (.map (some r)) (.int .u64 (y:Int)) (.int .i64 ((ps.length:Int) + 1))).run Try.prog w = .ok () w' ∧ Own w0 w' (LstP r m (ps ++ [y]) :: R):=by
 obtain ⟨F,⟨_,D,hD,h1,h2,ks,h3,h4,h5⟩,_⟩:=h.fact 0 rfl
 obtain ⟨w',hrun,hD',hg⟩:=hD.update lawU9 Try.underlying43 (by unfold maxLen;omega) (keyU9 hu) (plainElem_int Try.underlying3 (a:=(ps.length:Int) + 1) (WalkArith.wf_i64 (by omega)))
 refine ⟨w',hrun,Own.turn (As:=[LstP r m ps]) (As':=[LstP r m (ps ++ [y])]) (R:=R) h (fun F hF=>?_)⟩
 obtain ⟨rfl,_⟩:=sep_one.1 hF
 have hkl:WideAt.IsKeyLit (Lit.int .u64 (y:Int)):=by first | trivial | simp [WideAt.IsKeyLit]
 have hne:∀ {u:Nat},u ≠ y → (Lit.int .u64 (u:Int)) ≠ .int .u64 (y:Int):=fun e hc=>e (by injection hc with _ hc;omega)
 refine ⟨[r],sep_one.2 ⟨rfl,D.put (.int .u64 (y:Int)) (.lit (.int .i64 ((ps.length:Int) + 1))),by rw [List.length_append];exact hD',fun u hum hu=>?_,fun v hv=>?_,if y ∈ ps then ks else ks ++ [y],?_,?_,fun u=>?_⟩,(grownBy_chg hg).mono (by simp),fun x hx=>.inl hx⟩
 ·by_cases e:u = y
  ·subst e
   refine ⟨has_put_same hD.isMap hkl _,?_⟩
   rw [atKey_put_same hD.isMap hkl _ _,last_snoc,if_pos rfl]
   simp
  ·have hu':u ∈ ps:=by rcases List.mem_append.1 hu with h | h;exact h;exact absurd (List.mem_singleton.1 h) e
   rw [has_put_other (hne e),atKey_put_other (hne e),last_snoc,if_neg (fun q=>e q.symm)]
   exact h1 u hum hu'
 ·have e:v ≠ (y:Int):=fun hc=>hv ⟨y,hc,hy,by simp⟩
  have hne:(Lit.int .u64 v) ≠ .int .u64 (y:Int):=fun hc=>e (by injection hc)
  rw [has_put_other hne]
  exact h2 v (fun ⟨x,a,b,c⟩=>hv ⟨x,a,b,List.mem_append.2 (.inl c)⟩)
 ·rw [size_put (hD.tidy lawU9)]
  by_cases hm:y ∈ ps
  ·rw [(h1 y hy hm).1,if_pos hm,h3];rfl
  ·rw [h2 y (by rintro ⟨x,e,_,hx⟩;have e2:y = x:=(by omega);rw [e2] at hm;exact hm hx),if_neg hm,h3,List.length_append];rfl
 ·by_cases hm:y ∈ ps
  ·rw [if_pos hm];exact h4
  ·rw [if_neg hm]
   exact List.nodup_append.2 ⟨h4,by simp,fun a ha b hb e=>by
    rw [List.mem_singleton.1 hb] at e
    rw [e] at ha
    exact hm ((h5 y).1 ha).2⟩
 ·by_cases hm:y ∈ ps
  ·rw [if_pos hm,h5,List.mem_append]
   exact ⟨fun ⟨a,b⟩=>⟨a,.inl b⟩,fun ⟨a,h⟩=>⟨a,h.elim id (fun h=>by rw [List.mem_singleton.1 h];exact hm)⟩⟩
  ·rw [if_neg hm,List.mem_append,List.mem_append,h5,List.mem_singleton]
   exact ⟨fun h=>h.elim (fun ⟨a,b⟩=>⟨a,.inl b⟩) (fun e=>by rw [e];exact ⟨hy,.inr rfl⟩),fun ⟨a,h⟩=>h.elim (fun b=>.inl ⟨a,b⟩) .inr⟩
theorem Own.lstSkip {w0 w:World} {r m:Nat} {ps:List Nat} {R:List Asr} (h:Own w0 w (LstP r m ps :: R)) (y:Nat) (hy:¬ y < m):Own w0 w (LstP r m (ps ++ [y]) :: R):=by
 refine h.weak (fun F hF=>?_)
 obtain ⟨e,D,⟨es,clock,hb,hF,hs,hD⟩,h1,h2,ks,h3,h4,h5⟩:=hF
 have hin:∀ u,u < m → (u ∈ ps ++ [y] ↔ u ∈ ps):=fun u hu=>by
  rw [List.mem_append,List.mem_singleton]
  exact ⟨fun h=>h.elim id (fun e=>by omega),.inl⟩
 refine ⟨e,D,⟨es,clock,hb,hF,by rw [List.length_append];omega,hD⟩,fun u hu hp=>?_,fun v hv=>h2 v (fun ⟨x,a,b,c⟩=>hv ⟨x,a,b,(hin x b).2 c⟩),ks,h3,h4,fun x=>?_⟩
 ·rw [last_snoc,if_neg (by omega)]
  exact h1 u hu ((hin u hu).1 hp)
 ·rw [h5]
  exact ⟨fun ⟨a,b⟩=>⟨a,(hin x a).2 b⟩,fun ⟨a,b⟩=>⟨a,(hin x a).1 b⟩⟩
theorem Own.lstLen {w0 w:World} {r m:Nat} {ps:List Nat} {R:List Asr} (h:Own w0 w (LstP r m ps :: R)) (ty:TypeId) :
  ∃ n:Nat,(Builtin.len_ #[43] ty #[.map (some r)]).run Try.prog w = .ok (.int .i64 (n:Int)) w ∧ n ≤ m ∧ (n < m ↔ ¬ ∀ x,x < m → x ∈ ps):=by
 obtain ⟨F,⟨_,D,hD,h1,h2,ks,h3,h4,h5⟩,_⟩:=h.fact 0 rfl
 have hle:ks.length ≤ m:=nodup_full m ks h4 fun x hx=>((h5 x).1 hx).1
 refine ⟨ks.length,by rw [hD.len Try.underlying43 ty,h3],hle,fun hlt hall=>?_,fun hn=>?_⟩
 ·have:=List.nodup_range.length_le_of_subset (l₁:=List.range m) (l₂:=ks) (fun x hx=>(h5 x).2 ⟨List.mem_range.1 hx,hall x (List.mem_range.1 hx)⟩)
  rw [List.length_range] at this
  omega
 ·rcases Nat.lt_or_ge ks.length m with hlt | hge
  ·exact hlt
  ·exfalso
   apply hn
   intro x hx
   rcases Classical.em (x ∈ ks) with hk | hk
   ·exact ((h5 x).1 hk).2
   ·have:=nodup_full m (x :: ks) (List.nodup_cons.2 ⟨hk,h4⟩) (fun z hz=>by
     rcases List.mem_cons.1 hz with h | h
     ·omega
     ·exact ((h5 z).1 h).1)
    simp at this
    omega
end Go.Proofs.Ytklbaanpdacllaa


open Go Go.RowKit
set_option linter.unusedVariables false
namespace Go.Proofs.Ytklbaanpdacllaa
def room:Nat → Nat
 | 0=>0
 | f + 1=>if f = 0 then 2 else 128 * room f



def IsRow (k:IntKind) (w:World) (a:Option Addr) (len cap:Nat) (zs:List Int):Prop :=
 (a = none ∧ len = 0 ∧ cap = 0 ∧ zs = []) ∨
 ∃ x,a = some x ∧ len ≤ cap ∧ cap ≤ maxLen ∧ zs.length = cap ∧ (∀ i,i < zs.length → w.cell? (x.add i) = some (.int k (zs.getD i 0))) ∧ ∀ n ∈ zs,(Lit.int k n).wf = true
def Cells (k:IntKind) (w:World) (a:Option Addr) (zs:List Int):Prop :=
 ∀ i (h:i < zs.length),∃ b off,a = some ⟨b,off,none⟩ ∧ w.cell? ⟨b,off + i,none⟩ = some (.int k zs[i]) ∧ (Lit.int k zs[i]).wf = true
theorem IsRow.cells {k:IntKind} {w:World} {a:Option Addr} {len cap:Nat} {zs:List Int} (h:IsRow k w a len cap zs) :
  len ≤ cap ∧ cap ≤ maxLen ∧ (zs.take len).length = len ∧ Cells k w a (zs.take len):=by
 rcases h with ⟨rfl,rfl,rfl,rfl⟩ | ⟨x,rfl,hlc,hcm,hzl,hcell,hwf⟩
 ·exact ⟨Nat.le_refl _,Nat.zero_le _,rfl,fun i h=>by simp at h⟩
 ·refine ⟨hlc,hcm,by simp;omega,fun i h=>?_⟩
  simp at h
  obtain ⟨b,off,rfl,hc⟩:=ints_at hcell (by omega)
  refine ⟨b,off,rfl,?_,?_⟩
  ·rw [hc i (by omega),List.getElem_take,List.getD_eq_getElem?_getD,List.getElem?_eq_getElem (by omega)];rfl
  ·rw [List.getElem_take];exact hwf _ (List.getElem_mem _)
end Go.Proofs.Ytklbaanpdacllaa

open Go Go.RowKit
set_option linter.unusedVariables false
namespace Go.Proofs.Ytklbaanpdacllaa
abbrev Rec:=Int × Nat
def Rec.ok (r:Rec):Prop:=1 ≤ r.1 ∧ r.1 ≤ 4 ∧ r.2 < 4611686018427387904
instance (r:Rec):Decidable (Rec.ok r):=by unfold Rec.ok;infer_instance


def recCells (l:List Rec):List Value:=l.flatMap fun r=>[Value.int .i64 r.1,Value.int .u64 (r.2:Int)]
theorem recCells_at:∀ (l:List Rec) (i:Nat) (h:i < l.length),(recCells l)[i * 2]? = some (.int .i64 l[i].1) ∧ (recCells l)[i * 2 + 1]? = some (.int .u64 (l[i].2:Int))
 | r :: l,0,_=>⟨rfl,rfl⟩
 | r :: l,i + 1,h=>by
  have:=recCells_at l i (by simpa using h)
  have e:recCells (r :: l) = .int .i64 r.1 :: .int .u64 (r.2:Int) :: recCells l:=rfl
  rw [e,show (i + 1) * 2 = i * 2 + 2 by omega]
  exact this
theorem recCells_app (l:List Rec) (r:Rec):recCells (l ++ [r]) = recCells l ++ [.int .i64 r.1,.int .u64 (r.2:Int)]:=by
 simp only [recCells,List.flatMap_append,List.flatMap_cons,List.flatMap_nil,List.append_nil]

def RecsAt (w:World) (a:Option Addr) (l:List Rec):Prop :=
 ∀ i (h:i < l.length),∃ b off,a = some ⟨b,off,none⟩ ∧ w.cell? ⟨b,off + i * 2,none⟩ = some (.int .i64 l[i].1) ∧ w.cell? ⟨b,off + i * 2 + 1,none⟩ = some (.int .u64 (l[i].2:Int))
theorem RecsAt.below {w w':World} {a:Option Addr} {l:List Rec} (h:RecsAt w a l) (hb:Below w.heap.size w w'):RecsAt w' a l:=fun i hi=>by
 obtain ⟨b,off,h1,h2,h3⟩:=h i hi
 have hlt:b < w.heap.size:=World.block_lt_of_cell? w _ h2
 exact ⟨b,off,h1,by rw [hb.cell (p:=⟨b,off + i * 2,none⟩) hlt];exact h2,by rw [hb.cell (p:=⟨b,off + i * 2 + 1,none⟩) hlt];exact h3⟩
theorem RecsAt.take {w:World} {a:Option Addr} {l:List Rec} (h:RecsAt w a l) (m:Nat):RecsAt w a (l.take m):=fun i hi=>by
 simp at hi
 obtain ⟨b,off,h1,h2,h3⟩:=h i (by omega)
 exact ⟨b,off,h1,by rw [List.getElem_take];exact h2,by rw [List.getElem_take];exact h3⟩


end Go.Proofs.Ytklbaanpdacllaa


open Go Go.RowKit
set_option linter.unusedVariables false
namespace Go.Proofs.Ytklbaanpdacllaa
def RowG (s:Nat) (w:World) (a:Option Addr) (cap n:Nat) (cs:List Value):Prop :=
 cs.length = n * s ∧ n ≤ cap ∧ cap ≤ maxLen ∧ ((a = none ∧ cap = 0) ∨ ∃ b off,a = some ⟨b,off,none⟩ ∧ b < w.heap.size ∧
  (∀ j,j < cap * s → (w.cell? ⟨b,off + j,none⟩).isSome = true ∧ w.frozen? ⟨b,off + j,none⟩ = false) ∧ ∀ j v,cs[j]? = some v → w.cell? ⟨b,off + j,none⟩ = some v)
def CellsAt (w:World) (a:Option Addr) (cs:List Value):Prop:=∀ j v,cs[j]? = some v → ∃ b off,a = some ⟨b,off,none⟩ ∧ w.cell? ⟨b,off + j,none⟩ = some v
theorem RowG.cells {s:Nat} {w:World} {a:Option Addr} {cap n:Nat} {cs:List Value} (h:RowG s w a cap n cs):CellsAt w a cs:=fun j v hj=>by
 obtain ⟨h1,h2,h3,h4⟩:=h
 rcases h4 with ⟨rfl,h0⟩ | ⟨b,off,rfl,hb,h5,h6⟩
 ·have hl:=(List.getElem?_eq_some_iff.1 hj).1
  have:n = 0:=by omega
  subst this;simp at h1;subst h1;simp at hl
 ·exact ⟨b,off,rfl,h6 j v hj⟩
theorem RowG.lt {s:Nat} {w:World} {a:Option Addr} {cap n:Nat} {cs:List Value} (h:RowG s w a cap n cs):∀ x ∈ blk a,x < w.heap.size:=by
 rcases h.2.2.2 with ⟨rfl,_⟩ | ⟨b,off,rfl,hb,_⟩
 ·intro x hx;simp [blk] at hx
 ·intro x hx;simp [blk] at hx;subst hx;exact hb
theorem RowG.chg {s:Nat} {F:List Nat} {w w':World} {a:Option Addr} {cap n:Nat} {cs:List Value} (h:RowG s w a cap n cs) (c:Chg F w w') (hd:∀ x ∈ blk a,x ∉ F):RowG s w' a cap n cs:=by
 refine ⟨h.1,h.2.1,h.2.2.1,?_⟩
 rcases h.2.2.2 with h0 | ⟨b,off,rfl,hb,h1,h2⟩
 ·exact .inl h0
 ·have hk:=c.block b hb (hd b (by simp [blk]))
  refine .inr ⟨b,off,rfl,Nat.lt_of_lt_of_le hb c.size,fun j hj=>?_,fun j v hj=>?_⟩
  ·rw [cell_of_heap hk,World.frozen?_of_block (a:=⟨b,off + j,none⟩) hk];exact h1 j hj
  ·rw [cell_of_heap hk];exact h2 j v hj
theorem RowG.zero {s:Nat} {w:World} {b:Nat} (hb:b < w.heap.size):RowG s w (some ⟨b,0,none⟩) 0 0 []:=⟨by simp,by simp,by simp,.inr ⟨b,0,rfl,hb,fun j hj=>by simp at hj,fun j v hj=>by simp at hj⟩⟩
theorem CellsAt.new (w:World) (cs:List Value) (t:TypeId) {b:Nat} (hb:b = w.heap.size):CellsAt (w.alloc (.cells cs.toArray t)) (some ⟨b,0,none⟩) cs:=fun j v hj=>by
 subst hb
 exact ⟨_,0,rfl,by rw [Nat.zero_add];exact (Blk.new w cs.toArray t j v hj).1⟩
theorem RowG.of_own {s:Nat} {w:World} {base n:Nat} {e:TypeId} {v:Value} {cs:List Value} (h:w.ownsRow base e s v n cs):∃ a cap,v = .slice a n cap ∧ RowG s w a cap n cs ∧ ∀ x ∈ blk a,base ≤ x:=by
 have hx:=h.1
 rcases h.2 with ⟨rfl,h0⟩ | ⟨g,cap,cur,rfl,hb,hg,h1,h2,h3,h4⟩
 ·exact ⟨none,0,by rw [h0],⟨hx,by omega,by simp,.inl ⟨rfl,rfl⟩⟩,fun x hx=>by simp [blk] at hx⟩
 ·have hlt:g < w.heap.size:=(Array.getElem?_eq_some_iff.1 hg).1
  refine ⟨_,cap,rfl,⟨hx,h1,h2,.inr ⟨g,0,rfl,hlt,fun j hj=>⟨?_,?_⟩,fun j v hj=>?_⟩⟩,fun x hx=>by simp [blk] at hx;subst hx;exact hb⟩
  ·rw [Nat.zero_add,cell_of_row w g j cur e (0,0) hg,Array.getElem?_eq_getElem (by omega)];rfl
  ·rw [Nat.zero_add];exact frozen_of_row w g j cur e hg
  ·rw [Nat.zero_add,cell_of_row w g j cur e (0,0) hg]
   rw [← h4,List.getElem?_take] at hj
   split at hj
   ·simpa using hj
   ·cases hj
theorem append_rowG {P:Program} {w:World} {s by_:Nat} (t ty e:TypeId) (i:TypeInfo) (z:Value) (ht:P.underlying t = some (.slice e)) (hi:P.info? e = some i) (hz:i.zero = some z) (hsize:i.size = s) (hby:i.bytes = by_) (hzs:z.cells.size = s) (hs0:0 < s) (hb0:by_ ≤ 1000)
  {a b:Option Addr} {cap c n m:Nat} {cs ds:List Value} (ha:RowG s w a cap n cs) (hb:CellsAt w b ds) (hd:ds.length = m * s) (hone:∀ u ∈ ds,u.oneCell' = true) (h47:n + m ≤ 1000000000) :
  ∃ a' cap' w',(Builtin.append_ #[t,t] ty #[.slice a n cap,.slice b m c]).run P w = .ok (.slice a' (n + m) cap') w' ∧ RowG s w' a' cap' (n + m) (cs ++ ds) ∧ Chg (blk a) w w' ∧ ∀ x ∈ blk a',x ∈ blk a ∨ w.heap.size ≤ x:=by
 have hbyt:(n + m) * by_ ≤ 140737488355328:=Nat.le_trans (Nat.mul_le_mul h47 hb0) (by omega)
 cases b with
 | none =>
  have hdn:ds = []:=by
   cases ds with
   | nil=>rfl
   | cons x t=>obtain ⟨_,_,h1,_⟩:=hb 0 x rfl;cases h1
  subst hdn
  have:m = 0:=by
   have h0:m * s = 0:=by rw [← hd];rfl
   rcases Nat.mul_eq_zero.1 h0 with h | h
   ·exact h
   ·omega
  subst this
  have hl:=ha.2.1
  refine ⟨a,cap,w,?_,by simpa using ha,Chg.refl _ _,fun x hx=>.inl hx⟩
  cases a <;> simp [Builtin.append_,run_underlying ht,sizeOf,typeInfo,hi,Builtin.lenOf,Builtin.firstCells,storeCells,hl]
 | some ad =>
  by_cases hm0:m = 0
  ·subst hm0
   have hdn:ds = []:=List.length_eq_zero_iff.1 (by rw [hd];simp)
   subst hdn
   have hl:=ha.2.1
   refine ⟨a,cap,w,?_,by simpa using ha,Chg.refl _ _,fun x hx=>.inl hx⟩
   cases a <;> simp [Builtin.append_,run_underlying ht,sizeOf,typeInfo,hi,Builtin.lenOf,Builtin.firstCells,storeCells,loadCells,loadCellsFrom,hl]
  have hnews:∀ j u,ds[j]? = some u → w.cell? (ad.add j) = some u:=fun j u hj=>by
   obtain ⟨b,off,h1,h2⟩:=hb j u hj
   cases h1
   rw [Addr.add_lit,h2]
  rcases ha.2.2.2 with ⟨rfl,h0⟩ | ⟨b,off,rfl,hbl,h1,h2⟩
  ·obtain rfl:n = 0:=by have:=ha.2.1;omega
   have hl0:cs = []:=List.length_eq_zero_iff.1 (by have:=ha.1;omega)
   subst hl0
   subst h0
   obtain ⟨v',w',hr,r1,r2,_⟩:=run_append_own (P:=P) w w.heap.size t ty e i z s by_ ht hi hz hsize hby hzs hs0 (.slice none 0 0) 0 [] (World.ownsRow_nil _ _ _ _) ad m c ds hd hnews hone (by unfold maxLen;omega) hbyt (Nat.le_refl _)
   simp only [List.nil_append] at r1
   obtain ⟨a',cap',rfl,hrow,hbase⟩:=RowG.of_own r1
   exact ⟨a',cap',w',hr,by simpa using hrow,grownBy_chg r2 |>.mono (by simp [Value.ownBlock,blk]),fun x hx=>.inr (hbase x hx)⟩
  ·by_cases hroom:n + m ≤ cap
   ·have hcap:(n + m) * s ≤ cap * s:=Nat.mul_le_mul_right _ hroom
    rw [Nat.add_mul] at hcap
    have hr:=run_append_room_cells (P:=P) w t ty e i ht hi b off n cap ad m c ds (by rw [hd,hsize]) hnews hone hroom
     (fun j hj=>by rw [hsize];have:=(h1 (n * s + j) (by omega)).1;rwa [← Nat.add_assoc] at this)
     (fun j hj=>by rw [hsize];have:=(h1 (n * s + j) (by omega)).2;rwa [← Nat.add_assoc] at this)
    rw [hsize] at hr
    have hin:=World.cell?_setCells_in b ds (off + n * s) w (fun j hj=>by have:=(h1 (n * s + j) (by omega)).1;rwa [← Nat.add_assoc] at this)
    have hcl:=ha.1
    refine ⟨_,cap,_,hr,⟨by rw [List.length_append,hd,hcl,Nat.add_mul],hroom,ha.2.2.1,.inr ⟨b,off,rfl,Nat.lt_of_lt_of_le hbl ((Chg.refl [b] w).setCells ds (off + n * s) (.inl (by simp))).size,fun j hj=>⟨?_,?_⟩,fun j v hj=>?_⟩⟩,(Chg.refl _ _).setCells _ _ (.inl (by simp [blk])),fun x hx=>.inl hx⟩
    ·by_cases hj2:n * s ≤ j ∧ j < n * s + m * s
     ·have:=hin (j - n * s) (by omega)
      rw [show off + n * s + (j - n * s) = off + j by omega] at this
      rw [this];rfl
     ·rw [World.cell?_setCells_out b ds _ w _ (fun _ _=>by simp only;omega)]
      exact (h1 j hj).1
    ·rw [World.frozen?_setCells];exact (h1 j hj).2
    ·by_cases hj2:j < n * s
     ·rw [List.getElem?_append_left (by omega)] at hj
      rw [World.cell?_setCells_out b ds _ w _ (fun _ _=>by simp only;omega)]
      exact h2 j v hj
     ·rw [List.getElem?_append_right (by omega),hcl] at hj
      have hlt:j - n * s < ds.length:=(List.getElem?_eq_some_iff.1 hj).1
      have:=hin (j - n * s) hlt
      rw [show off + n * s + (j - n * s) = off + j by omega] at this
      rw [this]
      rw [List.getElem?_eq_getElem hlt] at hj
      exact hj
   ·obtain ⟨v',w',hr,r1,r2⟩:=run_append_arg_grows (P:=P) w t ty e i z s by_ ht hi hz hsize hby hzs hs0 ⟨b,off,none⟩ n cap cs ha.1 (fun j u hj=>by rw [Addr.add_lit];exact h2 j u hj) ad m c ds hd hnews (by omega) (by unfold maxLen;omega) hbyt
    obtain ⟨a',cap',rfl,hrow,hbase⟩:=RowG.of_own r1
    exact ⟨a',cap',w',hr,hrow,(grownBy_chg r2).mono (by simp),fun x hx=>.inr (hbase x hx)⟩
theorem wpList_append_rowG {P:Program} {w:World} {ops:Array Oper} {rest:List Oper} {o:Oper} {ac:Act} {Q:Exit → Act → World → Prop} {s by_:Nat} (hgd:o.guard = none) (sl x:Operand) (t:TypeId)
  (ho:o.op = .call { callee:=.builtin .append,args:=#[sl,x],argTypes:=#[t,t] }) (e:TypeId) (i:TypeInfo) (z:Value) (ht:P.underlying t = some (.slice e)) (hi:P.info? e = some i) (hz:i.zero = some z) (hsize:i.size = s) (hby:i.bytes = by_) (hzs:z.cells.size = s) (hs0:0 < s) (hb0:by_ ≤ 1000)
  {a b:Option Addr} {cap c n m:Nat} {cs ds:List Value} (hs:ac.eval sl = .slice a n cap) (hx:ac.eval x = .slice b m c) (ha:RowG s w a cap n cs) (hb:CellsAt w b ds) (hd:ds.length = m * s) (hone:∀ u ∈ ds,u.oneCell' = true) (h47:n + m ≤ 1000000000)
  (h:∀ a' cap' w',RowG s w' a' cap' (n + m) (cs ++ ds) → Chg (blk a) w w' → (∀ x ∈ blk a',x ∈ blk a ∨ w.heap.size ≤ x) → wpList P ops Q rest (ac.put o.dst (.slice a' (n + m) cap')) w'):wpList P ops Q (o :: rest) ac w:=by
 refine wpList_plain hgd fun K hK=>?_
 obtain ⟨a',cap',w',hr,h2,h3,h4⟩:=append_rowG (P:=P) (w:=w) t o.type e i z ht hi hz hsize hby hzs hs0 hb0 ha (c:=c) hb hd hone h47
 unfold Oper.wp execOp
 simp only [ho,resolve,invoke,builtin,Sem.run_bind,Sem.run_pure,Result.andThen_ok,List.map_toArray,List.map_cons,List.map_nil,hs,hx,hr]
 exact hK _ _ (h a' cap' w' h2 h3 h4)
def RowGA (s:Nat) (a:Option Addr) (cap n:Nat) (cs:List Value):Asr where
 at_ w F:=F = blk a ∧ RowG s w a cap n cs
 lt:=by rintro w F ⟨rfl,h1⟩ x hx;exact h1.lt x hx
 chg:=by rintro w w' F G ⟨rfl,h1⟩ c hd;exact ⟨rfl,h1.chg c hd⟩
theorem Own.rowG {w0 w:World} {As:List Asr} (h:Own w0 w As) (i:Nat) {s:Nat} {a:Option Addr} {cap n:Nat} {cs:List Value} (hi:As[i]? = some (RowGA s a cap n cs)):RowG s w a cap n cs:=by
 obtain ⟨F,⟨_,h1⟩,_⟩:=h.fact i hi;exact h1
theorem Own.rowTurn {w0 w w':World} {As:List Asr} {s:Nat} {a a':Option Addr} {cap cap' n n':Nat} {cs cs':List Value} (h:Own w0 w (RowGA s a cap n cs :: As)) (hr:RowG s w' a' cap' n' cs') (c:Chg (blk a) w w') (hf:∀ x ∈ blk a',x ∈ blk a ∨ w.heap.size ≤ x) :
  Own w0 w' (RowGA s a' cap' n' cs' :: As):=by
 refine Own.turn (As:=[RowGA s a cap n cs]) (As':=[RowGA s a' cap' n' cs']) (R:=As) h (fun F hF=>?_)
 obtain ⟨rfl,h1⟩:=sep_one.1 hF
 exact ⟨blk a',sep_one.2 ⟨rfl,hr⟩,c,hf⟩
end Go.Proofs.Ytklbaanpdacllaa




open Go Go.RowKit Go.Maps
set_option linter.unusedVariables false
namespace Go.Proofs.Ytklbaanpdacllaa
def picksOf (l:List Rec):List Nat:=(l.filter (fun r=>r.1 == 1)).map (·.2)
theorem picks_snoc (l:List Rec) (k:Nat) (h:k < l.length):picksOf (l.take (k + 1)) = if l[k].1 = 1 then picksOf (l.take k) ++ [l[k].2] else picksOf (l.take k):=by
 unfold picksOf
 rw [List.take_succ_eq_append_getElem h,List.filter_append]
 by_cases e:l[k].1 = 1
 ·rw [if_pos e];simp [e]
 ·rw [if_neg e];simp [e]
theorem picks_len (l:List Rec):(picksOf l).length ≤ l.length:=by
 unfold picksOf;rw [List.length_map];exact List.length_filter_le _ _
theorem win_any (a:Option Addr) (cap:Nat) (l:List Rec) (z:Int) (w:World) (hl:l.length ≤ 1000) (hz:z ≤ 1000) (hat:RecsAt w a l) (hu:∀ r ∈ l,r.2 < 18446744073709551616) :
  Calls Try.prog 8 #[.slice a l.length cap,.int .i64 z] w fun e w'=>e = .returned (.int .i64 (winW (picksOf l) z.toNat:Int)) ∧ Below w.heap.size w w':=by
 have Hat:=Lib.hid hat;clear hat
 have Hu:=Lib.hid hu;clear hu
 obtain ⟨m,hm⟩:∃ m,m = l.length:=⟨_,rfl⟩
 rw [← hm] at hl ⊢
 have Hm:=Lib.hid hm;clear hm
 obtain ⟨M,hM⟩:∃ M,M = z.toNat:=⟨_,rfl⟩
 rw [← hM]
 have HM:=Lib.hid hM;clear hM
 generalize hrr:(winW (picksOf l) M:Int) = rr
 have Hrr:=Lib.hid hrr;clear hrr
 go_enter Try.func8,Try.ntmps8
 have O0:Hid (Own w (w.alloc (.map #[] 0)) [LstP w.heap.size M []]):=Lib.hid (Own.lstNew M (Own.nil (Below.refl _ _)) rfl)
 have hmm:∀ wr:World,(Instr.makeMap 43 none).run Try.prog wr = .ok (.map (some wr.heap.size)) (wr.alloc (.map #[] 0)):=fun wr=>run_makeMap_plain wr _
 have hlk:∀ (w:World) (ps:List Nat) (wr:World) (y:Nat),y < M → y < 18446744073709551616 → ∀ r,Own w wr [LstP r M ps] → (Instr.lookup 43 (.map (some r)) (.int .u64 (y:Int)) false).run Try.prog wr = .ok (.int .i64 (lastOf y ps:Int)) wr:=fun w ps wr y h1 h2 r h=>h.lstGet y h1 h2
 have HLK:=Lib.hid hlk;clear hlk
 go_wp2_with fail
 generalize hr:w.heap.size = r at O0 ⊢
 have Hr:=Lib.hid hr;clear hr
 go_loopw [6,7,15] (fun p v c wr=>∃ k:Nat,k ≤ m ∧ c = .int .i64 k ∧ p = .int .i64 ((picksOf (l.take k)).length:Int) ∧ v = .int .i64 (gapOf M (picksOf (l.take k)):Int) ∧ Hid (Own w wr [LstP r M (picksOf (l.take k))])) (fun _ _ c _=>m - (intOf c).toNat)
 case atStart=>exact ⟨0,by omega,rfl,rfl,rfl,O0⟩
 case round =>
  obtain ⟨k,hk,rfl,rfl,rfl,HO⟩:=hrel
  by_cases hlt:k < m
  ·obtain ⟨b,off,rfl,h0',h1'⟩:=Hat.out k (by have:=Hm.out;omega)
   have hbl:b < w.heap.size:=World.block_lt_of_cell? w _ h0'
   have hsn:=picks_snoc l k (by have:=Hm.out;omega)
   have hub:=Hu.out _ (List.getElem_mem (by have:=Hm.out;omega:k < l.length))
   generalize l[k]'(by have:=Hm.out;omega) = rc at h0' h1' hsn hub
   obtain ⟨rk,rn⟩:=rc
   simp only at h0' h1' hub hsn
   have g0:wr.cell? ⟨b,off + k * 2,none⟩ = some (.int .i64 rk):=by rw [HO.out.bel.cell (p:=⟨b,off + k * 2,none⟩) hbl];exact h0'
   have g1:wr.cell? ⟨b,off + k * 2 + 1,none⟩ = some (.int .u64 (rn:Int)):=by rw [HO.out.bel.cell (p:=⟨b,off + k * 2 + 1,none⟩) hbl];exact h1'
   clear h0' h1'
   have hpl:(picksOf (l.take k)).length ≤ k:=by have:=picks_len (l.take k);rw [List.length_take] at this;omega
   generalize hps:picksOf (l.take k) = ps at HO hsn hpl ⊢
   have Hps:=Lib.hid hps;clear hps
   have Hsn:=Lib.hid hsn;clear hsn
   have O1:=Lib.hid (HO.out.step (below_alloc1 wr (.cells #[.int .i64 rk,.int .u64 (rn:Int)] 30)))
   have hend:∀ wx (p2 v2:Int),p2 = ((picksOf (l.take (k + 1))).length:Int) → v2 = (gapOf M (picksOf (l.take (k + 1))):Int) → Own w wx [LstP r M (picksOf (l.take (k + 1)))] → (∃ k_1:Nat,k_1 ≤ m ∧ Value.int IntKind.i64 ((k:Int) + 1) = Value.int IntKind.i64 k_1 ∧ Value.int IntKind.i64 p2 = Value.int IntKind.i64 ((picksOf (l.take k_1)).length:Int) ∧ Value.int IntKind.i64 v2 = Value.int IntKind.i64 (gapOf M (picksOf (l.take k_1)):Int) ∧ Hid (Own w wx [LstP r M (picksOf (l.take k_1))])) ∧ m - (intOf (Value.int IntKind.i64 ((k:Int) + 1))).toNat < m - (intOf (Value.int IntKind.i64 (k:Int))).toNat:=fun wx p2 v2 e1 e2 h=>⟨⟨k + 1,by omega,by simp,by rw [e1],by rw [e2],Lib.hid h⟩,by simp [intOf];omega⟩
   have HE:=Lib.hid hend;clear hend
   by_cases hk1:rk = 1
   ·subst hk1
    have hsn:picksOf (l.take (k + 1)) = ps ++ [rn]:=by rw [Hsn.out,if_pos rfl]
    by_cases hin:rn < M
    ·have hgl:=gap_le M ps
     have hll:=last_le rn ps
     have hzz:0 ≤ z ∧ (rn:Int) < z:=by have:=HM.out;omega
     obtain ⟨hz0,hz1⟩:=hzz
     have hz2:¬ z < 0:=by omega
     have hL:=O1.out.lstGet rn hin hub
     obtain ⟨w2,hU,O2⟩:=O1.out.lstPut rn hin hub (by omega)
     have hg:=gap_snoc M rn ps
     rw [if_pos hin] at hg
     have Hg:=Lib.hid hg;clear hg
     have O2':=Lib.hid O2;clear O2
     have HSN:=Lib.hid hsn;clear hsn
     generalize hq:lastOf rn ps = q at hL hll Hg ⊢
     clear hq
     generalize hgv:gapOf M ps = gv at hgl Hg ⊢
     generalize hN:ps.length = N at *
     have HN:=Lib.hid hN;clear hN
     go_wp2_with fail
     refine HE.out _ _ _ (by rw [HSN.out,List.length_append,HN.out];simp) (by rw [HSN.out,Hg.out];split <;> omega) (by rw [HSN.out];exact O2'.out)
    ·have hz3:¬ (rn:Int) < (if z < 0 then 0 else z):=by have:=HM.out;split <;> omega
     have O2:=Lib.hid (O1.out.lstSkip rn hin)
     have hg:=gap_snoc M rn ps
     rw [if_neg hin] at hg
     have Hg:=Lib.hid hg;clear hg
     have HSN:=Lib.hid hsn;clear hsn
     have HIN:=Lib.hid hin;clear hin
     by_cases hz:z < 0
     ·rw [if_pos hz] at hz3
      have hz4:¬ 0 ≤ z:=by omega
      go_wp2_with fail
      exact HE.out _ _ _ (by rw [HSN.out,List.length_append];simp) (by rw [HSN.out,Hg.out]) (by rw [HSN.out];exact O2.out)
     ·rw [if_neg hz] at hz3
      have hz4:0 ≤ z:=by omega
      have hz5:(decide ((rn:Int) < z)) = false:=by simpa using hz3
      go_wp2_with fail
      exact HE.out _ _ _ (by rw [HSN.out,List.length_append];simp) (by rw [HSN.out,Hg.out]) (by rw [HSN.out];exact O2.out)
   ·have hk2:(rk == 1) = false:=by simpa using hk1
    have hsn:picksOf (l.take (k + 1)) = ps:=by rw [Hsn.out,if_neg hk1]
    go_wp2_with fail
    exact HE.out _ _ _ (by rw [hsn]) (by rw [hsn]) (by rw [hsn];exact O1.out)
  ·obtain rfl:k = m:=by omega
   have hps:picksOf (l.take k) = picksOf l:=by rw [Hm.out,List.take_length]
   rw [hps] at HO ⊢
   have hpl:(picksOf l).length ≤ k:=by have:=picks_len l;have:=Hm.out;omega
   generalize hps2:picksOf l = ps at HO hpl Hrr ⊢
   clear hps hps2
   obtain ⟨n,hlen,hnm,hfew⟩:=HO.out.lstLen 3
   have hgl:=gap_le M ps
   by_cases hz:(n:Int) < z
   ·have hr0:rr = 0:=by
     have hn:n < M:=by have:=HM.out;omega
     rw [← Hrr.out];unfold winW;rw [if_neg (hfew.1 hn)];rfl
    have Hfew:=Lib.hid hfew;clear hfew
    subst hr0
    go_wp2_with fail
    go_ret
    exact ⟨rfl,HO.out.bel⟩
   ·have hall:∀ x,x < M → x ∈ ps:=by
     have hn:¬ n < M:=by have:=HM.out;omega
     exact Classical.byContradiction fun hc=>hn (hfew.2 hc)
    have hwin:winW ps M = max (gapOf M ps) (topW (fun x=>ps.length + 1 - lastOf x ps) M):=by unfold winW;rw [if_pos hall,gap_top]
    have Hall:=Lib.hid hall;clear hall
    have Hfew:=Lib.hid hfew;clear hfew
    have Hwin:=Lib.hid hwin;clear hwin
    have hz5:decide ((n:Int) < z) = false:=by simpa using hz
    obtain ⟨F9,⟨_,D,hD,hLD⟩,hF9⟩:=HO.out.fact 0 rfl
    have hbw:=HO.out.bel
    have hrw:w.heap.size ≤ r:=by rw [Hr.out];exact Nat.le_refl _
    have HRW:=Lib.hid hrw;clear hrw
    have HLD:=Lib.hid hLD;clear hLD
    have HD:=Lib.hid hD;clear hD
    have HB:=Lib.hid hbw;clear hbw hF9
    have HGL:=Lib.hid hgl;clear hgl
    clear hnm
    have HPL:=Lib.hid hpl;clear hpl
    have hg9:∃ g9:Nat,g9 = gapOf M ps:=⟨_,rfl⟩
    obtain ⟨g9,hg9⟩:=hg9
    rw [← hg9]
    have HG9:=Lib.hid hg9;clear hg9
    generalize hs9:wr.heap.size = s9
    have HS9:=Lib.hid hs9;clear hs9
    have hN:∃ N:Nat,N = ps.length:=⟨_,rfl⟩
    obtain ⟨N,hN⟩:=hN
    rw [← hN]
    have HN:=Lib.hid hN;clear hN
    go_wp2_with (first
     | (at_range;refine wpList_range_own _ rfl _ 43 rfl 28 3 lawU9 Try.underlying43 _ r _ _ rfl HD.out ?_;intro w0 hrg0 hg0 hs0)
     | go_in)
    try go_frame
    rw [HS9.out] at hrg0 ⊢
    have hb0:=Lib.hid (HB.out.grown hg0 HB.out.size (by simp));clear hg0 hs0
    have hsz9:w.heap.size ≤ s9:=by rw [← HS9.out];exact HB.out.size
    have HSZ:=Lib.hid hsz9;clear hsz9
    go_loopw [7] (fun v w9=>∃ (g:Nat) (left:Lit → Bool) (cnt:Nat),v = .int .i64 g ∧ Hid (w9.ranges (H:=Unit) Try.prog 28 (plainElem Try.prog 3) r s9 ps.length D left cnt ∧ Below w.heap.size w w9 ∧ g9 ≤ g ∧ (g = g9 ∨ ∃ x,x < M ∧ g ≤ N + 1 - lastOf x ps) ∧ ∀ x:Nat,x < M → left (.int .u64 (x:Int)) = false → N + 1 - lastOf x ps ≤ g)) (fun _ w9=>w9.rangeLeft r s9)
    case atStart=>exact ⟨g9,_,_,rfl,Lib.hid ⟨hrg0,hb0.out,Nat.le_refl _,.inl rfl,fun x hx hf=>by
     rw [(HLD.out.1 x hx (Hall.out x hx)).1] at hf;exact absurd hf (by decide)⟩⟩
    case round =>
     obtain ⟨g,left,cnt,rfl,HH⟩:=hrel
     go_wp2_with (first
      | (at_next;refine wpList_next_ranges_ii _ rfl _ rfl 28 3 .u64 .i64 lawU9 Try.underlying28 Try.underlying3 r s9 _ _ _ _ rfl HH.out.1 ?_ ?_)
      | go_in)
     ·intro _ hl0
      have hgr:(g:Int) = rr:=by
       obtain ⟨_,_,q1,q2,q3⟩:=HH.out
       rw [← Hrr.out,Hwin.out]
       have hup:topW (fun x=>ps.length + 1 - lastOf x ps) M ≤ g:=topW_le fun x hx=>by rw [← HN.out];exact q3 x hx (hl0 _)
       have:g ≤ max (gapOf M ps) (topW (fun x=>ps.length + 1 - lastOf x ps) M):=by
        rcases q2 with e | ⟨x,hx,e⟩
        ·rw [e,HG9.out];exact Nat.le_max_left _ _
        ·rw [HN.out] at e
         exact Nat.le_trans (Nat.le_trans e (le_topW (f:=fun x=>ps.length + 1 - lastOf x ps) hx)) (Nat.le_max_right _ _)
       have h9:=HG9.out
       omega
      have HGR:=Lib.hid hgr;clear hgr
      clear hl0
      go_wp2_with fail
      go_ret
      exact ⟨by rw [HGR.out];rfl,HH.out.2.1⟩
     ·intro x c w1 cnt1 hwx hwc hlx hat hrg1 hlt1 hg1 hs1 hen
      have hx9:∃ y:Nat,x = (y:Int) ∧ y < M ∧ y ∈ ps:=Classical.byContradiction fun hc=>by
       have h1:=HLD.out.2.1 x hc
       have h2:=hat (.lit (.int .i64 (c + 1)))
       rw [atKey_of_not_has h1] at h2
       simp at h2
       omega
      obtain ⟨y,rfl,hyM,hyp⟩:=hx9
      have hcy:c = (lastOf y ps:Int):=by
       have h2:=hat (.lit (.int .i64 0))
       rw [(HLD.out.1 y hyM hyp).2] at h2
       simpa using h2.symm
      clear hat hwc hwx
      have hll:=last_le y ps
      rw [← HN.out] at hll
      have hNk:N ≤ 1000:=by have:=HN.out;have:=HPL.out;omega
      have hgk:g ≤ N + 1:=by
       obtain ⟨_,_,q1,q2,q3⟩:=HH.out
       rcases q2 with e | ⟨x,hx,e⟩
       ·have:=HG9.out;have:=HGL.out;have:=HN.out;omega
       ·omega
      have hR1:∀ g2:Nat,g2 = max g (N + 1 - lastOf y ps) → (w1.ranges (H:=Unit) Try.prog 28 (plainElem Try.prog 3) r s9 ps.length D (fun z=>left z && !z.sameKey (.int .u64 (y:Int))) cnt1 ∧ Below w.heap.size w w1 ∧ g9 ≤ g2 ∧ (g2 = g9 ∨ ∃ x,x < M ∧ g2 ≤ N + 1 - lastOf x ps) ∧ ∀ x:Nat,x < M → (left (.int .u64 (x:Int)) && !(Lit.int .u64 (x:Int)).sameKey (.int .u64 (y:Int))) = false → N + 1 - lastOf x ps ≤ g2):=fun g2 e2=>by
       obtain ⟨_,q0,q1,q2,q3⟩:=HH.out
       refine ⟨hrg1,q0.grown hg1 q0.size (fun k hk=>by cases hk;exact HSZ.out),by omega,?_,fun x hx hf=>?_⟩
       ·rw [e2]
        rcases Nat.le_total g (N + 1 - lastOf y ps) with hle | hle
        ·rw [Nat.max_eq_right hle];exact .inr ⟨y,hyM,Nat.le_refl _⟩
        ·rw [Nat.max_eq_left hle];exact q2
       ·by_cases e:x = y
        ·subst e;omega
        ·rw [sameKey_ne (fun hc=>e (by injection hc with _ hc;omega))] at hf
         have h5:=q3 x hx (by simpa using hf)
         clear q2 q3
         omega
      have HR1:=Lib.hid hR1;clear hR1
      have hms:w1.rangeLeft r s9 < wr.rangeLeft r s9:=by rw [hrg1.left_eq,HH.out.1.left_eq];exact hlt1
      clear hrg1 hlt1 hg1 hs1 hlx hyp
      generalize lastOf y ps = q at *
      subst hcy
      go_wp2_with fail
      refine ⟨⟨max g (N + 1 - q),_,_,?_,Lib.hid (HR1.out _ rfl)⟩,hms⟩
      congr 1
      split <;> omega
def turnF (S w:Int):Int:=(2 * S + 2) * w
def boundF (R S w g:Int):Int:=turnF S w * (7 * (g + 2) + 4 * (R + 2)) + 8 * w
theorem turn_bd {S w:Int} (hS:0 ≤ S ∧ S ≤ 100) (hw:0 ≤ w ∧ w ≤ 100000):0 ≤ turnF S w ∧ turnF S w ≤ 20200000:=by
 unfold turnF
 constructor
 ·exact Int.mul_nonneg (by omega) (by omega)
 ·calc (2 * S + 2) * w ≤ 202 * 100000:=Int.mul_le_mul (by omega) (by omega) (by omega) (by omega)
   _ ≤ 20200000:=by omega
theorem bound_bd {R S w g:Int} (hS:0 ≤ S ∧ S ≤ 100) (hw:0 ≤ w ∧ w ≤ 100000) (hR:0 ≤ R ∧ R ≤ 100) (hg:0 ≤ g ∧ g ≤ 100000):0 ≤ turnF S w * (7 * (g + 2) + 4 * (R + 2)) ∧ turnF S w * (7 * (g + 2) + 4 * (R + 2)) ≤ 20200000 * 1000000:=by
 obtain ⟨h1,h2⟩:=turn_bd hS hw
 constructor
 ·exact Int.mul_nonneg h1 (by omega)
 ·exact Int.mul_le_mul h2 (by omega) (by omega) (by omega)
theorem bound_any (p M R S wn g:Int) (w:World) (hS:0 ≤ S ∧ S ≤ 100) (hw:0 ≤ wn ∧ wn ≤ 100000) (hR:0 ≤ R ∧ R ≤ 100) (hg:0 ≤ g ∧ g ≤ 100000) :
  Calls Try.prog 11 #[.agg #[.int .i64 p,.int .i64 M,.int .i64 R,.int .i64 S],.int .i64 wn,.int .i64 g] w fun e w'=>e = .returned (.int .i64 (boundF R S wn g)) ∧ Below w.heap.size w w':=by
 have ht:=turn_bd hS hw
 have hb:=bound_bd hS hw hR hg
 obtain ⟨ht1,ht2⟩:=ht
 obtain ⟨hb1,hb2⟩:=hb
 obtain ⟨hS1,hS2⟩:=hS
 obtain ⟨hw1,hw2⟩:=hw
 obtain ⟨hR1,hR2⟩:=hR
 obtain ⟨hg1,hg2⟩:=hg
 have Hbf:Hid (boundF R S wn g = turnF S wn * (7 * (g + 2) + 4 * (R + 2)) + 8 * wn):=Lib.hid rfl
 generalize boundF R S wn g = bf at Hbf ⊢
 have he:turnF S wn = (2 * S + 2) * wn:=rfl
 generalize turnF S wn = T at he ht1 ht2 hb1 hb2 Hbf
 have he':=he.symm
 have HE:=Lib.hid he;clear he
 have hw1:IntKind.i64.wrap ((2 * S + 2) * wn) = T:=by rw [he',IntKind.wrap_i64];omega
 have hb3:IntKind.i64.wrap (T * (7 * (g + 2) + 4 * (R + 2))) = T * (7 * (g + 2) + 4 * (R + 2)):=by rw [IntKind.wrap_i64];omega
 have hB:=below_alloc1 w (.cells #[.int .i64 p,.int .i64 M,.int .i64 R,.int .i64 S] 36)
 have HB:=Lib.hid hB;clear hB
 go_enter Try.func11,Try.ntmps11
 go_wp2_with fail
 go_ret
 exact ⟨by rw [Hbf.out];rfl,HB.out⟩
theorem recs3 (w:World) (t:TypeId):RecsAt (w.alloc (.cells #[.int .i64 1,.int .u64 0,.int .i64 1,.int .u64 1,.int .i64 1,.int .u64 0] t)) (some ⟨w.heap.size,0,none⟩) [(1,0),(1,1),(1,0)]:=fun i hi=>by
 have hc:=(CellsAt.new w [.int .i64 1,.int .u64 0,.int .i64 1,.int .u64 1,.int .i64 1,.int .u64 0] t rfl)
 refine ⟨w.heap.size,0,rfl,?_,?_⟩
 all_goals
  match i,hi with
  | 0,_=>first | (obtain ⟨b,o,e,h⟩:=hc 0 _ rfl;cases e;exact h) | (obtain ⟨b,o,e,h⟩:=hc 1 _ rfl;cases e;exact h)
  | 1,_=>first | (obtain ⟨b,o,e,h⟩:=hc 2 _ rfl;cases e;exact h) | (obtain ⟨b,o,e,h⟩:=hc 3 _ rfl;cases e;exact h)
  | 2,_=>first | (obtain ⟨b,o,e,h⟩:=hc 4 _ rfl;cases e;exact h) | (obtain ⟨b,o,e,h⟩:=hc 5 _ rfl;cases e;exact h)
theorem awake24_any (w:World):Calls Try.prog 5 #[] w fun e w'=>e = .returned (.bool true) ∧ Below w.heap.size w w':=by
 go_enter Try.func5,Try.ntmps5
 have h1:=recs3 w 30
 have H1:=Lib.hid h1;clear h1
 go_wp2_with (first
  | (go_at_call 8;refine (win_any _ _ [(1,0),(1,1),(1,0)] 2 _ (by decide) (by decide) H1.out (by decide)).mono ?_;rintro e w2 ⟨rfl,hb2⟩)
  | (go_at_call 11;refine (bound_any 0 0 2 1 1 1 _ (by decide) (by decide) (by decide) (by decide)).mono ?_;rintro e w3 ⟨rfl,hb3⟩)
  | fail)
 have hb:boundF 2 1 1 1 = 156:=by decide
 rw [hb]
 go_ret
 exact ⟨rfl,below_on (below_on (below_alloc1 _ _) hb2) hb3⟩
end Go.Proofs.Ytklbaanpdacllaa
open Go Go.RowKit Go.Maps
set_option linter.unusedVariables false
namespace Go.Proofs.Ytklbaanpdacllaa.fairCut
theorem info_rec9:(Try.prog.info? 30).map (fun i=>(i.zero,i.size,i.bytes)) = some (some (.agg #[.int .i64 0,.int .u64 0]),2,16):=by kernel_rfl
theorem and_3 (k:Int):bits BinOp.and IntKind.i64 k 3 = k % 4:=by
 show IntKind.i64.wrap (((BitVec.ofInt 64 k) &&& (BitVec.ofInt 64 3)).toNat:Int) = k % 4
 have e:(BitVec.ofInt 64 3).toNat = 3:=by decide
 have h:∀ n:Nat,n &&& 3 = n % 4:=fun n=>Nat.and_two_pow_sub_one_eq_mod n 2
 rw [BitVec.toNat_and,e,h,IntKind.wrap_i64,BitVec.toNat_ofInt];omega
theorem and_255c (k:Int):bits BinOp.and IntKind.i64 k 255 = k % 256:=by
 show IntKind.i64.wrap (((BitVec.ofInt 64 k) &&& (BitVec.ofInt 64 255)).toNat:Int) = k % 256
 have e:(BitVec.ofInt 64 255).toNat = 255:=by decide
 have h:∀ n:Nat,n &&& 255 = n % 256:=fun n=>Nat.and_two_pow_sub_one_eq_mod n 8
 rw [BitVec.toNat_and,e,h,IntKind.wrap_i64,BitVec.toNat_ofInt];omega
theorem RecsAt.of_cells {w:World} {a:Option Addr} {l:List Rec} (h:CellsAt w a (recCells l)):RecsAt w a l:=fun i hi=>by
 obtain ⟨h0,h1⟩:=recCells_at l i hi
 obtain ⟨b,off,rfl,g0⟩:=h _ _ h0
 obtain ⟨b',off',e,g1⟩:=h _ _ h1
 cases e
 exact ⟨b,off,rfl,g0,by rw [← Nat.add_assoc] at g1;exact g1⟩
def pk (l:List Int):List Rec:=l.map fun v=>(1,(v % 4).toNat)
theorem pk_snoc (l:List Int) (k:Nat) (h:k < l.length):recCells (pk (l.take (k + 1))) = recCells (pk (l.take k)) ++ [.int .i64 1,.int .u64 (l[k] % 4)]:=by
 unfold pk
 rw [List.take_succ_eq_append_getElem h,List.map_append,List.map_cons,List.map_nil,recCells_app]
 congr 3
 rw [Int.toNat_of_nonneg (by omega)]
theorem pk_picks (l:List Int):picksOf (pk l) = l.map fun v=>(v % 4).toNat:=by
 unfold picksOf pk
 rw [List.filter_eq_self.2 (fun r hr=>by obtain ⟨v,_,rfl⟩:=List.mem_map.1 hr;rfl),List.map_map]
 rfl
theorem pk_small (l:List Int):∀ r ∈ pk l,r.2 < 18446744073709551616:=fun r hr=>by
 unfold pk at hr
 obtain ⟨v,_,rfl⟩:=List.mem_map.1 hr
 simp only
 omega
theorem walk (a0:Option Addr) (len0 cap0:Nat) (z0:List Int) (a1:Int) (w:World) (w0:IsRow .i64 w a0 len0 cap0 z0) (w1:(Lit.int .i64 a1).wf = true) :
  Calls Try.prog 4 #[.slice a0 len0 cap0,.int .i64 a1] w fun e w'=>e = .returned (.bool true) ∧ Below w.heap.size w w':=by
 obtain ⟨hlc,hcm,hzl,hcells⟩:=w0.cells
 clear w0
 generalize List.take len0 z0 = z1 at hzl hcells
 unfold maxLen at hcm
 have Hcm:=Lib.hid hcm;clear hcm hlc
 obtain ⟨m,hm⟩:∃ m:Nat,m = min len0 40:=⟨_,rfl⟩
 have hml:m ≤ len0:=by omega
 have hm40:m ≤ 40:=by omega
 have hmk:∀ k:Nat,k < m ↔ (k < len0 ∧ k < 40):=fun k=>by omega
 have HM:=Lib.hid hmk;clear hmk hm
 have Hc:=Lib.hid hcells;clear hcells
 have Hz:=Lib.hid hzl;clear hzl
 obtain ⟨i0,hi,hz0,hz1,hz2⟩:=info_parts info_rec9
 have Hi:=Lib.hid hi;clear hi
 have Hz0:=Lib.hid hz0;clear hz0
 have Hz1:=Lib.hid hz1;clear hz1
 have Hz2:=Lib.hid hz2;clear hz2
 go_enter Try.func4,Try.ntmps4
 go_wp2_with fail
 refine (awake24_any _).mono ?_
 rintro e wa ⟨rfl,hba⟩
 have Ha:=Lib.hid hba;clear hba
 go_wp2_with fail
 have ho0:=((Own.nil Ha.out).add (below_alloc1 wa (.cells #[] 30)) (A:=RowGA 2 (some ⟨wa.heap.size,0,none⟩) 0 0 []) (F:=[wa.heap.size]) ⟨rfl,RowG.zero (by simp)⟩ (by intro x hx;simp at hx;omega))
 have HO:=Lib.hid ho0;clear ho0
 go_loopw [5,6] (fun sv iv wr=>∃ k:Nat,∃ ra cap,k ≤ m ∧ iv = .int .i64 k ∧ sv = .slice ra k cap ∧ Hid (Own w wr [RowGA 2 ra cap k (recCells (pk (z1.take k)))])) (fun _ iv _=>m - (intOf iv).toNat)
 case atStart=>exact ⟨0,some ⟨wa.heap.size,0,none⟩,0,by omega,rfl,rfl,HO⟩
 case round =>
  obtain ⟨k,ra,cap,hk,rfl,rfl,hr⟩:=hrel
  by_cases hlt:k < m
  ·obtain ⟨hlt1,hlt2⟩:=(HM.out k).1 hlt
   obtain ⟨b,off,rfl,hc,-⟩:=Hc.out k (by have:=Hz.out;omega)
   have hbl:b < w.heap.size:=World.block_lt_of_cell? w _ hc
   have g0:=hr.out.bel.cell (p:=⟨b,off + k,none⟩) hbl
   rw [hc] at g0
   have hsn:=pk_snoc z1 k (by have:=Hz.out;omega)
   generalize z1[k]'(by have:=Hz.out;omega) = v at g0 hsn
   have hv:=and_3 v
   have hv4:0 ≤ v % 4 ∧ v % 4 < 4:=by omega
   generalize v % 4 = v4 at hv hsn hv4
   obtain ⟨hv1,hv2⟩:=hv4
   have Hsn:=Lib.hid hsn;clear hsn hc
   have o1:=hr.out.step (below_alloc1 wr (.cells #[.int .i64 1,.int .u64 v4] 30))
   have H1:=Lib.hid o1
   clear o1 hr
   go_wp2_with (at_builtin;go_loud (refine wpList_append_rowG rfl _ _ 26 rfl 30 i0 _ Try.underlying26 Hi.out Hz0.out Hz1.out Hz2.out rfl (by decide) (by decide) (n:=k) (m:=1) (cs:=recCells (pk (z1.take k))) (ds:=[.int .i64 1,.int .u64 v4]) (by rfl) (by rfl) (H1.out.rowG 0 rfl) (CellsAt.new _ [.int .i64 1,.int .u64 v4] _ rfl) rfl (by simp [Value.oneCell']) (by omega) ?_))
   intro a9 c9 w9 k9 ch9 f9
   have o2:=Own.rowTurn H1.out k9 ch9 (fun x hx=>by simpa using f9 x hx)
   have H2:Hid (Own w w9 [RowGA 2 a9 c9 (k + 1) (recCells (pk (z1.take (k + 1))))]):=Lib.hid (by rw [Hsn.out];exact o2)
   clear o2 k9 ch9 f9 H1
   go_wp2
   exact ⟨⟨k + 1,a9,c9,by omega,by go_num,rfl,H2⟩,by simp [intOf];omega⟩
  ·obtain rfl:k = m:=by omega
   have hge:¬ ((k:Int) < len0 ∧ (k:Int) < 40):=by have:=(HM.out k).2;omega
   have hrow:=hr.out.rowG 0 rfl
   have hcap:k ≤ cap:=hrow.2.1
   have hrat:=RecsAt.of_cells hrow.cells
   have HR:=Lib.hid hrat;clear hrat hrow
   obtain ⟨c,hc⟩:∃ c:Nat,c = (a1 % 256).toNat % (k + 1):=⟨_,rfl⟩
   have hck:c ≤ k:=by rw [hc];exact Nat.le_of_lt_succ (Nat.mod_lt _ (by omega))
   have h255:=and_255c a1
   have hc2:(a1 % 256).tmod ((k:Int) + 1) = (c:Int):=by
    rw [hc,Int.tmod_eq_emod_of_nonneg (by omega),Int.natCast_emod,Int.toNat_of_nonneg (by omega)]
    rfl
   have Hc9:=Lib.hid hc;clear hc
   have hsl:=fun w=>slice_head (P:=Try.prog) (t:=26) w Try.underlying26 (fun w=>by first | rfl | kernel_rfl) ra k cap c (by omega)
   have hlz:(pk (z1.take k)).length = k:=by unfold pk;rw [List.length_map,List.length_take];have:=Hz.out;omega
   have HLZ:=Lib.hid hlz;clear hlz
   have hpk2:(pk (z1.take k)).take c = pk ((z1.take k).take c):=by unfold pk;exact List.map_take.symm
   obtain ⟨wa1,hwa1⟩:∃ n:Nat,n = winW (picksOf ((pk (z1.take k)).take c)) 3:=⟨_,rfl⟩
   obtain ⟨wb1,hwb1⟩:∃ n:Nat,n = winW (picksOf (pk (z1.take k))) 3:=⟨_,rfl⟩
   have hfact:(wa1 = 0 ∨ (wa1 ≤ wb1 ∧ wb1 ≤ wa1 + (k - c))) ∧ wa1 ≤ 41 ∧ wb1 ≤ 41:=by
    have hl1:(z1.take k).length = k:=by rw [List.length_take];have:=Hz.out;omega
    rw [hwa1,hwb1,hpk2,pk_picks,pk_picks]
    generalize z1.take k = L at hl1
    have e:L.map (fun v=>(v % 4).toNat) = (L.take c).map (fun v=>(v % 4).toNat) ++ (L.drop c).map (fun v=>(v % 4).toNat):=by rw [← List.map_append,List.take_append_drop]
    have h1:=win_le ((L.take c).map (fun v=>(v % 4).toNat)) 3
    have h2:=win_le (L.map (fun v=>(v % 4).toNat)) 3
    rw [List.length_map] at h1 h2
    rw [List.length_take] at h1
    refine ⟨?_,by omega,by omega⟩
    rcases Nat.eq_zero_or_pos (winW ((L.take c).map (fun v=>(v % 4).toNat)) 3) with h0 | h0
    ·exact .inl h0
    ·have h3:=win_more ((L.take c).map (fun v=>(v % 4).toNat)) ((L.drop c).map (fun v=>(v % 4).toNat)) 3 (by omega)
     rw [← e,List.length_map,List.length_drop,hl1] at h3
     exact .inr h3
   have hsm1:∀ r ∈ (pk (z1.take k)).take c,r.2 < 18446744073709551616:=fun r hr=>pk_small _ r (List.mem_of_mem_take hr)
   have hsm2:=pk_small (z1.take k)
   have hbel:=hr.out.bel
   have Hbel:=Lib.hid hbel;clear hbel hr
   have hl2:((pk (z1.take k)).take c).length = c:=by rw [List.length_take,HLZ.out];omega
   have HL2:=Lib.hid hl2;clear hl2
   generalize pk (z1.take k) = A at *
   have HS1:=Lib.hid hsm1;clear hsm1
   have HS2:=Lib.hid hsm2;clear hsm2
   have HA1:=Lib.hid hwa1;clear hwa1
   have HB1:=Lib.hid hwb1;clear hwb1
   clear hpk2 hlt hk HM Hc Hz hml
   obtain ⟨hfact,hb1,hb2⟩:=hfact
   have HF:=Lib.hid hfact;clear hfact
   have c1:=win_any ra cap (A.take c) 3 
   have c2:=win_any ra cap A 3
   rw [HL2.out,show ((3:Int).toNat) = 3 from rfl,← HA1.out] at c1
   rw [HLZ.out,show ((3:Int).toNat) = 3 from rfl,← HB1.out] at c2
   have C1:=Lib.hid c1;clear c1
   have C2:=Lib.hid c2;clear c2
   have hor:(k:Int) < len0 ∧ ¬ (k:Int) < 40 ∨ ¬ (k:Int) < len0:=by omega
   clear hge
   rcases hor with ⟨hq1,hq2⟩ | hq1
   all_goals (
     go_wp2_with fail
     refine (C1.out _ (by omega) (by decide) (HR.out.take c) HS1.out).mono ?_
     rintro e w2 ⟨rfl,hb2⟩
     have HB2:=Lib.hid hb2;clear hb2
     go_wp2_with fail
     refine (C2.out _ (by omega) (by decide) (HR.out.below HB2.out) HS2.out).mono ?_
     rintro e w3 ⟨rfl,hb3⟩
     have HE:=Lib.hid (below_on (below_on Hbel.out HB2.out) hb3);clear hb3
     by_cases h0:wa1 = 0
     ·subst h0
      go_wp2_with fail
      go_ret
      exact ⟨rfl,HE.out⟩
     ·have h1:((wa1:Int) == 0) = false:=by simpa using h0
      have h2:(wa1:Int) ≤ (wb1:Int):=by rcases HF.out with h | h <;> omega
      have h3:(wb1:Int) ≤ (wa1:Int) + (k:Int) - (c:Int):=by rcases HF.out with h | h <;> omega
      go_wp2_with fail
      go_ret
      exact ⟨rfl,HE.out⟩)
end Go.Proofs.Ytklbaanpdacllaa.fairCut
