/-
  Texts put together: WCrc2, WSeg1, WSeg2, WRec1, TopLive, NumsIn, W10Pipe.
-/
import Derived.Test.YtphfaekpckbepaaGreatMp8
import Derived.Test.YtphfaekpckbepaaGreatRows
import Derived.BigQuiet
import Derived.Deep.QuietTactic
import Derived.RegionTactic
import Derived.Deep.RegionHeld3
import Derived.Test.YtphfaekpckbepaaGreatMp7
import Derived.Test.YtphfaekpckbepaaGreatMp6
import Derived.Test.YtphfaekpckbepaaGreatMp3
import Derived.OpenShut
set_option maxRecDepth 100000
set_option maxHeartbeats 16000000
set_option linter.unusedSimpArgs false
set_option linter.unusedVariables false
open Go Go.RowKit
set_option linter.unusedVariables false
namespace Go.Proofs.YtphfaekpckbepaaGreat
def catL (l:List ByteArray):List UInt8:=l.flatMap (·.data.toList)
theorem catL_snoc (l:List ByteArray) (k:Nat) (h:k < l.length):catL (l.take (k + 1)) = catL (l.take k) ++ l[k].data.toList:=by
 unfold catL;rw [List.take_succ_eq_append_getElem h,List.flatMap_append];simp
def crcA (x:Nat) (l:List UInt8):Nat:=4294967295 - crcF l (4294967295 - x)
theorem crcA_zero (l:List UInt8):crcA 0 l = crcSum l:=rfl

theorem xor_u8 (a b:Nat) (ha:a < 256) (hb:b < 256):bits BinOp.xor IntKind.u8 (a:Int) (b:Int) = ((a ^^^ b:Nat):Int):=by
 show IntKind.u8.wrap ((BitVec.ofInt 8 (a:Int) ^^^ BitVec.ofInt 8 (b:Int)).toNat:Int) = _
 have e:∀ n:Nat,BitVec.ofInt 8 (n:Int) = BitVec.ofNat 8 n:=fun n=>by apply BitVec.eq_of_toNat_eq;rw [BitVec.toNat_ofInt,BitVec.toNat_ofNat];omega
 rw [e,e,BitVec.toNat_xor,BitVec.toNat_ofNat,BitVec.toNat_ofNat,Nat.mod_eq_of_lt (by omega),Nat.mod_eq_of_lt (by omega),IntKind.wrap_u8]
 have:=Nat.xor_lt_two_pow (n:=8) (by omega:a < _) (by omega:b < _)
 omega
theorem not_u32 (x:Nat) (h:x < 4294967296):bits BinOp.xor IntKind.u32 IntKind.u32.max (x:Int) = ((4294967295 - x:Nat):Int):=by
 have e:IntKind.u32.max = ((4294967295:Nat):Int):=by decide
 rw [e,xor_u32 _ _ (by omega) h,Nat.xor_comm]
 congr 1
 have h2:(BitVec.ofNat 32 x ^^^ BitVec.allOnes 32).toNat = (~~~ (BitVec.ofNat 32 x)).toNat:=by rw [BitVec.xor_allOnes]
 rw [BitVec.toNat_xor,BitVec.toNat_not,BitVec.toNat_ofNat,BitVec.toNat_allOnes,Nat.mod_eq_of_lt (by simpa using h)] at h2
 simpa using h2
theorem tabL_len (k:Nat):(tabL k).length = k:=by unfold tabL;rw [List.length_map,List.length_range]
theorem tabL_at (k i:Nat) (h:i < k):(tabL k)[i]? = some (.int .u32 (crcK 8 i:Int)):=by
 unfold tabL;rw [List.getElem?_map,List.getElem?_range h];rfl

theorem addAll_any (x cap:Nat) (a:Option Addr) (l:List ByteArray) (w:World) (hx:x < 4294967296) (hl:l.length ≤ 1000) (ha:StrsAt w a l) (hs:∀ s ∈ l,s.size ≤ maxLen) :
  Calls Tryz.prog 51 #[.agg #[.int .u32 x],.slice a l.length cap] w fun e w'=>e = .returned (.agg #[.int .u32 (crcA x (catL l):Int)]) ∧ Below w.heap.size w w':=by
 have hz:=tab_zero
 have Ha:=Lib.hid ha;clear ha
 have Hs:=Lib.hid hs;clear hs
 obtain ⟨m,hm⟩:∃ m,m = l.length:=⟨_,rfl⟩
 rw [← hm] at hl ⊢
 have Hm:=Lib.hid hm;clear hm
 go_enter Tryz.func51,Tryz.ntmps51
 go_wp2_with fail
 refine (table_any _).mono ?_
 rintro e w1 ⟨rfl,hb⟩
 obtain ⟨T,hT⟩:∃ T,T = tabL 256:=⟨_,rfl⟩
 obtain ⟨T0,hT0⟩:∃ T0,T0 = tab0:=⟨_,rfl⟩
 rw [← hT]
 rw [← hT0] at hz
 have hsz:=hb.size
 simp at hsz
 have c0:w1.cell? ⟨w.heap.size,0,none⟩ = some (.int .u32 x):=by rw [hb.cell (p:=⟨w.heap.size,0,none⟩) (by simp;omega)];simp
 have c1:Blk w1 (w.heap.size + 1) [.int .u32 0]:=(Blk.mk _ [.int .u32 0] _ _ (by simp)).below hb
 have HA1:Hid (StrsAt w1 a l):=Lib.hid (((Ha.out.below ((Below.refl _ _).alloc (Nat.le_refl _) _)).below ((Below.refl _ _).alloc (Nat.le_refl _) _)).below hb)
 have HB1:Hid (Below w.heap.size w w1):=Lib.hid (((((Below.refl _ _).alloc (Nat.le_refl _) _).alloc (by simp) _)).trans (hb.mono (by simp;omega)))
 have C1:=Lib.hid c1
 have hl0:T0.length = 256:=by rw [hT0];exact tab0_len
 have ht:(w1.alloc (.cells T0.toArray 159)).there w1.heap.size 0 256:=(Blk.mk w1 T0 159 _ rfl).there 256 (by rw [hl0];omega)
 have ht':∀ j,j < 256 → ((w1.alloc (.cells T0.toArray 159)).cell? ⟨w1.heap.size,j,none⟩).isSome = true ∧ (w1.alloc (.cells T0.toArray 159)).frozen? ⟨w1.heap.size,j,none⟩ = false:=fun j hj=>by have:=ht j hj;rw [Nat.zero_add] at this;exact this
 have hlen:T.length = 256:=by rw [hT];exact tabL_len 256
 have hst:Sem.run Tryz.prog (storeCells ⟨w1.heap.size,0,none⟩ T) (w1.alloc (.cells T0.toArray 159)) = .ok () ((w1.alloc (.cells T0.toArray 159)).setCells w1.heap.size 0 T):=by
  have:=run_storeCells_cells (P:=Tryz.prog) w1.heap.size 0 T 0 (w1.alloc (.cells T0.toArray 159)) (fun j hj=>by simp only [Nat.zero_add] at *;exact (ht' j (by omega)).1) (fun j hj=>by simp only [Nat.zero_add] at *;exact (ht' j (by omega)).2) (fun v hv=>by rw [hT] at hv;unfold tabL at hv;simp only [List.mem_map] at hv;obtain ⟨i,_,rfl⟩:=hv;rfl)
  exact this
 have hTT:Blk ((w1.alloc (.cells T0.toArray 159)).setCells w1.heap.size 0 T) w1.heap.size T:=(Blk.mk w1 T0 159 _ rfl).setCells (by omega)
 have hbx:((w1.alloc (.cells T0.toArray 159)).setCells w1.heap.size 0 T).cell? ⟨w.heap.size,0,none⟩ = some (.int .u32 x):=by
  rw [World.cell?_setCells_out _ _ _ _ _ (fun hb _=>absurd hb (by simp;omega)),World.cell?_alloc_past _ _ _ (by omega)];exact c0
 have hb2:Below w1.heap.size w1 ((w1.alloc (.cells T0.toArray 159)).setCells w1.heap.size 0 T):=below_setCells ((Below.refl _ _).alloc (Nat.le_refl _) _) _ (Nat.le_refl _) _ _
 obtain ⟨w2,hw2⟩:∃ w2,w2 = (w1.alloc (.cells T0.toArray 159)).setCells w1.heap.size 0 T:=⟨_,rfl⟩
 rw [← hw2] at hst hTT hbx hb2
 have HC2:=Lib.hid (C1.out.below hb2)
 have HA2:=Lib.hid (HA1.out.below hb2)
 have HB2:=Lib.hid (below_on HB1.out hb2)
 have HTT:=Lib.hid hTT
 have HT:=Lib.hid hT;clear hT
 clear hb c1 hT0 ht ht' hTT hb2 hw2 C1 HA1 HB1
 have hsg:IntKind.u32.signed = false:=rfl
 have hnx:=not_u32 x hx
 obtain ⟨y0,hy0⟩:∃ y0,y0 = 4294967295 - x:=⟨_,rfl⟩
 rw [← hy0] at hnx
 have hy0':y0 < 4294967296:=by omega
 have HY0:=Lib.hid hy0;clear hy0
 go_wp2_with fail
 obtain ⟨gt,hgt⟩:∃ gt,gt = w1.heap.size:=⟨_,rfl⟩
 rw [← hgt] at HTT ⊢
 clear hst hz hgt hl0 hlen hnx c0
 go_loopw [6,8,16] (fun xv pv iv wr=>∃ k y:Nat,k ≤ m ∧ y < 4294967296 ∧ iv = .int .i64 k ∧ xv = .int .u32 y ∧ wr = w2 ∧ Hid (y = crcF (catL (l.take k)) y0)) (fun _ _ iv _=>m - (intOf iv).toNat)
 case atStart=>exact ⟨0,y0,by omega,hy0',rfl,rfl,rfl,rfl⟩
 case round =>
  obtain ⟨k,y,hk,hy,rfl,rfl,rfl,Hy⟩:=hrel
  by_cases hlt:k < m
  ·obtain ⟨b,off,rfl,hcell⟩:=HA2.out k (by have:=Hm.out;omega)
   have hsl:=Hs.out _ (List.getElem_mem (by have:=Hm.out;omega:k < l.length))
   have hsn:=catL_snoc l k (by have:=Hm.out;omega)
   generalize l[k]'(by have:=Hm.out;omega) = s at hcell hsl hsn
   unfold maxLen at hsl
   have Hsn:=Lib.hid hsn;clear hsn
   go_wp2_with fail
   go_loopw [6,9,22] (fun xv iv cv wi=>∃ j z:Nat,j ≤ s.size ∧ z < 4294967296 ∧ cv = .int .i64 j ∧ xv = .int .u32 z ∧ wi = wr ∧ Hid (z = crcF (s.data.toList.take j) y)) (fun _ _ cv _=>s.size - (intOf cv).toNat)
   case atStart=>exact ⟨0,y,by omega,hy,rfl,rfl,rfl,rfl⟩
   case round =>
    obtain ⟨j,z,hj,hz,rfl,rfl,rfl,Hz⟩:=hrel
    by_cases hjl:j < s.size
    ·obtain ⟨c,hc⟩:∃ c:Nat,c = s[j].toNat:=⟨_,rfl⟩
     have hc2:c < 256:=by rw [hc];exact s[j].toNat_lt
     obtain ⟨i,hi⟩:∃ i:Nat,i = (z % 256) ^^^ c:=⟨_,rfl⟩
     have hi2:i < 256:=by rw [hi];exact Nat.xor_lt_two_pow (n:=8) (by omega) hc2
     have hidx:bits BinOp.xor IntKind.u8 ((z:Int) % 256) (s[j].toNat:Int) = (i:Int):=by
      rw [show ((z:Int) % 256) = ((z % 256:Nat):Int) by omega,← hc,xor_u8 _ _ (by omega) hc2,hi]
     have htc:wr.cell? ⟨gt,i,none⟩ = some (.int .u32 (crcK 8 i:Int)):=(HTT.out i _ (by rw [HT.out];exact tabL_at 256 i hi2)).1
     have hq:=crcK_lt 8 i (by omega)
     have hnew:crcB z c = crcK 8 i ^^^ z / 256:=by rw [crcB_table z c hc2,hi]
     generalize crcK 8 i = q at htc hq hnew
     have Hnew:=Lib.hid hnew;clear hnew hi
     have Hc:=Lib.hid hc;clear hc
     go_wp2
     refine ⟨⟨j + 1,z / 256 ^^^ q,by omega,Nat.xor_lt_two_pow (n:=32) (by omega) (by omega),by go_num,?_,trivial,?_⟩,by simp [intOf];omega⟩
     ·rw [show ((z:Int) / 256) = ((z / 256:Nat):Int) by omega];exact congrArg (Value.int .u32) (xor_u32 (z / 256) q (by omega) hq)
     ·show _ = _
      rw [crcF_snoc _ j (by simpa using hjl),← Hz.out]
      have:=Hc.out
      rw [Nat.xor_comm,← Hnew.out,this];rfl
    ·obtain rfl:j = s.size:=by omega
     go_wp2
     refine ⟨⟨k + 1,z,by omega,hz,by go_num,rfl,trivial,?_⟩,by simp [intOf];omega⟩
     show z = _
     rw [Hsn.out,crcF_app,← Hy.out,Hz.out,List.take_of_length_le (by simp)]
  ·obtain rfl:k = m:=by omega
   obtain ⟨d1,d2⟩:=HC2.out.at 0 (by simp)
   have hny:=not_u32 y hy
   have hres:4294967295 - y = crcA x (catL l):=by
    unfold crcA
    rw [Hy.out,HY0.out,Hm.out,List.take_length]
   have Hres:=Lib.hid hres;clear hres
   go_wp2
   refine bodyPost_ret (v:=.agg #[.int .u32 ((4294967295 - y:Nat):Int)]) ?_ rfl ⟨by rw [Hres.out],HB2.out.setCell (by simp) _⟩
   simp [results,Tryz.results51,go_sem,d1]

theorem strs_one {w:World} {b:Nat} {s:ByteArray} (h:w.cell? ⟨b,0,none⟩ = some (.string s)):StrsAt w (some ⟨b,0,none⟩) [s]:=fun i hi=>by
 obtain rfl:i = 0:=by simpa using hi
 exact ⟨b,0,rfl,h⟩
theorem catL_one (s:ByteArray):catL [s] = s.data.toList:=by simp [catL]
theorem sum_any (x:Nat) (w:World):Calls Tryz.prog 52 #[.agg #[.int .u32 x]] w fun e w'=>e = .returned (.int .u32 x) ∧ Below w.heap.size w w':=by
 go_enter Tryz.func52,Tryz.ntmps52
 go_wp2
 go_ret
 exact ⟨rfl,(Below.refl _ _).alloc (Nat.le_refl _) _⟩
theorem of_any (cap:Nat) (a:Option Addr) (l:List ByteArray) (w:World) (hl:l.length ≤ 1000) (ha:StrsAt w a l) (hs:∀ s ∈ l,s.size ≤ maxLen) :
  Calls Tryz.prog 38 #[.slice a l.length cap] w fun e w'=>e = .returned (.int .u32 (crcSum (catL l):Int)) ∧ Below w.heap.size w w':=by
 obtain ⟨m,hm⟩:∃ m,m = l.length:=⟨_,rfl⟩
 rw [← hm] at hl ⊢
 have Hm:=Lib.hid hm;clear hm
 go_enter Tryz.func38,Tryz.ntmps38
 go_wp2_with fail
 rw [Hm.out]
 refine (addAll_any 0 cap a l _ (by omega) (by rw [← Hm.out];exact hl) ha hs).mono ?_
 rintro e w1 ⟨rfl,hb⟩
 rw [crcA_zero]
 have hb2:=Lib.hid hb;clear hb
 go_wp2_with fail
 refine (sum_any _ _).mono ?_
 rintro e w2 ⟨rfl,hb3⟩
 go_wp2
 go_ret
 exact ⟨rfl,below_on hb2.out hb3⟩
theorem of1_any (cap b:Nat) (s:ByteArray) (w:World) (h:w.cell? ⟨b,0,none⟩ = some (.string s)) (hs:s.size ≤ maxLen) :
  Calls Tryz.prog 38 #[.slice (some ⟨b,0,none⟩) 1 cap] w fun e w'=>e = .returned (.int .u32 (crcSum s.data.toList:Int)) ∧ Below w.heap.size w w':=by
 have:=of_any cap (some ⟨b,0,none⟩) [s] w (by simp) (strs_one h) (by simpa using hs)
 rw [catL_one] at this
 exact this
theorem sum_byte (n k:Nat) (hk:k < 4):(sumL n)[k]'(by rw [sumL_len];exact hk) = UInt8.ofNat (n / 2 ^ (8 * k)):=by
 match k,hk with
 | 0,_=>simp [sumL]
 | 1,_=>simp [sumL]
 | 2,_=>simp [sumL]
 | 3,_=>simp [sumL]
theorem sum_step {w wr:World} {n k g:Nat} {cs:List UInt8} {v:Int} (h:cs.length = 4 ∧ cs.take k = (sumL n).take k ∧ Bytes wr g cs ∧ Below w.heap.size w wr) (hk:k < 4) (hg:w.heap.size ≤ g)
  (hv:v = ((UInt8.ofNat (n / 2 ^ (8 * k))).toNat:Int)) :
  (cs.set k (UInt8.ofNat (n / 2 ^ (8 * k)))).length = 4 ∧ (cs.set k (UInt8.ofNat (n / 2 ^ (8 * k)))).take (k + 1) = (sumL n).take (k + 1) ∧ Bytes (wr.setCell ⟨g,k,none⟩ (.int .u8 v)) g (cs.set k (UInt8.ofNat (n / 2 ^ (8 * k)))) ∧ Below w.heap.size w (wr.setCell ⟨g,k,none⟩ (.int .u8 v)):=by
 obtain ⟨h1,h2,h3,h4⟩:=h
 refine ⟨by simp [h1],?_,h3.set k (by omega) _ _ hv,h4.setCell hg _⟩
 rw [take_set_succ _ _ _ (by omega),h2,List.take_succ_eq_append_getElem (by rw [sumL_len];exact hk),sum_byte n k hk]
theorem sumb_any (t:ByteArray) (w:World) (ht:t.size ≤ maxLen) :
  Calls Tryz.prog 27 #[.string t] w fun e w'=>e = .returned (.string ⟨(sumL (crcSum t.data.toList)).toArray⟩) ∧ Below w.heap.size w w':=by
 have hlt:=crcSum_lt t.data.toList
 obtain ⟨n,hn⟩:∃ n,n = crcSum t.data.toList:=⟨_,rfl⟩
 rw [← hn] at hlt ⊢
 have Hn:=Lib.hid hn;clear hn
 obtain ⟨l,hl⟩:∃ l,l = sumL n:=⟨_,rfl⟩
 rw [← hl]
 have Hl:=Lib.hid hl;clear hl
 go_enter Tryz.func27,Tryz.ntmps27
 go_wp2_with fail
 refine (of1_any 1 w.heap.size t _ (by simp) ht).mono ?_
 rintro e w1 ⟨rfl,hb⟩
 rw [← Hn.out]
 have Hb:=Lib.hid (((Below.refl _ _).alloc (Nat.le_refl _) _).trans (hb.mono (by simp)));clear hb
 go_wp2_with fail
 go_loopw [5,9] (fun _ i wr=>∃ k:Nat,∃ cs:List UInt8,k ≤ 4 ∧ i = .int .i64 k ∧ Hid (cs.length = 4 ∧ cs.take k = (sumL n).take k ∧ Bytes wr w1.heap.size cs ∧ Below w.heap.size w wr)) (fun _ i _=>4 - (intOf i).toNat)
 case atStart=>exact ⟨0,List.replicate 4 0,by omega,rfl,rfl,rfl,Bytes.fresh w1 116 4,Hb.out.alloc Hb.out.size _⟩
 case round =>
  obtain ⟨k,cs,hk,rfl,hr⟩:=hrel
  by_cases hlt4:k < 4
  ·obtain ⟨h1,h2,h3,h4⟩:=hr.out
   have hck:(wr.cell? ⟨w1.heap.size,k,none⟩) = some (.int .u8 (cs[k].toNat:Int)):=h3.1 k (by omega)
   have hfk:=h3.2 k (by omega)
   generalize (cs[k].toNat:Int) = c at hck
   clear h1 h2 h3 h4
   have hx:k = 0 ∨ k = 1 ∨ k = 2 ∨ k = 3:=by omega
   have hsz:w.heap.size ≤ w1.heap.size:=Hb.out.size
   rcases hx with rfl | rfl | rfl | rfl
   all_goals
    go_wp2
    refine ⟨⟨_,_,?_,?_,Lib.hid (sum_step hr.out (by omega) hsz ?_)⟩,?_⟩
    ·omega
    ·go_num
    ·simp;try omega
    ·simp [intOf]
  ·obtain rfl:k = 4:=by omega
   obtain ⟨h1,h2,h3,h4⟩:=hr.out
   have hsl:∀ w',(Instr.sliceAt 116 (.pointer (some ⟨w1.heap.size,0,none⟩)) none none none).run Tryz.prog w' = .ok (.slice (some ⟨w1.heap.size,0,none⟩) 4 4) w':=fun w'=>by
    rw [run_sliceAt_array_all w' 116 ⟨w1.heap.size,0,none⟩ Tryz.underlying116]
    rfl
   have hcs:cs = l:=by rw [Hl.out];rw [List.take_of_length_le (by omega),List.take_of_length_le (by rw [sumL_len];omega)] at h2;exact h2
   rw [hcs] at h3
   have hcv:=conv_back (P:=Tryz.prog) (n:=4) (cap:=4) h3 (by rw [Hl.out];rfl) 113 9 5 Tryz.underlying113 Tryz.underlying5 Tryz.underlying9
   clear h1 h2 h3 hcs
   have H4:=Lib.hid h4;clear h4 hr
   go_wp2
   go_ret
   exact ⟨rfl,H4.out⟩
theorem size_list (s:ByteArray):s.size = s.data.toList.length:=by simp
theorem app_list (a b:ByteArray):(a ++ b).data.toList = a.data.toList ++ b.data.toList:=by simp
theorem ret_pair {a a':ByteArray} {k k':Int} (h:a = a') (h2:k = k'):Ending.returned (.tuple #[.string a,.int .i64 k]) = .returned (.tuple #[.string a',.int .i64 k']):=by rw [h,h2]
theorem frame_any (q:Nat) (b:ByteArray) (w:World) (hq:q < 18446744073709551616) (hb:b.size ≤ 4096) :
  Calls Tryz.prog 14 #[.int .u64 q,.string b] w fun e w'=>e = .returned (.tuple #[.string ⟨(frameL q b.data.toList).toArray⟩,.int .i64 0]) ∧ Below w.heap.size w w':=by
 have hpl:=putL_len q
 have hpl2:=putL_len b.size
 have Hq:=Lib.hid hq
 have hbl:b.data.toList.length = b.size:=by simp
 have Hbl:=Lib.hid hbl;clear hbl
 go_enter Tryz.func14,Tryz.ntmps14
 go_wp2_with fail
 refine (put_any q _ Hq.out).mono ?_
 rintro e w1 ⟨rfl,hb1⟩
 have Hb1:=Lib.hid hb1;clear hb1
 go_wp2_with fail
 refine (put_any b.size _ (by omega)).mono ?_
 rintro e w2 ⟨rfl,hb2⟩
 have Hb2:=Lib.hid (below_on Hb1.out hb2);clear hb2 Hb1
 obtain ⟨P1,hP1⟩:∃ P1,P1 = putL q:=⟨_,rfl⟩
 obtain ⟨P2,hP2⟩:∃ P2,P2 = putL b.size:=⟨_,rfl⟩
 rw [← hP1] at hpl ⊢
 rw [← hP2] at hpl2 ⊢
 have HP:=Lib.hid (And.intro hP1 hP2);clear hP1 hP2
 obtain ⟨T,hT⟩:∃ T,T = ByteArray.mk #[83,103] ++ ByteArray.mk P1.toArray ++ ByteArray.mk P2.toArray ++ b:=⟨_,rfl⟩
 have hTl:T.data.toList = textL q b.data.toList:=by
  obtain ⟨e1,e2⟩:=HP.out
  rw [hT,app_list,app_list,app_list,textL,Hbl.out,e1,e2];simp
 have hTs:T.size ≤ 10000:=by
  have e:T.size = T.data.toList.length:=by simp
  rw [e,hTl,textL_len,Hbl.out]
  have:=putL_len q;have:=putL_len b.size
  omega
 have HT:=Lib.hid hT
 have HTl:=Lib.hid hTl;clear hTl
 go_wp2_with fail
 rw [← HT.out]
 refine (sumb_any T _ (by unfold maxLen;omega)).mono ?_
 rintro e w3 ⟨rfl,hb3⟩
 rw [HTl.out]
 have Hb3:=Lib.hid (below_on Hb2.out hb3);clear hb3 Hb2 hT
 have hfin:T ++ ByteArray.mk (sumL (crcSum (textL q b.data.toList))).toArray = ByteArray.mk (frameL q b.data.toList).toArray:=by
  apply bytes_ext;rw [app_list,HTl.out];simp [frameL]
 have HF:=Lib.hid hfin;clear hfin
 have hSL:=sumL_len (crcSum (textL q b.data.toList))
 generalize sumL (crcSum (textL q b.data.toList)) = SL at HF hSL ⊢
 go_wp2
 go_ret2
 exact ⟨ret_pair HF.out rfl,Hb3.out⟩
theorem num_int {r:Rec} (h:Rec.ok r):((r.2:Int) * 4 + (r.1 - 1)) = (r.num:Int):=by unfold Rec.num;obtain ⟨h1,h2,h3⟩:=h;omega
theorem bytes1_any (k:Int) (n:Nat) (w:World) (h:Rec.ok (k,n)) :
  Calls Tryz.prog 15 #[.agg #[.int .i64 k,.int .u64 (n:Int)]] w fun e w'=>e = .returned (.string ⟨(putL (Rec.num (k,n))).toArray⟩) ∧ Below w.heap.size w w':=by
 have hnum:=num_int h
 have hlt:=Rec.num_lt h
 obtain ⟨h1,h2,h3⟩:=h
 simp only at h1 h2 h3 hnum
 have h4:(n:Int) ≤ 4611686018427387903:=by omega
 have Hn:=Lib.hid hnum;clear hnum h3
 have Hl:=Lib.hid hlt;clear hlt
 go_enter Tryz.func15,Tryz.ntmps15
 go_wp2_with fail
 rw [Hn.out]
 refine (put_any _ _ Hl.out).mono ?_
 rintro e w' ⟨rfl,hb⟩
 have Hb:=Lib.hid hb;clear hb
 go_wp2
 go_ret
 exact ⟨rfl,below_on ((Below.refl _ _).alloc (Nat.le_refl _) _) Hb.out⟩
theorem awake_bytes:putL (Rec.num (1,3)) = [12]:=by decide +kernel
theorem live_b:(frameL 0 []).length = 8:=by rw [frameL_len];rfl
theorem live_any (w:World):Calls Tryz.prog 6 #[] w fun e w'=>e = .returned (.bool true) ∧ Below w.heap.size w w':=by
 have h8:=live_b
 obtain ⟨F,hF⟩:∃ F,F = ByteArray.mk (frameL 0 []).toArray:=⟨_,rfl⟩
 have hFs:F.size = 8:=by rw [hF,size_list];exact h8
 have HF:=Lib.hid hF;clear hF h8
 go_enter Tryz.func6,Tryz.ntmps6
 go_wp2_with fail
 refine (frame_any 0 ⟨#[]⟩ _ (by omega) (by decide)).mono ?_
 rintro e w1 ⟨rfl,hb1⟩
 rw [show (ByteArray.mk #[]).data.toList = [] from rfl,← HF.out]
 have Hb1:=Lib.hid hb1;clear hb1
 go_wp2_with fail
 refine (bytes1_any 1 3 _ (by decide)).mono ?_
 rintro e w2 ⟨rfl,hb2⟩
 rw [awake_bytes]
 have Hb2:=Lib.hid (below_on Hb1.out hb2);clear hb2
 go_wp2
 go_ret
 exact ⟨rfl,Hb2.out⟩
theorem nums_of {w:World} {a:Option Addr} {len cap:Nat} {zs:List Int} (h:IsRow .u64 w a len cap zs) :
  ∃ l:List Nat,l.length = len ∧ len ≤ cap ∧ CellsAt w a (numc l) ∧ (∀ n ∈ l,n < 18446744073709551616) ∧ (a = none → len = 0 ∧ cap = 0):=by
 have h0:a = none → len = 0 ∧ cap = 0:=by
  intro ha
  rcases h with ⟨_,h1,h2,_⟩ | ⟨x,h1,_⟩
  ·exact ⟨h1,h2⟩
  ·rw [ha] at h1;cases h1
 obtain ⟨h1,h2,h3,h4⟩:=h.cells
 refine ⟨(zs.take len).map Int.toNat,by rw [List.length_map];exact h3,h1,fun j v hj=>?_,fun n hn=>?_,h0⟩
 ·have hl:j < (zs.take len).length:=by have:=(List.getElem?_eq_some_iff.1 hj).1;simpa [numc] using this
  obtain ⟨b,off,h5,h6,h7⟩:=h4 j hl
  have b1:=bounds_u64 h7
  have e:(numc ((zs.take len).map Int.toNat))[j]? = some (.int .u64 (((zs.take len)[j].toNat:Nat):Int)):=by
   unfold numc;rw [List.map_map,List.getElem?_map,List.getElem?_eq_getElem hl];rfl
  rw [e] at hj
  cases hj
  exact ⟨b,off,h5,by rw [h6,Int.toNat_of_nonneg b1.1]⟩
 ·obtain ⟨z,hz,rfl⟩:=List.mem_map.1 hn
  obtain ⟨i,hi,rfl⟩:=List.mem_iff_getElem.1 hz
  obtain ⟨_,_,_,_,h7⟩:=h4 i hi
  have b1:=bounds_u64 h7
  omega
end Go.Proofs.YtphfaekpckbepaaGreat
open Go Go.RowKit
set_option linter.unusedVariables false
namespace Go.Proofs.YtphfaekpckbepaaGreat.shunterPipe
theorem mk_app (l m:List In4):i4s (l ++ m) = i4s l ++ i4s m:=by unfold i4s;rw [List.flatMap_append]
theorem mk_cells {w:World} {b:Nat} {cs:List Value} (h:Blk w b cs):CellsAt w (some ⟨b,0,none⟩) cs:=fun j v hj=>⟨b,0,rfl,by rw [Nat.zero_add];exact (h j v hj).1⟩
theorem mk_ins:(Tryz.prog.info? 29).map (fun i=>(i.zero,i.size,i.bytes)) = some (some (.agg #[.int .i64 0,.int .i64 0,.int .i64 0,.int .i64 0]),4,32):=by kernel_rfl
theorem mk_int:(Tryz.prog.info? 3).map (fun i=>(i.zero,i.size,i.bytes)) = some (some (.int .i64 0),1,8):=by kernel_rfl
theorem mk_fun:(Tryz.prog.info? 26).map (fun i=>(i.zero,i.size,i.bytes)) = some (some (.slice none 0 0),1,24):=by kernel_rfl
theorem rooms_succ (i:Nat) (r:Int):intc (List.replicate (i + 1) r) = intc (List.replicate i r) ++ [.int .i64 r]:=by
 rw [List.replicate_succ'];unfold intc;rw [List.map_append];rfl
theorem sp_succ (i:Nat):i4s (ppSp (i + 1)) = i4s (ppSp i) ++ [.int .i64 11,.int .i64 (1 + (i:Int)),.int .i64 0,.int .i64 1]:=by
 have e:((i + 1:Nat):Int) = 1 + (i:Int):=by omega
 show i4s (ppSp i ++ _) = _
 rw [mk_app,e];rfl
theorem sp_last (i:Nat):i4s (ppSp (i + 1)) = i4s (ppSp i) ++ [.int .i64 11,.int .i64 ((i:Int) + 1),.int .i64 0,.int .i64 1]:=by
 have e:((i + 1:Nat):Int) = (i:Int) + 1:=by omega
 show i4s (ppSp i ++ _) = _
 rw [mk_app,e];rfl
theorem fe_succ (i:Nat):i4s (ppFe (i + 1)) = i4s (ppFe i) ++ [.int .i64 1,.int .i64 1,.int .i64 (10 + (i:Int)),.int .i64 0,.int .i64 13,.int .i64 0,.int .i64 1,.int .i64 0]:=by
 have e:((10 + i:Nat):Int) = 10 + (i:Int):=by omega
 show i4s (ppFe i ++ _) = _
 rw [mk_app,e];rfl
theorem st_cells (i:Nat):i4s (ppSt i) = [.int .i64 14,.int .i64 (i:Int),.int .i64 1,.int .i64 2,.int .i64 13,.int .i64 ((i:Int) + 1),.int .i64 1,.int .i64 0,.int .i64 7,.int .i64 0,.int .i64 0,.int .i64 0]:=rfl
def stR (bs:List Nat):List Value:=bs.map (fun b=>Value.slice (some ⟨b,0,none⟩) 3 3)
theorem stR_snoc (bs:List Nat) (b:Nat):stR (bs ++ [b]) = stR bs ++ [.slice (some ⟨b,0,none⟩) 3 3]:=by unfold stR;rw [List.map_append];rfl
def InP (bs:List Nat) (rs:List (Option Addr × List Value)):Prop:=∀ j b,bs[j]? = some b → (some (⟨b,0,none⟩:Addr),i4s (ppSt j)) ∈ rs
theorem InP.snoc {bs:List Nat} {rs:List (Option Addr × List Value)} (h:InP bs rs) (b:Nat):InP (bs ++ [b]) ((some ⟨b,0,none⟩,i4s (ppSt bs.length)) :: rs):=fun j c hj=>by
 rw [snoc_get] at hj
 split at hj
 ·rename_i q;cases hj;rw [q];exact List.mem_cons_self ..
 ·exact List.mem_cons_of_mem _ (h j c hj)
theorem fd_app (m:Nat):i4s (ppFd m) = i4s (ppFe m) ++ [.int .i64 10,.int .i64 0,.int .i64 0,.int .i64 0]:=by
 show i4s (ppFe m ++ _) = _
 rw [mk_app];rfl
theorem fs_len (S m:Nat):(ppFs S m).length = S + 1 + 1:=by unfold ppFs;rw [List.length_cons,List.length_append,ppSts_len];rfl
theorem rooms_len (S:Nat) (r:Int):(ppRooms S r).length = S + 1:=by unfold ppRooms;rw [List.length_replicate]
theorem main_app (S:Nat):i4s (ppMain S) = i4s (ppSp (S + 1)) ++ [.int .i64 14,.int .i64 (S:Int),.int .i64 2,.int .i64 3,.int .i64 20,.int .i64 2,.int .i64 0,.int .i64 0,.int .i64 7,.int .i64 ((S + 1:Nat):Int),.int .i64 0,.int .i64 0]:=by
 show i4s (ppSp (S + 1) ++ _) = _
 rw [mk_app];rfl
theorem walk (a0 a1 a2:Int) (p m r s:Int) (a4:Option Addr) (len4 cap4:Nat) (z4:List Int) (w:World) (w0:(Lit.int .i64 a0).wf = true) (w1:(Lit.int .i64 a1).wf = true) (w2:(Lit.int .i64 a2).wf = true) (wp:(Lit.int .i64 p).wf = true) (wm:(Lit.int .i64 m).wf = true) (wr:(Lit.int .i64 r).wf = true) (ws:(Lit.int .i64 s).wf = true) (w4:IsRow .u64 w a4 len4 cap4 z4) :
  Calls Tryz.prog 5 #[.int .i64 a0,.int .i64 a1,.int .i64 a2,.agg #[.int .i64 p,.int .i64 m,.int .i64 r,.int .i64 s],.slice a4 len4 cap4] w fun e w'=>e = .returned (.bool true) ∧ Below w.heap.size w w':=by
 obtain ⟨a,ha⟩:=smC_of p 5 (by omega) (by omega)
 obtain ⟨b,hb⟩:=smC_of m 5 (by omega) (by omega)
 obtain ⟨c,hc⟩:=smC_of r 5 (by omega) (by omega)
 obtain ⟨d,hd⟩:=smC_of s 12 (by omega) (by omega)
 obtain ⟨np,hnp⟩:∃ np:Nat,1 + (a:Int) = (np:Int):=⟨1 + a,by omega⟩
 obtain ⟨nm,hnm⟩:∃ nm:Nat,1 + (b:Int) = (nm:Int):=⟨1 + b,by omega⟩
 have KS:Hid (∀ wx,Calls Tryz.prog 8 #[.agg #[.int .i64 p,.int .i64 m,.int .i64 r,.int .i64 s]] wx fun e w'=>e = .returned (.agg #[.int .i64 (np:Int),.int .i64 (nm:Int),.int .i64 (2 + (c:Int)),.int .i64 (1 + (d:Int))]) ∧ Below wx.heap.size wx w'):=Lib.hid (fun wx=>by
  have h:=some18_any wx p m r s a b c d ha hb hc hd
  rw [hnp,hnm] at h
  exact h)
 have ha5:=ha.2.2.2
 have hb5:=hb.2.2.2
 have hd5:=hd.2.2.2.1
 have HCD:Hid ((1 ≤ np ∧ np ≤ 64) ∧ (1 ≤ nm ∧ nm ≤ 64) ∧ d < 12):=Lib.hid ⟨by omega,by omega,hd5⟩
 obtain ⟨s0,hs0',hs02,-⟩:=small_of a0 5 (by omega)
 have hs0:(bits BinOp.and IntKind.i64 a0 255).tmod 5 = (s0:Int):=hs0'
 obtain ⟨m0,hm0',hm02,-⟩:=small_of a1 6 (by omega)
 have hm0:(bits BinOp.and IntKind.i64 a1 255).tmod 6 = (m0:Int):=hm0'
 obtain ⟨rm,hrm',hrm2,-⟩:=small_of a2 3 (by omega)
 have hrm:(bits BinOp.and IntKind.i64 a2 255).tmod 3 = (rm:Int):=hrm'
 obtain ⟨S,hS⟩:∃ S:Nat,1 + (s0:Int) = (S:Int):=⟨1 + s0,by omega⟩
 obtain ⟨M,hM⟩:∃ M:Nat,1 + (m0:Int) = (M:Int):=⟨1 + m0,by omega⟩
 have hS1:1 ≤ S ∧ S ≤ 5:=by omega
 have hM1:1 ≤ M ∧ M ≤ 6:=by omega
 have HSM:=Lib.hid (And.intro hS1 hM1)
 have hS5:S ≤ 5:=by omega
 have hM6:M ≤ 6:=by omega
 obtain ⟨l,rfl,hlc,hcl,hlu,hn0⟩:=nums_of w4
 obtain ⟨k,hk⟩:∃ k:Nat,k = min l.length 1200:=⟨_,rfl⟩
 have hkif:(if 1200 < (l.length:Int) then (1200:Int) else (l.length:Int)) = (k:Int):=by split <;> omega
 have hkl:k ≤ l.length:=by omega
 have hk1:k ≤ 1200:=by omega
 have hNl:(l.take k).length = k:=by rw [List.length_take];omega
 have hNc:CellsAt w a4 (numc (l.take k)):=fun j v hj=>by
  refine hcl j v ?_
  unfold numc at hj ⊢
  rw [List.getElem?_map,List.getElem?_take] at hj
  rw [List.getElem?_map]
  split at hj
  ·exact hj
  ·simp at hj
 have hNu:∀ y ∈ l.take k,y < 18446744073709551616:=fun y hy=>hlu y (List.mem_of_mem_take hy)
 have hsl:=fun w=>slice_head (P:=Tryz.prog) (t:=25) w Tryz.underlying25 (fun w=>by first | rfl | kernel_rfl) a4 l.length cap4 k (by omega)
 have hmn:a4 = none → k = 0 ∧ cap4 = 0:=fun h=>by obtain ⟨h1,h2⟩:=hn0 h;omega
 generalize hNN:l.take k = nums at *
 have HNS:Hid (CellsAt w a4 (numc nums) ∧ nums.length = k ∧ (∀ y ∈ nums,y < 18446744073709551616) ∧ (a4 = none → k = 0 ∧ cap4 = 0) ∧ k ≤ 1200):=Lib.hid ⟨hNc,hNl,hNu,hmn,hk1⟩
 obtain ⟨nl,hnl⟩:∃ nl,nl = l.length:=⟨_,rfl⟩
 rw [← hnl] at hkif hsl hkl hlc ⊢
 have HSL:=Lib.hid (And.intro hsl hkif)
 clear hs0' hm0' hrm' w0 w1 w2 wp wm wr ws ha hb hc hd ha5 hb5 hd5 hNc hNl hNu hmn hNN hcl hlu hn0 w4 hk hnl hsl hkif hnp hnm hkl hk1 hS1 hM1
 obtain ⟨i0,hi0,hz0,hz1,hz2⟩:=info_parts mk_ins
 obtain ⟨j0,hj0,jz0,jz1,jz2⟩:=info_parts mk_int
 obtain ⟨f0,hf0,fz0,fz1,fz2⟩:=info_parts mk_fun
 have Hi:=Lib.hid hi0;clear hi0
 have Hz0:=Lib.hid hz0;clear hz0
 have Hz1:=Lib.hid hz1;clear hz1
 have Hz2:=Lib.hid hz2;clear hz2
 have Ji:=Lib.hid hj0;clear hj0
 have Jz0:=Lib.hid jz0;clear jz0
 have Jz1:=Lib.hid jz1;clear jz1
 have Jz2:=Lib.hid jz2;clear jz2
 have Fi:=Lib.hid hf0;clear hf0
 have Fz0:=Lib.hid fz0;clear fz0
 have Fz1:=Lib.hid fz1;clear fz1
 have Fz2:=Lib.hid fz2;clear fz2
 go_enter Tryz.func5,Tryz.ntmps5
 go_upto_region 1 with fail
 have o0:Own w (w.alloc (.cells #[.int .i64 p,.int .i64 m,.int .i64 r,.int .i64 s] 24)) [CelA w.heap.size [.int .i64 p,.int .i64 m,.int .i64 r,.int .i64 s]]:=by
  have h:=(Own.nil (Below.refl _ w)).alloc [.int .i64 p,.int .i64 m,.int .i64 r,.int .i64 s] 24 (b:=w.heap.size) rfl
  exact h
 generalize (w.alloc (.cells #[.int .i64 p,.int .i64 m,.int .i64 r,.int .i64 s] 24)) = wa at *
 generalize hq:w.heap.size = q at *
 have HQ:=Lib.hid hq
 have O1:=Lib.hid o0
 clear hq o0
 go_upto_region 2 with fail
 try rw [hs0,hm0]
 try rw [hS,hM]
 clear hs0 hm0 hS hM
 go_upto_region 4 with fail
 have ho0:Own w (wa.alloc (.cells #[.slice none 0 0,.slice none 0 0,.int .i64 0,.slice none 0 0] 34)) [RowGA 1 none 0 0 (intc (List.replicate 0 (rm:Int))),CelA wa.heap.size [.slice none 0 0,.slice none 0 0,.int .i64 0,.slice none 0 0],CelA q [.int .i64 p,.int .i64 m,.int .i64 r,.int .i64 s]] :=
  ((O1.out.alloc [.slice none 0 0,.slice none 0 0,.int .i64 0,.slice none 0 0] 34 rfl).add (Below.refl _ _) (A:=RowGA 1 none 0 0 (intc (List.replicate 0 (rm:Int)))) (F:=[]) ⟨rfl,RowG.nil _ _⟩ (fun x hx=>by cases hx))
 generalize (wa.alloc (.cells #[.slice none 0 0,.slice none 0 0,.int .i64 0,.slice none 0 0] 34)) = wb at *
 generalize wa.heap.size = pg at *
 have HO:=Lib.hid ho0;clear ho0 O1
 go_loopw [33] (fun iv wr=>∃ i:Nat,∃ ra cap,i ≤ S + 1 ∧ iv = .int .i64 i ∧ Hid (Own w wr [RowGA 1 ra cap i (intc (List.replicate i (rm:Int))),CelA pg [.slice none 0 0,.slice ra i cap,.int .i64 0,.slice none 0 0],CelA q [.int .i64 p,.int .i64 m,.int .i64 r,.int .i64 s]])) (fun iv _=>S + 1 - (intOf iv).toNat)
 case atStart=>exact ⟨0,none,0,by omega,rfl,HO⟩
 case round =>
  obtain ⟨i,ra,cap,hi,rfl,hr⟩:=hrel
  by_cases hlt:i < S + 1
  ·have hlt2:(i:Int) < (S:Int) + 1:=by omega
   have o1:=hr.out.step (below_alloc1 wr (.cells #[.int .i64 (rm:Int)] 3))
   have c1:=hr.out.cel 1 rfl 1 _ rfl
   have H1:=Lib.hid o1
   have HC1:=Lib.hid c1.1
   clear o1 hr c1
   have hc1:=HC1.out
   go_wp2_with (at_builtin;go_loud (refine wpList_append_rowG rfl _ _ 22 rfl 3 j0 _ Tryz.underlying22 Ji.out Jz0.out Jz1.out Jz2.out rfl (by decide) (by decide) (n:=i) (m:=1) (cs:=intc (List.replicate i (rm:Int))) (ds:=[.int .i64 (rm:Int)]) (by rfl) (by rfl) (H1.out.rowG 0 rfl) (CellsAt.new _ [.int .i64 (rm:Int)] _ rfl) rfl (by simp [Value.oneCell']) (by omega) ?_))
   intro a9 c9 w9 k9 ch9 f9
   have o2:=Own.rowTurn H1.out k9 ch9 (fun x hx=>by simpa using f9 x hx)
   have H2:Hid (Own w w9 [RowGA 1 a9 c9 (i + 1) (intc (List.replicate (i + 1) (rm:Int))),CelA pg [.slice none 0 0,.slice ra i cap,.int .i64 0,.slice none 0 0],CelA q [.int .i64 p,.int .i64 m,.int .i64 r,.int .i64 s]]):=Lib.hid (by rw [rooms_succ];exact o2)
   obtain ⟨c2,c3⟩:=H2.out.cel 1 rfl 1 _ rfl
   have H3:Hid (Own w (w9.setCell ⟨pg,1,none⟩ (.slice a9 (i + 1) c9)) [RowGA 1 a9 c9 (i + 1) (intc (List.replicate (i + 1) (rm:Int))),CelA pg [.slice none 0 0,.slice a9 (i + 1) c9,.int .i64 0,.slice none 0 0],CelA q [.int .i64 p,.int .i64 m,.int .i64 r,.int .i64 s]]):=Lib.hid (H2.out.setAt 1 rfl 1 (.slice a9 (i + 1) c9))
   clear o2 k9 ch9 f9 H1 H2 hc1 HC1
   go_wp2
   exact ⟨⟨i + 1,a9,c9,by omega,by go_num,H3⟩,by simp [intOf];omega⟩
  ·obtain rfl:i = S + 1:=by omega
   have hge:¬ (((S + 1:Nat):Int) < (S:Int) + 1):=by omega
   have H1:=hr
   clear hr hi hlt HO
   go_upto_region 9 with fail
   obtain ⟨ga,gb⟩:∃ x:Nat,x = wr.heap.size:=⟨_,rfl⟩
   have ho0:Own w (wr.alloc (.cells #[] 29)) [RowGA 4 (some ⟨wr.heap.size,0,none⟩) 0 0 (i4s (ppSp 0)),RowGA 1 ra cap (S + 1) (intc (List.replicate (S + 1) (rm:Int))),CelA pg [.slice none 0 0,.slice ra (S + 1) cap,.int .i64 0,.slice none 0 0],CelA q [.int .i64 p,.int .i64 m,.int .i64 r,.int .i64 s]] :=
    H1.out.add (below_alloc1 wr (.cells #[] 29)) (A:=RowGA 4 (some ⟨wr.heap.size,0,none⟩) 0 0 (i4s (ppSp 0))) (F:=[wr.heap.size]) ⟨rfl,RowG.zero (by simp)⟩ (by intro x hx;simp at hx;omega)
   have HO:=Lib.hid ho0;clear ho0 H1 gb ga
   generalize (wr.alloc (.cells #[] 29)) = wc at *
   generalize wr.heap.size = qx at *
   clear hge
   generalize hRP:intc (List.replicate (S + 1) (rm:Int)) = RP at *
   have HRP:=Lib.hid hRP
   clear hRP
   go_loopw [12,13,46] (fun sv xv iv wr=>∃ i:Nat,∃ rb cb,i ≤ S ∧ iv = .int .i64 i ∧ sv = .slice rb i cb ∧ Hid (Own w wr [RowGA 4 rb cb i (i4s (ppSp i)),RowGA 1 ra cap (S + 1) RP,CelA pg [.slice none 0 0,.slice ra (S + 1) cap,.int .i64 0,.slice none 0 0],CelA q [.int .i64 p,.int .i64 m,.int .i64 r,.int .i64 s]])) (fun _ _ iv _=>S - (intOf iv).toNat)
   case atStart=>exact ⟨0,_,0,by omega,rfl,rfl,HO⟩
   case round =>
    obtain ⟨i,rb,cb,hi,rfl,rfl,hr⟩:=hrel
    by_cases hlt:i < S
    ·have hlt2:(i:Int) < (S:Int):=by omega
     have o1:=hr.out.step (below_alloc1 wr (.cells #[.int .i64 11,.int .i64 (1 + (i:Int)),.int .i64 0,.int .i64 1] 29))
     have H1:=Lib.hid o1
     clear o1 hr
     go_wp2_with (at_builtin;go_loud (refine wpList_append_rowG rfl _ _ 26 rfl 29 i0 _ Tryz.underlying26 Hi.out Hz0.out Hz1.out Hz2.out rfl (by decide) (by decide) (n:=i) (m:=1) (cs:=i4s (ppSp i)) (ds:=[.int .i64 11,.int .i64 (1 + (i:Int)),.int .i64 0,.int .i64 1]) (by rfl) (by rfl) (H1.out.rowG 0 rfl) (CellsAt.new _ [.int .i64 11,.int .i64 (1 + (i:Int)),.int .i64 0,.int .i64 1] _ rfl) rfl (by simp [Value.oneCell']) (by omega) ?_))
     intro a9 c9 w9 k9 ch9 f9
     have o2:=Own.rowTurn H1.out k9 ch9 (fun x hx=>by simpa using f9 x hx)
     have H2:Hid (Own w w9 [RowGA 4 a9 c9 (i + 1) (i4s (ppSp (i + 1))),RowGA 1 ra cap (S + 1) RP,CelA pg [.slice none 0 0,.slice ra (S + 1) cap,.int .i64 0,.slice none 0 0],CelA q [.int .i64 p,.int .i64 m,.int .i64 r,.int .i64 s]]):=Lib.hid (by rw [sp_succ];exact o2)
     clear o2 k9 ch9 f9 H1
     go_wp2
     exact ⟨⟨i + 1,a9,c9,by omega,by go_num,rfl,H2⟩,by simp [intOf];omega⟩
    ·obtain rfl:S = i:=by omega
     have hge:¬ ((S:Int) < (S:Int)):=by omega
     clear HO hi hlt
     have o1:=hr.out.step (below_alloc1 wr (.cells #[.int .i64 11,.int .i64 ((S:Int) + 1),.int .i64 0,.int .i64 1] 29))
     have H1:=Lib.hid o1
     clear o1 hr
     go_wp2_with (at_builtin;go_loud (refine wpList_append_rowG rfl _ _ 26 rfl 29 i0 _ Tryz.underlying26 Hi.out Hz0.out Hz1.out Hz2.out rfl (by decide) (by decide) (n:=S) (m:=1) (cs:=i4s (ppSp S)) (ds:=[.int .i64 11,.int .i64 ((S:Int) + 1),.int .i64 0,.int .i64 1]) (by rfl) (by rfl) (H1.out.rowG 0 rfl) (CellsAt.new _ [.int .i64 11,.int .i64 ((S:Int) + 1),.int .i64 0,.int .i64 1] _ rfl) rfl (by simp [Value.oneCell']) (by omega) ?_))
     intro a9 c9 w9 k9 ch9 f9
     have o2:=Own.rowTurn H1.out k9 ch9 (fun x hx=>by simpa using f9 x hx)
     have H2:Hid (Own w w9 [RowGA 4 a9 c9 (S + 1) (i4s (ppSp (S + 1))),RowGA 1 ra cap (S + 1) RP,CelA pg [.slice none 0 0,.slice ra (S + 1) cap,.int .i64 0,.slice none 0 0],CelA q [.int .i64 p,.int .i64 m,.int .i64 r,.int .i64 s]]):=Lib.hid (by rw [sp_last];exact o2)
     clear o2 k9 ch9 f9 H1
     go_upto_region 15 with fail
     have o1:=H2.out.step (below_alloc1 w9 (.cells #[.int .i64 14,.int .i64 (S:Int),.int .i64 2,.int .i64 3,.int .i64 20,.int .i64 2,.int .i64 0,.int .i64 0,.int .i64 7,.int .i64 ((S + 1:Nat):Int),.int .i64 0,.int .i64 0] 29))
     have H1:=Lib.hid o1
     clear o1 H2
     go_wp2_with (at_builtin;go_loud (refine wpList_append_rowG rfl _ _ 26 rfl 29 i0 _ Tryz.underlying26 Hi.out Hz0.out Hz1.out Hz2.out rfl (by decide) (by decide) (n:=S + 1) (m:=3) (cs:=i4s (ppSp (S + 1))) (ds:=[.int .i64 14,.int .i64 (S:Int),.int .i64 2,.int .i64 3,.int .i64 20,.int .i64 2,.int .i64 0,.int .i64 0,.int .i64 7,.int .i64 ((S + 1:Nat):Int),.int .i64 0,.int .i64 0]) (by rfl) (by rfl) (H1.out.rowG 0 rfl) (CellsAt.new _ [.int .i64 14,.int .i64 (S:Int),.int .i64 2,.int .i64 3,.int .i64 20,.int .i64 2,.int .i64 0,.int .i64 0,.int .i64 7,.int .i64 ((S + 1:Nat):Int),.int .i64 0,.int .i64 0] _ rfl) rfl (by simp [Value.oneCell']) (by omega) ?_))
     intro am cm w8 k9 ch9 f9
     have o2:=Own.rowTurn H1.out k9 ch9 (fun x hx=>by simpa using f9 x hx)
     have H2:Hid (Own w w8 [RowGA 4 am cm (S + 1 + 3) (i4s (ppMain S)),RowGA 1 ra cap (S + 1) RP,CelA pg [.slice none 0 0,.slice ra (S + 1) cap,.int .i64 0,.slice none 0 0],CelA q [.int .i64 p,.int .i64 m,.int .i64 r,.int .i64 s]]):=Lib.hid (by rw [main_app];exact o2)
     clear o2 k9 ch9 f9 H1 hge
     have o3:=H2.out.add (below_alloc1 w8 (.cells #[.slice am (S + 1 + 3) cm] 26)) (A:=RowGA 1 (some ⟨w8.heap.size,0,none⟩) 1 1 [.slice am (S + 1 + 3) cm]) (F:=[w8.heap.size]) ⟨rfl,RowG.new 1 1 w8 [.slice am (S + 1 + 3) cm] 26 rfl (by decide) rfl⟩ (by intro x hx;simp at hx;omega)
     obtain ⟨c2,c3⟩:=o3.cel 3 rfl 0 _ rfl
     have H3:Hid (Own w ((w8.alloc (.cells #[.slice am (S + 1 + 3) cm] 26)).setCell ⟨pg,0,none⟩ (.slice (some ⟨w8.heap.size,0,none⟩) 1 1)) [RowGA 1 (some ⟨w8.heap.size,0,none⟩) 1 1 [.slice am (S + 1 + 3) cm],RowGA 4 am cm (S + 1 + 3) (i4s (ppMain S)),RowGA 1 ra cap (S + 1) RP,CelA pg [.slice (some ⟨w8.heap.size,0,none⟩) 1 1,.slice ra (S + 1) cap,.int .i64 0,.slice none 0 0],CelA q [.int .i64 p,.int .i64 m,.int .i64 r,.int .i64 s]]):=Lib.hid (o3.setAt 3 rfl 0 (.slice (some ⟨w8.heap.size,0,none⟩) 1 1))
     clear o3 H2
     go_upto_region 18 with fail
     have ho3:Own w ((w8.alloc (.cells #[.slice am (S + 1 + 3) cm] 26)).setCell ⟨pg,0,none⟩ (.slice (some ⟨w8.heap.size,0,none⟩) 1 1)) [PoolG [],RowGA 1 (some ⟨w8.heap.size,0,none⟩) 1 1 [.slice am (S + 1 + 3) cm],CelA pg [.slice (some ⟨w8.heap.size,0,none⟩) 1 1,.slice ra (S + 1) cap,.int .i64 0,.slice none 0 0],RowGA 4 am cm (S + 1 + 3) (i4s (ppMain S)),RowGA 1 ra cap (S + 1) RP,CelA q [.int .i64 p,.int .i64 m,.int .i64 r,.int .i64 s]]:=by
      have h1:=(H3.out.pick 3 rfl).pick 1 rfl
      have h2:=(h1.pick 1 rfl).pick 1 rfl
      exact h2.add (Below.refl _ _) (A:=PoolG []) (F:=[]) ⟨fun x hx=>(by cases hx),fun x hx=>(by cases hx)⟩ (fun x hx=>(by cases hx))
     have HO:=Lib.hid ho3
     clear ho3 H3 c2 c3
     generalize ((w8.alloc (.cells #[.slice am (S + 1 + 3) cm] 26)).setCell ⟨pg,0,none⟩ (.slice (some ⟨w8.heap.size,0,none⟩) 1 1)) = wd at *
     generalize w8.heap.size = fq at *
     go_loopw [15,76] (fun xv iv wr=>∃ i:Nat,∃ rf cf bs rs,i ≤ S ∧ iv = .int .i64 i ∧ Hid (bs.length = i ∧ InP bs rs) ∧ Hid (Own w wr [PoolG rs,RowGA 1 rf cf (i + 1) (.slice am (S + 1 + 3) cm :: stR bs),CelA pg [.slice rf (i + 1) cf,.slice ra (S + 1) cap,.int .i64 0,.slice none 0 0],RowGA 4 am cm (S + 1 + 3) (i4s (ppMain S)),RowGA 1 ra cap (S + 1) RP,CelA q [.int .i64 p,.int .i64 m,.int .i64 r,.int .i64 s]])) (fun _ iv _=>S - (intOf iv).toNat)
     case atStart=>exact ⟨0,_,1,[],[],by omega,rfl,Lib.hid ⟨rfl,fun j b h=>(by simp at h)⟩,HO⟩
     case round =>
      obtain ⟨i,rf,cf,bs,rs,hi,rfl,hbs,hr⟩:=hrel
      by_cases hlt:i < S
      ·have hlt2:(i:Int) < (S:Int):=by omega
       have o1:=hr.out.poolGAdd (below_alloc1 wr (.cells #[.int .i64 14,.int .i64 (i:Int),.int .i64 1,.int .i64 2,.int .i64 13,.int .i64 ((i:Int) + 1),.int .i64 1,.int .i64 0,.int .i64 7,.int .i64 0,.int .i64 0,.int .i64 0] 29)) (a':=some ⟨wr.heap.size,0,none⟩) (cs:=i4s (ppSt i)) (by rw [st_cells];exact CellsAt.new wr [.int .i64 14,.int .i64 (i:Int),.int .i64 1,.int .i64 2,.int .i64 13,.int .i64 ((i:Int) + 1),.int .i64 1,.int .i64 0,.int .i64 7,.int .i64 0,.int .i64 0,.int .i64 0] 29 rfl) (by intro x hx;simp [blk] at hx;subst hx;simp) (by intro x hx;simp [blk] at hx;subst hx;exact .inr (Nat.le_refl _))
       have o2:=(o1.step (below_alloc1 (wr.alloc (.cells #[.int .i64 14,.int .i64 (i:Int),.int .i64 1,.int .i64 2,.int .i64 13,.int .i64 ((i:Int) + 1),.int .i64 1,.int .i64 0,.int .i64 7,.int .i64 0,.int .i64 0,.int .i64 0] 29)) (.cells #[.slice (some ⟨wr.heap.size,0,none⟩) 3 3] 26))).pick 1 rfl
       have c1:=hr.out.cel 2 rfl 0 _ rfl
       have H1:=Lib.hid o2
       have hc1:=c1.1
       clear o1 o2 hr c1
       go_wp2_with (at_builtin;go_loud (refine wpList_append_rowG rfl _ _ 31 rfl 26 f0 _ Tryz.underlying31 Fi.out Fz0.out Fz1.out Fz2.out rfl (by decide) (by decide) (n:=i + 1) (m:=1) (cs:=.slice am (S + 1 + 3) cm :: stR bs) (ds:=[.slice (some ⟨wr.heap.size,0,none⟩) 3 3]) (by rfl) (by rfl) (H1.out.rowG 0 rfl) (CellsAt.new _ [.slice (some ⟨wr.heap.size,0,none⟩) 3 3] _ (by simp)) rfl (by simp [Value.oneCell']) (by omega) ?_))
       intro a9 c9 w9 k9 ch9 f9
       have o3:=Own.rowTurn H1.out k9 ch9 (fun x hx=>by simpa using f9 x hx)
       obtain ⟨c2,c3⟩:=o3.cel 2 rfl 0 _ rfl
       have o4:=(o3.setAt 2 rfl 0 (.slice a9 (i + 1 + 1) c9)).pick 1 rfl
       have H3:Hid (Own w (w9.setCell ⟨pg,0,none⟩ (.slice a9 (i + 1 + 1) c9)) [PoolG ((some ⟨wr.heap.size,0,none⟩,i4s (ppSt i)) :: rs),RowGA 1 a9 c9 (i + 1 + 1) (.slice am (S + 1 + 3) cm :: stR (bs ++ [wr.heap.size])),CelA pg [.slice a9 (i + 1 + 1) c9,.slice ra (S + 1) cap,.int .i64 0,.slice none 0 0],RowGA 4 am cm (S + 1 + 3) (i4s (ppMain S)),RowGA 1 ra cap (S + 1) RP,CelA q [.int .i64 p,.int .i64 m,.int .i64 r,.int .i64 s]]):=Lib.hid (by rw [stR_snoc];exact o4)
       have HB3:Hid ((bs ++ [wr.heap.size]).length = i + 1 ∧ InP (bs ++ [wr.heap.size]) ((some ⟨wr.heap.size,0,none⟩,i4s (ppSt i)) :: rs)):=Lib.hid (by
        obtain ⟨b1,b2⟩:=hbs.out
        refine ⟨by rw [List.length_append,b1];rfl,?_⟩
        have:=b2.snoc wr.heap.size
        rw [b1] at this
        exact this)
       clear o3 o4 k9 ch9 f9 H1 hc1 hbs
       go_wp2
       exact ⟨⟨i + 1,a9,c9,_,_,by omega,by go_num,HB3,H3⟩,by simp [intOf];omega⟩
      ·obtain rfl:S = i:=by omega
       have hge:¬ ((S:Int) < (S:Int)):=by omega
       have H1:=hr
       clear hr HO hi hlt
       go_upto_region 24 with fail
       have ho0:=H1.out.add (below_alloc1 wr (.cells #[] 29)) (A:=RowGA 4 (some ⟨wr.heap.size,0,none⟩) 0 (2 * 0) (i4s (ppFe 0))) (F:=[wr.heap.size]) ⟨rfl,RowG.zero (by simp)⟩ (by intro x hx;simp at hx;omega)
       have HO:=Lib.hid ho0;clear ho0 H1
       generalize (wr.alloc (.cells #[] 29)) = we at *
       generalize wr.heap.size = qy at *
       clear hge
       go_loopw [16,17,94] (fun sv xv iv wr=>∃ j:Nat,∃ rb cb,j ≤ M ∧ iv = .int .i64 j ∧ sv = .slice rb (2 * j) cb ∧ Hid (Own w wr [RowGA 4 rb cb (2 * j) (i4s (ppFe j)),PoolG rs,RowGA 1 rf cf (S + 1) (.slice am (S + 1 + 3) cm :: stR bs),CelA pg [.slice rf (S + 1) cf,.slice ra (S + 1) cap,.int .i64 0,.slice none 0 0],RowGA 4 am cm (S + 1 + 3) (i4s (ppMain S)),RowGA 1 ra cap (S + 1) RP,CelA q [.int .i64 p,.int .i64 m,.int .i64 r,.int .i64 s]])) (fun _ _ iv _=>M - (intOf iv).toNat)
       case atStart=>exact ⟨0,_,0,by omega,rfl,rfl,HO⟩
       case round =>
        obtain ⟨j,rb,cb,hi,rfl,rfl,hr⟩:=hrel
        by_cases hlt:j < M
        ·have hlt2:(j:Int) < (M:Int):=by omega
         have o1:=hr.out.step (below_alloc1 wr (.cells #[.int .i64 1,.int .i64 1,.int .i64 (10 + (j:Int)),.int .i64 0,.int .i64 13,.int .i64 0,.int .i64 1,.int .i64 0] 29))
         have H1:=Lib.hid o1
         clear o1 hr
         go_wp2_with (at_builtin;go_loud (refine wpList_append_rowG rfl _ _ 26 rfl 29 i0 _ Tryz.underlying26 Hi.out Hz0.out Hz1.out Hz2.out rfl (by decide) (by decide) (n:=2 * j) (m:=2) (cs:=i4s (ppFe j)) (ds:=[.int .i64 1,.int .i64 1,.int .i64 (10 + (j:Int)),.int .i64 0,.int .i64 13,.int .i64 0,.int .i64 1,.int .i64 0]) (by rfl) (by rfl) (H1.out.rowG 0 rfl) (CellsAt.new _ [.int .i64 1,.int .i64 1,.int .i64 (10 + (j:Int)),.int .i64 0,.int .i64 13,.int .i64 0,.int .i64 1,.int .i64 0] _ rfl) rfl (by simp [Value.oneCell']) (by omega) ?_))
         intro a9 c9 w9 k9 ch9 f9
         have o2:=Own.rowTurn H1.out k9 ch9 (fun x hx=>by simpa using f9 x hx)
         have H2:Hid (Own w w9 [RowGA 4 a9 c9 (2 * (j + 1)) (i4s (ppFe (j + 1))),PoolG rs,RowGA 1 rf cf (S + 1) (.slice am (S + 1 + 3) cm :: stR bs),CelA pg [.slice rf (S + 1) cf,.slice ra (S + 1) cap,.int .i64 0,.slice none 0 0],RowGA 4 am cm (S + 1 + 3) (i4s (ppMain S)),RowGA 1 ra cap (S + 1) RP,CelA q [.int .i64 p,.int .i64 m,.int .i64 r,.int .i64 s]]):=Lib.hid (by rw [fe_succ];exact o2)
         clear o2 k9 ch9 f9 H1
         go_wp2
         exact ⟨⟨j + 1,a9,c9,by omega,by go_num,rfl,H2⟩,by simp [intOf];omega⟩
        ·obtain rfl:M = j:=by omega
         have hge:¬ ((M:Int) < (M:Int)):=by omega
         have H1:=hr
         clear hr HO hi hlt
         go_upto_region 28 with fail
         generalize hws0:wr = wf at *
         clear hws0
         have o1:=H1.out.step (below_drew1 wf)
         refine wp_region_lexZ (fun wx=>wx.cell? ⟨pg,0,none⟩ = some (.slice rf (S + 1) cf)) 10 (Array.replicate 10 false) (by kernel_rfl) (by kernel_rfl) ?_
         generalize hwx:wf.drew = wg at *
         clear hwx
         refine wpAnyZ_seg 0 4 _ #[true,true,true,true,false,false,false,false,false,false] 6 (by kernel_rfl) noPanic_put ((o1.cel 3 rfl 0 _ rfl).1) (by kernel_rfl) ?_
         simp only [List.take_succ_cons,List.take_zero,List.drop_zero]
         repeat ((first | refine wpSegH_no (by rfl) ?_ | (refine wpSegH_yes (by rfl) ?_;apply Exists.intro;apply And.intro;(· (intro wx hS;(try dsimp only at hS);go_simp;first | done | with_reducible rfl))));simp only [Act.put,List.setIfInBounds_toArray,List.set_cons_zero,List.set_cons_succ])
         refine wpSegH_nil ?_
         have o2:=o1.step (below_alloc1 wg (.cells #[.int .i64 10,.int .i64 0,.int .i64 0,.int .i64 0] 29))
         refine wpAnyZ_one 4 _ #[true,true,true,true,true,false,false,false,false,false] 5 (by kernel_rfl) (fun K hK=>?_)
         have HKK:=Lib.hid hK
         clear hK
         simp only [List.drop_succ_cons,List.drop_zero]
         refine headH_mk (by rfl) ?_
         go_simp
         refine HKK.out _ _ ((o2.cel 3 rfl 0 _ rfl).1) ?_
         clear HKK K
         refine wpAnyZ_one 5 _ #[true,true,true,true,true,true,false,false,false,false] 4 (by kernel_rfl) (fun K hK=>?_)
         have HKK:=Lib.hid hK
         clear hK
         simp only [List.drop_succ_cons,List.drop_zero]
         refine headH_mk (by rfl) ?_
         refine wp_append_rowG (n:=2 * M) (m:=1) (cs:=i4s (ppFe M)) (ds:=[.int .i64 10,.int .i64 0,.int .i64 0,.int .i64 0]) _ _ 26 (by rfl) 29 i0 _ Tryz.underlying26 Hi.out Hz0.out Hz1.out Hz2.out rfl (by decide) (by decide) (by rfl) (by rfl) (o2.rowG 0 rfl) (CellsAt.new _ [.int .i64 10,.int .i64 0,.int .i64 0,.int .i64 0] _ rfl) rfl (by simp [Value.oneCell']) (by omega) ?_
         intro a9 c9 w9 k9 ch9 f9
         have o3:=Own.rowTurn o2 k9 ch9 f9
         refine HKK.out _ _ ((o3.cel 3 rfl 0 _ rfl).1) ?_
         clear HKK K
         have o4:=o3.step (below_alloc1 w9 (.cells #[.slice a9 (2 * M + 1) c9] 26))
         clear o1 o2 k9 ch9 f9 H1
         refine wpAnyZ_one 6 _ #[true,true,true,true,true,true,true,false,false,false] 3 (by kernel_rfl) (fun K hK=>?_)
         have HKK:=Lib.hid hK
         clear hK
         simp only [List.drop_succ_cons,List.drop_zero]
         refine headH_mk (by rfl) ?_
         go_simp
         refine HKK.out _ _ ((o4.cel 3 rfl 0 _ rfl).1) ?_
         clear HKK K
         refine wpAnyZ_one 7 _ #[true,true,true,true,true,true,true,true,false,false] 2 (by kernel_rfl) (fun K hK=>?_)
         have HKK:=Lib.hid hK
         clear hK
         simp only [List.drop_succ_cons,List.drop_zero]
         refine headH_mk (by rfl) ?_
         refine wp_append_rowG (n:=S + 1) (m:=1) (cs:=.slice am (S + 1 + 3) cm :: stR bs) (ds:=[.slice a9 (2 * M + 1) c9]) _ _ 31 (by rfl) 26 f0 _ Tryz.underlying31 Fi.out Fz0.out Fz1.out Fz2.out rfl (by decide) (by decide) (by rfl) (by rfl) ((o4.pick 2 rfl).rowG 0 rfl) (CellsAt.new _ [.slice a9 (2 * M + 1) c9] _ rfl) rfl (by simp [Value.oneCell']) (by omega) ?_
         intro af caf wh k9 ch9 f9
         have o5:=Own.rowTurn (o4.pick 2 rfl) k9 ch9 f9
         refine HKK.out _ _ ((o5.cel 3 rfl 0 _ rfl).1) ?_
         clear HKK K
         clear o3 o4 k9 ch9 f9
         refine wpAnyZ_seg 8 1 _ #[true,true,true,true,true,true,true,true,true,false] 1 (by kernel_rfl) noPanic_put ((o5.cel 3 rfl 0 _ rfl).1) (by kernel_rfl) ?_
         simp only [List.take_succ_cons,List.take_zero,List.drop_succ_cons,List.drop_zero]
         repeat ((first | refine wpSegH_no (by rfl) ?_ | (refine wpSegH_yes (by rfl) ?_;apply Exists.intro;apply And.intro;(· (intro wx hS;(try dsimp only at hS);go_simp;first | done | with_reducible rfl))));simp only [Act.put,List.setIfInBounds_toArray,List.set_cons_zero,List.set_cons_succ])
         refine wpSegH_nil ?_
         obtain ⟨c2,c3⟩:=o5.cel 3 rfl 0 _ rfl
         have o6:=o5.setAt 3 rfl 0 (.slice af (S + 1 + 1) caf)
         refine wpAnyZ_end 9 _ #[true,true,true,true,true,true,true,true,true,true] (by kernel_rfl) (fun K hK=>?_)
         have HKK:=Lib.hid hK
         clear hK
         simp only [List.drop_succ_cons,List.drop_zero]
         refine headH_mk (by rfl) ?_
         go_simp
         refine HKK.out _ _ (NoPanic.normal ?_)
         clear HKK K
         have o7:Own w (wh.setCell ⟨pg,0,none⟩ (.slice af (S + 1 + 1) caf)) [RowGA 1 af caf (S + 1 + 1) (.slice am (S + 1 + 3) cm :: stR bs ++ [.slice a9 (2 * M + 1) c9]),RowGA 4 a9 c9 (2 * M + 1) (i4s (ppFd M)),PoolG rs,CelA pg [.slice af (S + 1 + 1) caf,.slice ra (S + 1) cap,.int .i64 0,.slice none 0 0],RowGA 4 am cm (S + 1 + 3) (i4s (ppMain S)),RowGA 1 ra cap (S + 1) RP,CelA q [.int .i64 p,.int .i64 m,.int .i64 r,.int .i64 s]]:=by rw [fd_app];exact o6
         clear o5 o6 c2 c3 hge
         generalize wh.setCell ⟨pg,0,none⟩ (.slice af (S + 1 + 1) caf) = w13 at *
         go_upto_region 29 with fail
         have HSB:Hid (∀ (wx:World) (As:List Asr),Own w wx (As ++ [RowGA 1 af caf (S + 1 + 1) (.slice am (S + 1 + 3) cm :: stR bs ++ [.slice a9 (2 * M + 1) c9]),RowGA 4 a9 c9 (2 * M + 1) (i4s (ppFd M)),PoolG rs,CelA pg [.slice af (S + 1 + 1) caf,.slice ra (S + 1) cap,.int .i64 0,.slice none 0 0],RowGA 4 am cm (S + 1 + 3) (i4s (ppMain S)),RowGA 1 ra cap (S + 1) RP,CelA q [.int .i64 p,.int .i64 m,.int .i64 r,.int .i64 s]]) → wx.cell? ⟨pg,0,none⟩ = some (.slice af (S + 1 + 1) caf) ∧ wx.cell? ⟨pg,1,none⟩ = some (.slice ra (S + 1) cap) ∧ wx.cell? ⟨pg,2,none⟩ = some (.int .i64 0) ∧ wx.cell? ⟨pg,3,none⟩ = some (.slice none 0 0) ∧ wx.cell? ⟨q,0,none⟩ = some (.int .i64 p) ∧ wx.cell? ⟨q,1,none⟩ = some (.int .i64 m) ∧ wx.cell? ⟨q,2,none⟩ = some (.int .i64 r) ∧ wx.cell? ⟨q,3,none⟩ = some (.int .i64 s)):=Lib.hid (fun wx As hx=>by
          have h:=Own.dropL hx
          exact ⟨(h.cel 3 rfl 0 _ rfl).1,(h.cel 3 rfl 1 _ rfl).1,(h.cel 3 rfl 2 _ rfl).1,(h.cel 3 rfl 3 _ rfl).1,(h.cel 6 rfl 0 _ rfl).1,(h.cel 6 rfl 1 _ rfl).1,(h.cel 6 rfl 2 _ rfl).1,(h.cel 6 rfl 3 _ rfl).1⟩)
         have o4:=o7.step (below_drew1 w13)
         obtain ⟨hsl,hkif⟩:=HSL.out
         clear o7
         refine wp_region_lexH (fun wx=>wx.cell? ⟨pg,0,none⟩ = some (.slice af (S + 1 + 1) caf) ∧ wx.cell? ⟨pg,1,none⟩ = some (.slice ra (S + 1) cap) ∧ wx.cell? ⟨pg,2,none⟩ = some (.int .i64 0) ∧ wx.cell? ⟨pg,3,none⟩ = some (.slice none 0 0) ∧ wx.cell? ⟨q,0,none⟩ = some (.int .i64 p) ∧ wx.cell? ⟨q,1,none⟩ = some (.int .i64 m) ∧ wx.cell? ⟨q,2,none⟩ = some (.int .i64 r) ∧ wx.cell? ⟨q,3,none⟩ = some (.int .i64 s)) 10 (Array.replicate 10 false) (by kernel_rfl) (by kernel_rfl) ?_
         generalize w13.drew = w14 at *
         refine wpAnyH_seg 0 2 _ #[true,true,false,false,false,false,false,false,false,false] 8 (by kernel_rfl) noPanic_put (HSB.out _ [] o4) (by kernel_rfl) ?_
         simp only [List.take_succ_cons,List.take_zero,List.drop_zero]
         repeat ((first | refine wpSegH_no (by rfl) ?_ | (refine wpSegH_yes (by rfl) ?_;apply Exists.intro;apply And.intro;(· (intro wx hS;(try dsimp only at hS);go_simp;first | done | with_reducible rfl))));simp only [Act.put,List.setIfInBounds_toArray,List.set_cons_zero,List.set_cons_succ])
         refine wpSegH_nil ?_
         refine wpAnyH_seg 3 4 _ #[true,true,false,true,true,true,true,false,false,false] 4 (by kernel_rfl) noPanic_put (HSB.out _ [] o4) (by kernel_rfl) ?_
         simp only [List.take_succ_cons,List.take_zero,List.drop_succ_cons,List.drop_zero]
         repeat ((first | refine wpSegH_no (by rfl) ?_ | (refine wpSegH_yes (by rfl) ?_;apply Exists.intro;apply And.intro;(· (intro wx hS;(try dsimp only at hS);go_simp;first | done | with_reducible rfl))));simp only [Act.put,List.setIfInBounds_toArray,List.set_cons_zero,List.set_cons_succ])
         refine wpSegH_nil ?_
         try rw [hkif]
         refine wpAnyH_seg 7 1 _ #[true,true,false,true,true,true,true,true,false,false] 3 (by kernel_rfl) noPanic_put (HSB.out _ [] o4) (by kernel_rfl) ?_
         simp only [List.take_succ_cons,List.take_zero,List.drop_succ_cons,List.drop_zero]
         repeat ((first | refine wpSegH_no (by rfl) ?_ | (refine wpSegH_yes (by rfl) ?_;apply Exists.intro;apply And.intro;(· (intro wx hS;(try dsimp only at hS);go_simp;first | done | with_reducible rfl))));simp only [Act.put,List.setIfInBounds_toArray,List.set_cons_zero,List.set_cons_succ])
         refine wpSegH_nil ?_
         clear hsl hkif
         refine wpAnyH_one 2 _ #[true,true,true,true,true,true,true,true,false,false] 2 (by kernel_rfl) (fun K hK=>?_)
         have HKK:=Lib.hid hK
         clear hK
         simp only [List.drop_succ_cons,List.drop_zero]
         refine headH_mk (by rfl) ?_
         go_simp
         refine (KS.out _).mono ?_
         rintro rr w15 ⟨rfl,hb5⟩
         have o5:=o4.step hb5
         clear o4 hb5
         refine HKK.out _ _ (HSB.out _ [] o5) ?_
         clear HKK K
         have hrun:=trun_any o5 a4 cap4 1200 nums af caf ((am,cm) :: (bs.map (fun b=>(some ⟨b,0,none⟩,3)) ++ [(a9,c9)])) (ppFs S M) ra cap (ppRooms S (rm:Int)) 0 none 0 [] (fun wx Q hx=>by
           have h:=Own.dropL hx
           exact ⟨pp_prog (h.rowG 4 rfl).cells (h.rowG 4 rfl).none0 (fun i b hb=>(h.poolGGet 2 rfl (hbs.out.2 i b hb)).1) hbs.out.1 (h.rowG 1 rfl).cells (h.rowG 1 rfl).none0 (by omega) (by omega) (h.rowG 0 rfl).cells (by rw [show intc (ppRooms S (rm:Int)) = RP from HRP.out];exact (h.rowG 5 rfl).cells) (by omega) (by omega),HNS.out.1.below hx.bel⟩) (by decide) np nm (2 + (c:Int)) (1 + (d:Int)) (by have:=HCD.out;omega) (by have:=HCD.out;omega)
          (by rw [HNS.out.2.1];exact HNS.out.2.2.2.1) (by rw [HNS.out.2.1];have:=HNS.out.2.2.2.2;omega) HNS.out.2.2.1 (by omega) (fun k' Y hY hk'=>by
           obtain ⟨h1,h2⟩:=pp_keeps_all (by have:=HSM.out;omega) (by omega) (by omega) HCD.out.1 HCD.out.2.1 (by have:=HCD.out.2.2;omega) (by omega) hY
           obtain ⟨A,cs,Cs,out,ck,h3⟩:=h1
           refine ⟨h2,?_⟩
           rw [h3.e]
           exact .inl rfl)
         rw [HNS.out.2.1,fs_len,rooms_len] at hrun
         have HRUN:=Lib.hid hrun
         clear hrun
         refine wpAnyH_one 8 _ #[true,true,true,true,true,true,true,true,true,false] 1 (by kernel_rfl) (fun K hK=>?_)
         have HKK:=Lib.hid hK
         clear hK
         simp only [List.drop_succ_cons,List.drop_zero]
         refine headH_mk (by rfl) ?_
         go_simp
         refine HRUN.out.mono ?_
         rintro rr w16 ⟨bs2,sp,kk,Y,rfl,hrch,hkk,o6⟩
         refine HKK.out _ _ (HSB.out _ [_] o6) ?_
         clear HKK K
         refine wpAnyH_seg 9 1 _ #[true,true,true,true,true,true,true,true,true,true] 0 (by kernel_rfl) noPanic_put (HSB.out _ [_] o6) (by kernel_rfl) ?_
         simp only [List.take_succ_cons,List.take_zero,List.drop_succ_cons,List.drop_zero]
         repeat ((first | refine wpSegH_no (by rfl) ?_ | (refine wpSegH_yes (by rfl) ?_;apply Exists.intro;apply And.intro;(· (intro wx hS;(try dsimp only at hS);go_simp;first | done | with_reducible rfl))));simp only [Act.put,List.setIfInBounds_toArray,List.set_cons_zero,List.set_cons_succ])
         refine wpSegH_nil ?_
         refine wpAnyH_done (by kernel_rfl) (NoPanic.normal ?_) _
         obtain ⟨hfit,hwf⟩:=pp_keeps_all (by have:=HSM.out;omega) (by omega) (by omega) HCD.out.1 HCD.out.2.1 (by have:=HCD.out.2.2;omega) (by omega) hrch
         have H6:Hid (Own w w16 [SchA bs2 sp Y]):=Lib.hid ((o6.perm (List.perm_append_comm (l₁:=[SchA bs2 sp Y]) (l₂:=[_,_,_,_,_,_,_]))).dropL)
         obtain ⟨L,hs⟩:=H6.out.sat
         obtain ⟨T,Q,hw,-⟩:=hs.world
         have HW:=Lib.hid (sworld_any hs)
         have ho:=out_w hw hwf.wf
         obtain ⟨⟨hlen,hval⟩,hov⟩:=pp_sees (by have:=HSM.out;omega) hfit
         have hgs:Y.W.gs.length ≤ 1000000:=by have:=hwf.wf.g1.2;omega
         have HGS:=Lib.hid hgs
         have HVAL:=Lib.hid hval
         clear o5 o6 hrch HSB HRUN KS hs hw hfit hwf hgs hval
         generalize Y.W.out = ot at *
         have HOUT:=Lib.hid ho
         have HOV:=Lib.hid hov
         clear ho hov
         go_wp2_with fail
         refine HW.out.mono ?_
         rintro rr w17 ⟨rfl,rfl⟩
         go_wp2_with fail
         refine HOUT.out.mono ?_
         rintro rr w18 ⟨ao,co,rfl,hor,-,hb⟩
         have o7:=H6.out.step hb
         have HC:Hid (∀ i,i < ot.length → ∃ b off,ao = some ⟨b,off,none⟩ ∧ w18.cell? ⟨b,off + i,none⟩ = some (.int .i64 (10 + (i:Int)))):=Lib.hid (fun i hi=>by
          obtain ⟨v,hv⟩:∃ v,ot[i]? = some v:=⟨_,List.getElem?_eq_getElem hi⟩
          obtain ⟨b,off,h1,h2⟩:=hor.cells i (.int .i64 v) (by unfold intc;rw [List.getElem?_map,hv];rfl)
          have e:((10 + i:Nat):Int) = 10 + (i:Int):=by omega
          exact ⟨b,off,h1,by rw [h2,HVAL.out i v hv,e]⟩)
         have O7:=Lib.hid o7
         clear o7 hb hor HOUT HW H6 HVAL
         generalize ot.length = no at *
         go_wp2_with fail
         go_loopw [20,21,128] (fun xv yv iv wr=>∃ i:Nat,i ≤ no ∧ iv = .int .i64 i ∧ Hid (Below w18.heap.size w18 wr)) (fun _ _ iv _=>no - (intOf iv).toNat)
         case atStart=>exact ⟨0,by omega,rfl,Lib.hid (Below.refl _ _)⟩
         case round =>
          obtain ⟨i,hi,rfl,hb⟩:=hrel
          by_cases hlt:i < no
          ·have hlt2:(i:Int) < (no:Int):=by omega
           have hi0:(0:Int) ≤ (i:Int):=by omega
           obtain ⟨gb,off,rfl,hz⟩:=HC.out i hlt
           have hz1:=cell_below hz hb.out
           clear hz
           go_wp2
           exact ⟨⟨i + 1,by omega,by go_num,hb⟩,by simp [intOf];omega⟩
          ·obtain rfl:no = i:=by omega
           have hge:¬ ((no:Int) < (no:Int)):=by omega
           have O8:=Lib.hid (O7.out.step hb.out)
           have hol:(no:Int) ≤ (M:Int):=by omega
           clear hb O7 HC hi hlt
           go_wp2_with fail
           refine (live_any _).mono ?_
           rintro rr w20 ⟨rfl,hb9⟩
           have o9:=O8.out.step hb9
           obtain ⟨L2,hs2⟩:=o9.sat
           have hst:=stat_any hs2 HGS.out
           have HB9:=Lib.hid o9.bel
           clear hb9 o9 hs2 O8
           rcases HOV.out with hov | ⟨hov,hon⟩
           ·rw [hov] at hst
            have HST:=Lib.hid hst
            clear hst hov
            go_wp2_with fail
            refine HST.out.mono ?_
            rintro rr w21 ⟨rfl,hb10⟩
            have HB10:=Lib.hid (below_on HB9.out hb10)
            clear hb10 HST
            go_wp2
            go_ret
            exact ⟨rfl,HB10.out⟩
           ·rw [hov] at hst
            have HST:=Lib.hid hst
            clear hst hov HOV
            subst hon
            go_wp2_with fail
            refine HST.out.mono ?_
            rintro rr w21 ⟨rfl,hb10⟩
            have HB10:=Lib.hid (below_on HB9.out hb10)
            clear hb10 HST
            go_wp2
            go_ret
            exact ⟨rfl,HB10.out⟩
end Go.Proofs.YtphfaekpckbepaaGreat.shunterPipe
