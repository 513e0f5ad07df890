/-
  Texts put together: SdB, SdQ, SdNear, RowG3, Nums, Get, Back, Ints, Bld, Recs, RecsIn, WSrc1, WSrc2, WSrc3, WSrc4, WSrc5, WSrc6, SdDrw, SdNew, SdLook, WdBox, WdTick, WdStk, SdExec.
-/
import Derived.Test.YtphfaekpckbepaaGreatMp6
import Derived.Test.YtphfaekpckbepaaGreatMp2
import Derived.Test.YtphfaekpckbepaaGreatMp3
import Derived.Test.YtphfaekpckbepaaGreatMp4
import Derived.Test.YtphfaekpckbepaaGreatMp1
import Derived.WalkKit
import Derived.IntWalk
import Derived.Lib.BitFns
import Derived.OpenShut
import Derived.ProofKit
import Derived.Lib.Builder
import Derived.Deep.SlicePairs
import Derived.Lib.SmallJoins
import Derived.Test.YtphfaekpckbepaaGreatRows
import Derived.Deep.QuietTactic
import Derived.BigQuiet
import Derived.WalkSmall
set_option maxRecDepth 100000
set_option maxHeartbeats 16000000
set_option linter.unusedSimpArgs false
set_option linter.unusedVariables false
open Go Go.RowKit
set_option linter.unusedVariables false
namespace Go.Proofs.YtphfaekpckbepaaGreat
section
variable {w0 w:World} {b sp:Nat} {X:Sd} {S:Sa} {R:List Asr}
theorem sp_proc (h:Own w0 w (schP b sp X S ++ R)) (hf:S.fits X) {i:Nat} (hi:i < X.ps.length):∃ pb off p g,S.pa = some ⟨pb,off,none⟩ ∧ S.ld[i]? = some (p,g) ∧
  (w.cell? ⟨pb,off + i * 3,none⟩ = some (.pointer (some ⟨p,0,none⟩)) ∧ w.cell? ⟨pb,off + i * 3 + 1,none⟩ = some (.int .i64 ((X.p i).tu:Int)) ∧ w.cell? ⟨pb,off + i * 3 + 2,none⟩ = some (.int .i64 (X.p i).by_)) ∧
  w.frozen? ⟨pb,off + i * 3 + 1,none⟩ = false ∧ w.frozen? ⟨pb,off + i * 3 + 2,none⟩ = false:=by
 have hr:=h.rowG 1 rfl
 have hl:i < S.ld.length:=by rw [hf.l];exact hi
 obtain ⟨l,hl2⟩:∃ l,S.ld[i]? = some l:=⟨_,List.getElem?_eq_getElem hl⟩
 obtain ⟨pb,off,e⟩:=hr.some (j:=i * 3) (by rw [pcs_len _ _ hf.l];omega)
 rw [e] at hr
 obtain ⟨a0,-⟩:=hr.part (i * 3) _ (by have:=pcs_at hl2 (X.p_at hi) 0 (by omega);rw [Nat.add_zero] at this;exact this.trans rfl)
 obtain ⟨a1,b1⟩:=hr.part (i * 3 + 1) _ ((pcs_at hl2 (X.p_at hi) 1 (by omega)).trans rfl)
 obtain ⟨a2,b2⟩:=hr.part (i * 3 + 2) _ ((pcs_at hl2 (X.p_at hi) 2 (by omega)).trans rfl)
 rw [← Nat.add_assoc] at a1 b1 a2 b2
 exact ⟨pb,off,l.1,l.2,e,hl2,⟨a0,a1,a2⟩,b1,b2⟩
theorem sp_mach (h:Own w0 w (schP b sp X S ++ R)) {i:Nat} (hi:i < X.ms.length):∃ mb off,S.ma = some ⟨mb,off,none⟩ ∧
  (w.cell? ⟨mb,off + i * 3,none⟩ = some (.int .i64 (X.m i).P) ∧ w.cell? ⟨mb,off + i * 3 + 1,none⟩ = some (.int .i64 (X.m i).G) ∧ w.cell? ⟨mb,off + i * 3 + 2,none⟩ = some (.int .i64 (X.m i).L)) ∧
  w.frozen? ⟨mb,off + i * 3,none⟩ = false ∧ w.frozen? ⟨mb,off + i * 3 + 1,none⟩ = false ∧ w.frozen? ⟨mb,off + i * 3 + 2,none⟩ = false:=by
 have hr:=h.rowG 3 rfl
 obtain ⟨mb,off,e⟩:=hr.some (j:=i * 3) (by rw [mcs_len];omega)
 rw [e] at hr
 obtain ⟨a0,b0⟩:=hr.part (i * 3) _ (by have:=mcs_at (X.m_at hi) 0 (by omega);rw [Nat.add_zero] at this;exact this.trans rfl)
 obtain ⟨a1,b1⟩:=hr.part (i * 3 + 1) _ ((mcs_at (X.m_at hi) 1 (by omega)).trans rfl)
 obtain ⟨a2,b2⟩:=hr.part (i * 3 + 2) _ ((mcs_at (X.m_at hi) 2 (by omega)).trans rfl)
 rw [← Nat.add_assoc] at a1 b1 a2 b2
 exact ⟨mb,off,e,⟨a0,a1,a2⟩,b0,b1,b2⟩
theorem Sa.fits.setP (hf:S.fits X) (i:Nat) (P:Pm):S.fits (X.setP i P):=⟨hf.w,by rw [hf.l];unfold Sd.setP;simp⟩
theorem Sa.fits.setM (hf:S.fits X) (i:Nat) (M:Mm):S.fits (X.setM i M):=⟨hf.w,hf.l⟩
theorem own_by (h:Own w0 w (schP b sp X S ++ R)) (hf:S.fits X) {i pb off:Nat} (hi:i < X.ps.length) (hpa:S.pa = some ⟨pb,off,none⟩) (t:Int) :
  Own w0 (w.setCell ⟨pb,off + i * 3 + 2,none⟩ (.int .i64 t)) (schP b sp (X.setP i { X.p i with by_:=t }) S ++ R):=by
 have hl:i < S.ld.length:=by rw [hf.l];exact hi
 obtain ⟨l,hl2⟩:∃ l,S.ld[i]? = some l:=⟨_,List.getElem?_eq_getElem hl⟩
 have h1:=h.pick 1 rfl
 have hlen:(X.ps.set i { X.p i with by_:=t }).length = X.ps.length:=by simp
 have e2:qds S.ld (X.ps.set i { X.p i with by_:=t }) = qds S.ld X.ps:=qds_same (X.p_at hi) rfl rfl
 have hb:=fun (w':World) (hh:Own w0 w' (RowGA 3 S.pa S.pc X.ps.length (pcs S.ld (X.ps.set i { X.p i with by_:=t })) :: (schP b sp X S ++ R).eraseIdx 1))=>hh.back (As:=schP b sp X S ++ R) (i:=1) (by simp [schP])
 have key:Own w0 (w.setCell ⟨pb,off + i * 3 + 2,none⟩ (.int .i64 t)) (RowGA 3 S.pa S.pc X.ps.length (pcs S.ld (X.ps.set i { X.p i with by_:=t })) :: (schP b sp X S ++ R).eraseIdx 1):=by
  rw [← pcs_by hl2 (X.p_at hi)]
  have h2:=h1
  rw [hpa] at h2 ⊢
  have h3:=h2.rowSet (i * 3 + 2) (.int .i64 t) (by rw [pcs_len _ _ hf.l];omega)
  rw [← Nat.add_assoc] at h3
  exact h3
 have h4:=hb _ key
 unfold schP stl Sd.setP
 simp only
 rw [hlen,e2]
 exact h4
theorem own_tu (h:Own w0 w (schP b sp X S ++ R)) (hf:S.fits X) {i pb off:Nat} (hi:i < X.ps.length) (hpa:S.pa = some ⟨pb,off,none⟩) (t:Nat) :
  Own w0 (w.setCell ⟨pb,off + i * 3 + 1,none⟩ (.int .i64 (t:Int))) (schP b sp (X.setP i { X.p i with tu:=t }) S ++ R):=by
 have hl:i < S.ld.length:=by rw [hf.l];exact hi
 obtain ⟨l,hl2⟩:∃ l,S.ld[i]? = some l:=⟨_,List.getElem?_eq_getElem hl⟩
 have h1:=h.pick 1 rfl
 have hlen:(X.ps.set i { X.p i with tu:=t }).length = X.ps.length:=by simp
 have e2:qds S.ld (X.ps.set i { X.p i with tu:=t }) = qds S.ld X.ps:=qds_same (X.p_at hi) rfl rfl
 have hb:=fun (w':World) (hh:Own w0 w' (RowGA 3 S.pa S.pc X.ps.length (pcs S.ld (X.ps.set i { X.p i with tu:=t })) :: (schP b sp X S ++ R).eraseIdx 1))=>hh.back (As:=schP b sp X S ++ R) (i:=1) (by simp [schP])
 have key:Own w0 (w.setCell ⟨pb,off + i * 3 + 1,none⟩ (.int .i64 (t:Int))) (RowGA 3 S.pa S.pc X.ps.length (pcs S.ld (X.ps.set i { X.p i with tu:=t })) :: (schP b sp X S ++ R).eraseIdx 1):=by
  rw [← pcs_tu hl2 (X.p_at hi)]
  have h2:=h1
  rw [hpa] at h2 ⊢
  have h3:=h2.rowSet (i * 3 + 1) (.int .i64 (t:Int)) (by rw [pcs_len _ _ hf.l];omega)
  rw [← Nat.add_assoc] at h3
  exact h3
 have h4:=hb _ key
 unfold schP stl Sd.setP
 simp only
 rw [hlen,e2]
 exact h4
theorem mcs_P {ms:List Mm} {i:Nat} {M:Mm} (hM:ms[i]? = some M) (t:Int):(mcs ms).set (i * 3) (.int .i64 t) = mcs (ms.set i { M with P:=t }):=by
 rw [mcs_set (List.getElem?_eq_some_iff.1 hM).1]
 show _ = setL _ _ [_,_,_]
 rw [setL3,set_self _ (i * 3 + 1) _ (by rw [List.getElem?_set_ne (by omega),mcs_at hM 1 (by omega)];rfl),set_self _ (i * 3 + 2) _ (by rw [List.getElem?_set_ne (by omega),mcs_at hM 2 (by omega)];rfl)]
theorem mcs_G {ms:List Mm} {i:Nat} {M:Mm} (hM:ms[i]? = some M) (t:Int):(mcs ms).set (i * 3 + 1) (.int .i64 t) = mcs (ms.set i { M with G:=t }):=by
 rw [mcs_set (List.getElem?_eq_some_iff.1 hM).1]
 show _ = setL _ _ [_,_,_]
 rw [setL3,set_self (mcs ms) (i * 3) _ ((mcs_at hM 0 (by omega)).trans rfl),set_self _ (i * 3 + 2) _ (by rw [List.getElem?_set_ne (by omega),mcs_at hM 2 (by omega)];rfl)]
theorem mcs_L {ms:List Mm} {i:Nat} {M:Mm} (hM:ms[i]? = some M) (t:Int):(mcs ms).set (i * 3 + 2) (.int .i64 t) = mcs (ms.set i { M with L:=t }):=by
 rw [mcs_set (List.getElem?_eq_some_iff.1 hM).1]
 show _ = setL _ _ [_,_,_]
 rw [setL3,set_self (mcs ms) (i * 3) _ ((mcs_at hM 0 (by omega)).trans rfl),set_self (mcs ms) (i * 3 + 1) _ (by rw [mcs_at hM 1 (by omega)];rfl)]
theorem own_mc (h:Own w0 w (schP b sp X S ++ R)) {i mb off:Nat} (hi:i < X.ms.length) (hma:S.ma = some ⟨mb,off,none⟩) (k:Nat) (hk:k < 3) (v:Value) (M:Mm) (e:(mcs X.ms).set (i * 3 + k) v = mcs (X.ms.set i M)) :
  Own w0 (w.setCell ⟨mb,off + (i * 3 + k),none⟩ v) (schP b sp (X.setM i M) S ++ R):=by
 have h1:=h.pick 3 rfl
 have hlen:(X.ms.set i M).length = X.ms.length:=by simp
 have key:Own w0 (w.setCell ⟨mb,off + (i * 3 + k),none⟩ v) (RowGA 3 S.ma S.mc X.ms.length (mcs (X.ms.set i M)) :: (schP b sp X S ++ R).eraseIdx 3):=by
  rw [← e]
  have h2:=h1
  rw [hma] at h2 ⊢
  exact h2.rowSet (i * 3 + k) v (by rw [mcs_len];omega)
 have h4:=key.back (As:=schP b sp X S ++ R) (i:=3) (by simp [schP])
 unfold schP stl Sd.setM
 simp only
 rw [hlen]
 exact h4
theorem own_mP (h:Own w0 w (schP b sp X S ++ R)) {i mb off:Nat} (hi:i < X.ms.length) (hma:S.ma = some ⟨mb,off,none⟩) (t:Int):Own w0 (w.setCell ⟨mb,off + i * 3,none⟩ (.int .i64 t)) (schP b sp (X.setM i { X.m i with P:=t }) S ++ R) :=
 own_mc h hi hma 0 (by omega) _ _ (mcs_P (X.m_at hi) t)
theorem own_mG (h:Own w0 w (schP b sp X S ++ R)) {i mb off:Nat} (hi:i < X.ms.length) (hma:S.ma = some ⟨mb,off,none⟩) (t:Int):Own w0 (w.setCell ⟨mb,off + i * 3 + 1,none⟩ (.int .i64 t)) (schP b sp (X.setM i { X.m i with G:=t }) S ++ R) :=
 own_mc h hi hma 1 (by omega) _ _ (mcs_G (X.m_at hi) t)
theorem own_mL (h:Own w0 w (schP b sp X S ++ R)) {i mb off:Nat} (hi:i < X.ms.length) (hma:S.ma = some ⟨mb,off,none⟩) (t:Int):Own w0 (w.setCell ⟨mb,off + i * 3 + 2,none⟩ (.int .i64 t)) (schP b sp (X.setM i { X.m i with L:=t }) S ++ R) :=
 own_mc h hi hma 2 (by omega) _ _ (mcs_L (X.m_at hi) t)
theorem own_qg (h:Own w0 w (schP b sp X S ++ R)) (hf:S.fits X) {i p g:Nat} (hi:i < X.ps.length) (hl:S.ld[i]? = some (p,g)) {q':LQ} {gl':List Int} {f:FuncId} {args:Array Value} {ret:Ending → Prop}
  (hc:∀ R',Own w0 w (locA ⟨p,g,(X.p i).N,(X.p i).q,none,0⟩ :: gloA (gpOf b sp X S) X.gl :: R') → Calls Tryz.prog f args w fun r w'=>ret r ∧ Own w0 w' (locA ⟨p,g,(X.p i).N,q',none,0⟩ :: gloA (gpOf b sp X S) gl' :: R')) :
  Calls Tryz.prog f args w fun r w'=>ret r ∧ ∃ a c,Own w0 w' (schP b sp { X.setP i { X.p i with q:=q' } with gl:=gl' } { S with ga:=a,gc:=c } ++ R):=by
 have h1:=h.toG.pick 1 rfl
 obtain ⟨R',h2,h3⟩:=h1.lstPick (locs_at (qds_at hl (X.p_at hi)))
 have h4:Own w0 w (locA ⟨p,g,(X.p i).N,(X.p i).q,none,0⟩ :: gloA (gpOf b sp X S) X.gl :: (R' ++ (sfar X S ++ R))):=h2.perm (List.Perm.cons _ List.perm_middle)
 refine (hc _ h4).mono (fun r w' hh=>⟨hh.1,?_⟩)
 have k1:Own w0 w' (locA ⟨p,g,(X.p i).N,q',none,0⟩ :: (R' ++ (gloA (gpOf b sp X S) gl' :: (sfar X S ++ R)))):=hh.2.perm (List.Perm.cons _ List.perm_middle.symm)
 have k2:=h3 _ _ _ k1
 rw [locs_set,show (⟨p,g,(X.p i).N,q',none,0⟩:Qd) = qd1 (p,g) { X.p i with q:=q' } from rfl,qds_set i hl] at k2
 have k3:=k2.perm (List.Perm.swap _ _ _)
 exact Own.ofG (X:=X) (by simp [Sd.setP]) k3 (pcs_q hl (X.p_at hi) q')
theorem own_q1 (h:Own w0 w (schP b sp X S ++ R)) (hf:S.fits X) {i p g:Nat} (hi:i < X.ps.length) (hl:S.ld[i]? = some (p,g)) {q':LQ} {f:FuncId} {args:Array Value} {ret:Ending → Prop}
  (hc:∀ R',Own w0 w (locA ⟨p,g,(X.p i).N,(X.p i).q,none,0⟩ :: R') → Calls Tryz.prog f args w fun r w'=>ret r ∧ Own w0 w' (locA ⟨p,g,(X.p i).N,q',none,0⟩ :: R')) :
  Calls Tryz.prog f args w fun r w'=>ret r ∧ Own w0 w' (schP b sp (X.setP i { X.p i with q:=q' }) S ++ R):=by
 have h1:=h.pick 2 rfl
 obtain ⟨R',h2,h3⟩:=h1.lstPick (locs_at (qds_at hl (X.p_at hi)))
 refine (hc _ h2).mono (fun r w' hh=>⟨hh.1,?_⟩)
 have k2:=h3 _ _ _ hh.2
 rw [locs_set,show (⟨p,g,(X.p i).N,q',none,0⟩:Qd) = qd1 (p,g) { X.p i with q:=q' } from rfl,qds_set i hl] at k2
 have k3:=k2.back (As:=schP b sp X S ++ R) (i:=2) (by simp [schP])
 have e:pcs S.ld (X.ps.set i { X.p i with q:=q' }) = pcs S.ld X.ps:=pcs_q hl (X.p_at hi) q'
 have hlen:(X.ps.set i { X.p i with q:=q' }).length = X.ps.length:=by simp
 unfold schP stl Sd.setP
 simp only
 rw [hlen,e]
 exact k3
end
end Go.Proofs.YtphfaekpckbepaaGreat
open Go Go.RowKit
set_option linter.unusedVariables false
namespace Go.Proofs.YtphfaekpckbepaaGreat
structure Sl where
 pa:Option Addr
 ma:Option Addr
 ld:List (Nat × Nat)
 mc:Nat
def SAt (w0 w:World) (b sp:Nat) (L:Sl) (X:Sd) (R:List Asr):Prop:=∃ S:Sa,S.fits X ∧ (S.pa = L.pa ∧ (S.ma = L.ma ∧ S.mc = L.mc) ∧ S.ld = L.ld) ∧ Own w0 w (schP b sp X S ++ R)
section
variable {w0 w:World} {b sp:Nat} {L:Sl} {X:Sd} {R:List Asr}
theorem Own.sat (h:Own w0 w (SchA b sp X :: R)):∃ L,SAt w0 w b sp L X R:=by
 obtain ⟨S,hf,h1⟩:=h.sch
 exact ⟨⟨S.pa,S.ma,S.ld,S.mc⟩,S,hf,⟨rfl,⟨rfl,rfl⟩,rfl⟩,h1⟩
theorem SAt.to (h:SAt w0 w b sp L X R):Own w0 w (SchA b sp X :: R):=by obtain ⟨S,hf,-,h⟩:=h;exact Own.toSch hf h
theorem SAt.step {w':World} (h:SAt w0 w b sp L X R) (hb:Below w.heap.size w w'):SAt w0 w' b sp L X R:=by obtain ⟨S,hf,e,h⟩:=h;exact ⟨S,hf,e,h.step hb⟩
theorem SAt.c11 (h:SAt w0 w b sp L X R):w.cell? ⟨b,11,none⟩ = some (.pointer (some ⟨sp,0,none⟩)):=by obtain ⟨S,hf,e,h⟩:=h;exact (h.cel 0 rfl 11 _ rfl).1
theorem SAt.c12 (h:SAt w0 w b sp L X R):∃ c,w.cell? ⟨b,12,none⟩ = some (.slice L.pa X.ps.length c):=by obtain ⟨S,hf,⟨e,-,-⟩,h⟩:=h;rw [← e];exact ⟨_,(h.cel 0 rfl 12 _ rfl).1⟩
theorem SAt.c13 (h:SAt w0 w b sp L X R):∃ c,w.cell? ⟨b,13,none⟩ = some (.slice L.ma X.ms.length c):=by obtain ⟨S,hf,⟨-,e,-⟩,h⟩:=h;rw [← e.1];exact ⟨_,(h.cel 0 rfl 13 _ rfl).1⟩
theorem SAt.c13' (h:SAt w0 w b sp L X R):w.cell? ⟨b,13,none⟩ = some (.slice L.ma X.ms.length L.mc):=by obtain ⟨S,hf,⟨-,e,-⟩,h⟩:=h;rw [← e.1,← e.2];exact (h.cel 0 rfl 13 _ rfl).1
theorem SAt.c15 (h:SAt w0 w b sp L X R):w.cell? ⟨b,15,none⟩ = some (.int .i64 X.sl):=by obtain ⟨S,hf,e,h⟩:=h;exact (h.cel 0 rfl 15 _ rfl).1
theorem SAt.c16 (h:SAt w0 w b sp L X R):w.cell? ⟨b,16,none⟩ = some (.int .i64 (X.st:Int)) ∧ w.frozen? ⟨b,16,none⟩ = false:=by obtain ⟨S,hf,e,h⟩:=h;exact h.cel 0 rfl 16 _ rfl
theorem SAt.pa (h:SAt w0 w b sp L X R) {i:Nat} (hi:i < X.ps.length):∃ pb off p g,L.pa = some ⟨pb,off,none⟩ ∧ L.ld[i]? = some (p,g):=by
 obtain ⟨S,hf,⟨e1,e2,e3⟩,h⟩:=h
 obtain ⟨pb,off,p,g,k1,k2,-⟩:=sp_proc h hf hi
 exact ⟨pb,off,p,g,by rw [← e1];exact k1,by rw [← e3];exact k2⟩
theorem SAt.ma (h:SAt w0 w b sp L X R) {i:Nat} (hi:i < X.ms.length):∃ mb off,L.ma = some ⟨mb,off,none⟩:=by
 obtain ⟨S,hf,⟨e1,e2,e3⟩,h⟩:=h
 obtain ⟨mb,off,k1,-⟩:=sp_mach h hi
 exact ⟨mb,off,by rw [← e2.1];exact k1⟩
theorem SAt.proc (h:SAt w0 w b sp L X R) {i pb off p g:Nat} (hi:i < X.ps.length) (hpa:L.pa = some ⟨pb,off,none⟩) (hld:L.ld[i]? = some (p,g)) :
  (w.cell? ⟨pb,off + i * 3,none⟩ = some (.pointer (some ⟨p,0,none⟩)) ∧ w.cell? ⟨pb,off + i * 3 + 1,none⟩ = some (.int .i64 ((X.p i).tu:Int)) ∧ w.cell? ⟨pb,off + i * 3 + 2,none⟩ = some (.int .i64 (X.p i).by_)) ∧
  w.frozen? ⟨pb,off + i * 3 + 1,none⟩ = false ∧ w.frozen? ⟨pb,off + i * 3 + 2,none⟩ = false:=by
 obtain ⟨S,hf,⟨e1,e2,e3⟩,h⟩:=h
 obtain ⟨pb',off',p',g',k1,k2,k3⟩:=sp_proc h hf hi
 rw [e1,hpa] at k1;rw [e3,hld] at k2
 cases k1;cases k2
 exact k3
theorem SAt.mach (h:SAt w0 w b sp L X R) {i mb off:Nat} (hi:i < X.ms.length) (hma:L.ma = some ⟨mb,off,none⟩) :
  (w.cell? ⟨mb,off + i * 3,none⟩ = some (.int .i64 (X.m i).P) ∧ w.cell? ⟨mb,off + i * 3 + 1,none⟩ = some (.int .i64 (X.m i).G) ∧ w.cell? ⟨mb,off + i * 3 + 2,none⟩ = some (.int .i64 (X.m i).L)) ∧
  w.frozen? ⟨mb,off + i * 3,none⟩ = false ∧ w.frozen? ⟨mb,off + i * 3 + 1,none⟩ = false ∧ w.frozen? ⟨mb,off + i * 3 + 2,none⟩ = false:=by
 obtain ⟨S,hf,⟨e1,e2,e3⟩,h⟩:=h
 obtain ⟨mb',off',k1,k2⟩:=sp_mach h hi
 rw [e2.1,hma] at k1
 cases k1
 exact k2
theorem SAt.setBy (h:SAt w0 w b sp L X R) {i pb off:Nat} (hi:i < X.ps.length) (hpa:L.pa = some ⟨pb,off,none⟩) (t:Int):SAt w0 (w.setCell ⟨pb,off + i * 3 + 2,none⟩ (.int .i64 t)) b sp L (X.setP i { X.p i with by_:=t }) R:=by
 obtain ⟨S,hf,⟨e1,e2,e3⟩,h⟩:=h
 exact ⟨S,hf.setP _ _,⟨e1,e2,e3⟩,own_by h hf hi (by rw [e1];exact hpa) t⟩
theorem SAt.setTu (h:SAt w0 w b sp L X R) {i pb off:Nat} (hi:i < X.ps.length) (hpa:L.pa = some ⟨pb,off,none⟩) (t:Nat):SAt w0 (w.setCell ⟨pb,off + i * 3 + 1,none⟩ (.int .i64 (t:Int))) b sp L (X.setP i { X.p i with tu:=t }) R:=by
 obtain ⟨S,hf,⟨e1,e2,e3⟩,h⟩:=h
 exact ⟨S,hf.setP _ _,⟨e1,e2,e3⟩,own_tu h hf hi (by rw [e1];exact hpa) t⟩
theorem SAt.setP (h:SAt w0 w b sp L X R) {i mb off:Nat} (hi:i < X.ms.length) (hma:L.ma = some ⟨mb,off,none⟩) (t:Int):SAt w0 (w.setCell ⟨mb,off + i * 3,none⟩ (.int .i64 t)) b sp L (X.setM i { X.m i with P:=t }) R:=by
 obtain ⟨S,hf,⟨e1,e2,e3⟩,h⟩:=h
 exact ⟨S,hf.setM _ _,⟨e1,e2,e3⟩,own_mP h hi (by rw [e2.1];exact hma) t⟩
theorem SAt.setG (h:SAt w0 w b sp L X R) {i mb off:Nat} (hi:i < X.ms.length) (hma:L.ma = some ⟨mb,off,none⟩) (t:Int):SAt w0 (w.setCell ⟨mb,off + i * 3 + 1,none⟩ (.int .i64 t)) b sp L (X.setM i { X.m i with G:=t }) R:=by
 obtain ⟨S,hf,⟨e1,e2,e3⟩,h⟩:=h
 exact ⟨S,hf.setM _ _,⟨e1,e2,e3⟩,own_mG h hi (by rw [e2.1];exact hma) t⟩
theorem SAt.setL (h:SAt w0 w b sp L X R) {i mb off:Nat} (hi:i < X.ms.length) (hma:L.ma = some ⟨mb,off,none⟩) (t:Int):SAt w0 (w.setCell ⟨mb,off + i * 3 + 2,none⟩ (.int .i64 t)) b sp L (X.setM i { X.m i with L:=t }) R:=by
 obtain ⟨S,hf,⟨e1,e2,e3⟩,h⟩:=h
 exact ⟨S,hf.setM _ _,⟨e1,e2,e3⟩,own_mL h hi (by rw [e2.1];exact hma) t⟩
theorem SAt.setSt (h:SAt w0 w b sp L X R) (t:Nat):SAt w0 (w.setCell ⟨b,16,none⟩ (.int .i64 (t:Int))) b sp L { X with st:=t } R:=by
 obtain ⟨S,hf,e,h⟩:=h
 exact ⟨S,⟨hf.w,hf.l⟩,e,h.setAt 0 rfl 16 _⟩
theorem SAt.world (h:SAt w0 w b sp L X R):∃ T Q,Own w0 w (WldA b X.W T :: (Q ++ R)) ∧ ∀ w' W' R',Own w0 w' (WldA b W' T :: (Q ++ R')) → SAt w0 w' b sp L { X with W:=W' } R':=by
 obtain ⟨S,hf,e,h⟩:=h
 refine ⟨stl sp X S,squeue X S,h.toW hf,fun w' W' R' h'=>?_⟩
 obtain ⟨D',h1,h2⟩:=Own.ofW (X:=X) (S:=S) hf.l h'
 exact ⟨_,h1,e,h2⟩
theorem SAt.tail (h:SAt w0 w b sp L X R):∃ S,Own w0 w (R ++ S) ∧ ∀ w' R',Own w0 w' (R' ++ S) → SAt w0 w' b sp L X R':=by
 obtain ⟨S,hf,e,h⟩:=h
 exact ⟨schP b sp X S,h.perm List.perm_append_comm,fun w' R' h'=>⟨S,hf,e,h'.perm List.perm_append_comm⟩⟩
theorem SAt.less {A:Asr} (h:SAt w0 w b sp L X (A :: R)):SAt w0 w b sp L X R:=by
 obtain ⟨S,h1,h2⟩:=h.tail
 exact h2 _ _ (Own.drop h1)
theorem sd_get (h:SAt w0 w b sp L X R) {i p g:Nat} (hi:i < X.ps.length) (hld:L.ld[i]? = some (p,g)) :
  Calls Tryz.prog 56 #[.pointer (some ⟨p,0,none⟩)] w fun r w'=>r = .returned (gotv (mGet (X.p i).q).2) ∧ SAt w0 w' b sp L (X.setP i { X.p i with q:=(mGet (X.p i).q).1 }) R:=by
 obtain ⟨S,hf,⟨e1,e2,e3⟩,h⟩:=h
 exact (own_q1 h hf hi (by rw [e3];exact hld) (fun R' h'=>own_get8 h')).mono (fun r w' hh=>⟨hh.1,S,hf.setP _ _,⟨e1,e2,e3⟩,hh.2⟩)
theorem sd_turn (h:SAt w0 w b sp L X R) {i p g:Nat} (hi:i < X.ps.length) (hld:L.ld[i]? = some (p,g)) (hl:X.gl.length ≤ 1000000) :
  Calls Tryz.prog 65 #[.pointer (some ⟨p,0,none⟩),.pointer (some ⟨b,14,none⟩)] w fun r w'=>r = .returned (.int .i64 ((mTurn (X.p i).N (X.p i).q X.gl).2.2:Int)) ∧ SAt w0 w' b sp L (turnM X i) R:=by
 obtain ⟨S,hf,⟨e1,e2,e3⟩,h⟩:=h
 have e:(mTurn (X.p i).N (X.p i).q X.gl).1 = ⟨none,(mTurn (X.p i).N (X.p i).q X.gl).1.l⟩:=by
  have:=(mTurn_perm (X.p i).N (X.p i).q X.gl).2
  cases h2:(mTurn (X.p i).N (X.p i).q X.gl).1 with
  | mk a c=>rw [h2] at this;simp only at this;subst this;rfl
 refine (own_qg h hf hi (by rw [e3];exact hld) (fun R' h'=>own_turn8 h' hl)).mono (fun r w' hh=>?_)
 obtain ⟨h1,a,c,h2⟩:=hh
 refine ⟨h1,{ S with ga:=a,gc:=c },⟨hf.w,by rw [hf.l];unfold turnM Sd.setP;simp⟩,⟨e1,e2,e3⟩,?_⟩
 rw [← e] at h2
 exact h2
theorem sd_fetch (h:SAt w0 w b sp L X R) {i p g:Nat} (hi:i < X.ps.length) (hld:L.ld[i]? = some (p,g)) (hl:X.gl.length ≤ 1000000) (k:Int) :
  Calls Tryz.prog 78 #[.pointer (some ⟨p,0,none⟩),.pointer (some ⟨b,14,none⟩),.int .i64 k] w fun r w'=>r = .returned (gotv (mFetch (X.p i).N (X.p i).q X.gl k).2.2) ∧ SAt w0 w' b sp L { X.setP i { X.p i with q:=(mFetch (X.p i).N (X.p i).q X.gl k).1 } with gl:=(mFetch (X.p i).N (X.p i).q X.gl k).2.1 } R:=by
 obtain ⟨S,hf,⟨e1,e2,e3⟩,h⟩:=h
 refine (own_qg h hf hi (by rw [e3];exact hld) (fun R' h'=>own_fetch8 h' k hl)).mono (fun r w' hh=>?_)
 obtain ⟨h1,a,c,h2⟩:=hh
 exact ⟨h1,{ S with ga:=a,gc:=c },⟨hf.w,by rw [hf.l];unfold Sd.setP;simp⟩,⟨e1,e2,e3⟩,h2⟩
theorem sd_ready (h:SAt w0 w b sp L X R) {i p g:Nat} (hi:i < X.ps.length) (hld:L.ld[i]? = some (p,g)) (hl:X.gl.length ≤ 1000000) (v:Int) :
  Calls Tryz.prog 59 #[.pointer (some ⟨p,0,none⟩),.int .i64 v,.pointer (some ⟨b,14,none⟩)] w fun r w'=>r = .returned (.int .i64 ((mReady (X.p i).N (X.p i).q v X.gl).2.2:Int)) ∧ SAt w0 w' b sp L { X.setP i { X.p i with q:=(mReady (X.p i).N (X.p i).q v X.gl).1 } with gl:=(mReady (X.p i).N (X.p i).q v X.gl).2.1 } R:=by
 obtain ⟨S,hf,⟨e1,e2,e3⟩,h⟩:=h
 refine (own_qg h hf hi (by rw [e3];exact hld) (fun R' h'=>own_ready8 h' v hl)).mono (fun r w' hh=>?_)
 obtain ⟨h1,a,c,h2⟩:=hh
 exact ⟨h1,{ S with ga:=a,gc:=c },⟨hf.w,by rw [hf.l];unfold Sd.setP;simp⟩,⟨e1,e2,e3⟩,h2⟩
theorem ofG0 {S:Sa} {w':World} {gl:List Int} (hf:S.fits X) (e:S.pa = L.pa ∧ (S.ma = L.ma ∧ S.mc = L.mc) ∧ S.ld = L.ld) (h:Own w0 w' (gloA (gpOf b sp X S) gl :: LstA (locs (qds S.ld X.ps)) :: (sfar X S ++ R))):SAt w0 w' b sp L { X with gl:=gl } R:=by
 obtain ⟨a,c,h2⟩:=Own.ofG (X:=X) (S:=S) (ps:=X.ps) rfl h rfl
 exact ⟨{ S with ga:=a,gc:=c },⟨hf.w,hf.l⟩,e,h2⟩
theorem sd_gput (h:SAt w0 w b sp L X R) (a:Option Addr) (n c:Nat) (m:List Int) (hn:n = m.length) (hm:IntsAt w a m) (hl:X.gl.length + m.length ≤ 1000000000) :
  Calls Tryz.prog 30 #[.pointer (some ⟨b,14,none⟩),.slice a n c] w fun r w'=>r = .returned (.tuple #[]) ∧ SAt w0 w' b sp L { X with gl:=X.gl ++ m } R:=by
 obtain ⟨S,hf,e,h⟩:=h
 exact (own_gput8 h.toG a n c m hn hm hl).mono (fun r w' hh=>⟨hh.1,ofG0 hf e hh.2⟩)
theorem sd_gtake (h:SAt w0 w b sp L X R) (k:Int) (hl:X.gl.length ≤ 1000000) :
  Calls Tryz.prog 77 #[.pointer (some ⟨b,14,none⟩),.int .i64 k] w fun r w'=>∃ a' c',r = .returned (.slice a' (takes k X.gl.length) c') ∧ IntsAt w' a' (X.gl.take (takes k X.gl.length)) ∧ SAt w0 w' b sp L { X with gl:=X.gl.drop (takes k X.gl.length) } R:=by
 obtain ⟨S,hf,e,h⟩:=h
 refine (own_gtake8 h.toG k hl).mono (fun r w' hh=>?_)
 obtain ⟨a',c',h1,h2⟩:=hh
 exact ⟨a',c',h1,(h2.row 0 rfl).ints,ofG0 hf e h2.drop⟩
theorem SAt.loc (h:SAt w0 w b sp L X R) {i p g:Nat} (hi:i < X.ps.length) (hld:L.ld[i]? = some (p,g)):LocAt w p g (X.p i).N (X.p i).q:=by
 obtain ⟨S,hf,⟨e1,e2,e3⟩,h⟩:=h
 obtain ⟨F,⟨-,h1⟩,-⟩:=(h.pick 2 rfl).lstFact (locs_at (qds_at (by rw [e3];exact hld) (X.p_at hi)))
 exact h1
theorem sd_next (h:SAt w0 w b sp L X R) {i p g:Nat} (hi:i < X.ps.length) (hld:L.ld[i]? = some (p,g)) :
  Calls Tryz.prog 55 #[.pointer (some ⟨p,0,none⟩)] w fun r w'=>r = .returned (.int .i64 (X.p i).q.num) ∧ w' = w:=lnext_any w p g _ _ (h.loc hi hld)
theorem sd_steal (h:SAt w0 w b sp L X R) {i v p g p' g':Nat} (hi:i < X.ps.length) (hv:v < X.ps.length) (hne:i ≠ v) (hld:L.ld[i]? = some (p,g)) (hld':L.ld[v]? = some (p',g')) :
  Calls Tryz.prog 67 #[.pointer (some ⟨p,0,none⟩),.pointer (some ⟨p',0,none⟩)] w fun r w'=>r = .returned (gotv (mSteal (X.p i).N (X.p i).q (X.p v).q).2.2) ∧
   SAt w0 w' b sp L ((X.setP i { X.p i with q:=(mSteal (X.p i).N (X.p i).q (X.p v).q).1 }).setP v { X.p v with q:=(mSteal (X.p i).N (X.p i).q (X.p v).q).2.1 }) R:=by
 obtain ⟨S,hf,⟨e1,e2,e3⟩,h⟩:=h
 rw [← e3] at hld hld'
 have k0:=(h.pick 2 rfl).unl
 have hL:(locs (qds S.ld X.ps))[i]? = some (locA (qd1 (p,g) (X.p i))):=locs_at (qds_at hld (X.p_at hi))
 have hL':(locs (qds S.ld X.ps))[v]? = some (locA (qd1 (p',g') (X.p v))):=locs_at (qds_at hld' (X.p_at hv))
 obtain ⟨R',r1,r2⟩:=pick2_perm _ i v _ _ hL hL' hne
 have k1:Own w0 w (locA (qd1 (p,g) (X.p i)) :: locA (qd1 (p',g') (X.p v)) :: (R' ++ (schP b sp X S ++ R).eraseIdx 2)):=k0.perm (r1.append_right _)
 refine (own_steal8 k1).mono (fun r w' hh=>⟨hh.1,?_⟩)
 have k2:Own w0 w' ((locs (qds S.ld (X.ps.set i { X.p i with q:=(mSteal (X.p i).N (X.p i).q (X.p v).q).1 } |>.set v { X.p v with q:=(mSteal (X.p i).N (X.p i).q (X.p v).q).2.1 }))) ++ (schP b sp X S ++ R).eraseIdx 2):=by
  rw [← qds_set v hld',← qds_set i hld,← locs_set,← locs_set]
  exact hh.2.perm ((r2 _ _).append_right _)
 have k3:=(Own.lst k2).back (As:=schP b sp X S ++ R) (i:=2) (by simp [schP])
 have ev:(X.ps.set i { X.p i with q:=(mSteal (X.p i).N (X.p i).q (X.p v).q).1 })[v]? = some (X.p v):=by rw [List.getElem?_set_ne hne];exact X.p_at hv
 have e4:pcs S.ld ((X.ps.set i { X.p i with q:=(mSteal (X.p i).N (X.p i).q (X.p v).q).1 }).set v { X.p v with q:=(mSteal (X.p i).N (X.p i).q (X.p v).q).2.1 }) = pcs S.ld X.ps:=(pcs_q hld' ev _).trans (pcs_q hld (X.p_at hi) _)
 refine ⟨S,(hf.setP _ _).setP _ _,⟨e1,e2,e3⟩,?_⟩
 have hlen:((X.ps.set i { X.p i with q:=(mSteal (X.p i).N (X.p i).q (X.p v).q).1 }).set v { X.p v with q:=(mSteal (X.p i).N (X.p i).q (X.p v).q).2.1 }).length = X.ps.length:=by simp
 unfold schP stl Sd.setP
 simp only
 rw [hlen,e4]
 exact k3
end
end Go.Proofs.YtphfaekpckbepaaGreat
open Go Go.RowKit
set_option linter.unusedVariables false
namespace Go.Proofs.YtphfaekpckbepaaGreat
theorem near_glo {X:Sd} {i:Nat} (h:(X.p i).tu % 7 = 6) (hg:X.gl ≠ []):nearM X i = ({ X with gl:=X.gl.tail },X.gl.head?):=by unfold nearM;rw [if_pos ⟨h,hg⟩]
theorem near_far {X:Sd} {i:Nat} (h:¬ ((X.p i).tu % 7 = 6 ∧ X.gl ≠ [])):nearM X i = match (mGet (X.p i).q).2 with
  | some g=>(X.setP i { X.p i with q:=(mGet (X.p i).q).1 },some g)
  | none=>({ X.setP i { X.p i with q:=(mFetch (X.p i).N (X.p i).q X.gl 0).1 } with gl:=(mFetch (X.p i).N (X.p i).q X.gl 0).2.1 },(mFetch (X.p i).N (X.p i).q X.gl 0).2.2):=by unfold nearM;rw [if_neg h];rfl
theorem mGet_none {q:LQ} (h:(mGet q).2 = none):(mGet q).1 = q:=by
 unfold mGet at *
 split
 ·rename_i e;rw [e] at h;cases h
 ·rename_i e
  rw [e] at h
  simp only at h
  split
  ·rfl
  ·rename_i e2;rw [e2] at h;cases h
theorem setP_self {X:Sd} {i:Nat} (hi:i < X.ps.length) {P:Pm} (e:P = X.p i):X.setP i P = X:=by
 unfold Sd.setP;rw [e,set_self _ _ _ (X.p_at hi)]
def nearB (X:Sd) (i:Nat):Sd × Option Int:=match (mGet (X.p i).q).2 with
  | some g=>(X.setP i { X.p i with q:=(mGet (X.p i).q).1 },some g)
  | none=>({ X.setP i { X.p i with q:=(mFetch (X.p i).N (X.p i).q X.gl 0).1 } with gl:=(mFetch (X.p i).N (X.p i).q X.gl 0).2.1 },(mFetch (X.p i).N (X.p i).q X.gl 0).2.2)
theorem near_any {w0 w:World} {b sp:Nat} {L:Sl} {X:Sd} {R:List Asr} (h:SAt w0 w b sp L X R) {i pb off:Nat} (hi:i < X.ps.length) (hpa:L.pa = some ⟨pb,off,none⟩) (hl:X.gl.length ≤ 1000000) (htu:(X.p i).tu ≤ 1000000) :
  Calls Tryz.prog 66 #[.pointer (some ⟨b,0,none⟩),.pointer (some ⟨pb,off + i * 3,none⟩)] w fun r w'=>r = .returned (gotv (nearM X i).2) ∧ SAt w0 w' b sp L (nearM X i).1 R:=by
 obtain ⟨_,_,p,g,-,hld⟩:=h.pa hi
 have HLD:=Lib.hid hld
 have HPA:=Lib.hid hpa
 have HI:=Lib.hid hi
 have HL:=Lib.hid hl
 obtain ⟨tu,htu2⟩:∃ tu,tu = (X.p i).tu:=⟨_,rfl⟩
 have x1:=(h.proc hi hpa hld).1.2.1
 rw [← htu2] at x1 htu
 have HTU:=Lib.hid htu2
 have hmod:IntKind.i64.wrap (Int.tmod (tu:Int) 7) = ((tu % 7:Nat):Int):=by rw [Int.tmod_eq_emod_of_nonneg (by omega),IntKind.wrap_i64];omega
 have HB:Hid (∀ (wx:World),SAt w0 wx b sp L X R → Calls Tryz.prog 56 #[.pointer (some ⟨p,0,none⟩)] wx fun r w'=>r = .returned (gotv (mGet (X.p i).q).2) ∧
   ((∃ v,(mGet (X.p i).q).2 = some v ∧ SAt w0 w' b sp L (nearB X i).1 R ∧ (nearB X i).2 = some v) ∨ ((mGet (X.p i).q).2 = none ∧ SAt w0 w' b sp L X R))):=Lib.hid (fun wx hx=>by
  refine (sd_get hx hi hld).mono (fun r w' hh=>⟨hh.1,?_⟩)
  have h2:=hh.2
  cases hg:(mGet (X.p i).q).2 with
  | some v =>
   refine .inl ⟨v,rfl,?_,?_⟩
   ·unfold nearB;rw [hg];exact h2
   ·unfold nearB;rw [hg]
  | none =>
   refine .inr ⟨rfl,?_⟩
   rw [mGet_none hg,setP_self hi rfl] at h2
   exact h2)
 have HFE:Hid (∀ (wx:World),(mGet (X.p i).q).2 = none → SAt w0 wx b sp L X R → Calls Tryz.prog 78 #[.pointer (some ⟨p,0,none⟩),.pointer (some ⟨b,14,none⟩),.int .i64 0] wx fun r w'=>r = .returned (gotv (nearB X i).2) ∧ SAt w0 w' b sp L (nearB X i).1 R):=Lib.hid (fun wx hg hx=>by
  refine (sd_fetch hx hi hld hl 0).mono (fun r w' hh=>?_)
  unfold nearB;rw [hg]
  exact hh)
 have HX:Hid (∀ wx,SAt w0 wx b sp L X R → wx.cell? ⟨pb,off + i * 3,none⟩ = some (.pointer (some ⟨p,0,none⟩))):=Lib.hid (fun wx hx=>(hx.proc hi hpa hld).1.1)
 have H:=Lib.hid h
 generalize hnn:nearM X i = nn at *
 have HNN:=Lib.hid hnn
 generalize hnb:nearB X i = nb at *
 have HNB:=Lib.hid hnb
 have HGT:Hid (∀ k,Calls Tryz.prog 77 #[.pointer (some ⟨b,14,none⟩),.int .i64 k] w fun r w'=>∃ a' c',r = .returned (.slice a' (takes k X.gl.length) c') ∧ IntsAt w' a' (X.gl.take (takes k X.gl.length)) ∧ SAt w0 w' b sp L { X with gl:=X.gl.drop (takes k X.gl.length) } R):=Lib.hid (fun k=>sd_gtake h k hl)
 clear h hld hpa hi hl htu2 hnn hnb
 by_cases hs:tu % 7 = 6
 ·have hs2:((tu:Int) % 7 == 6) = true:=by rw [beq_iff_eq];omega
  clear hmod
  cases hgl:X.gl with
  | nil =>
   have HG0:Hid (∀ k,Calls Tryz.prog 77 #[.pointer (some ⟨b,14,none⟩),.int .i64 k] w fun r w'=>∃ a' c',r = .returned (.slice a' 0 c') ∧ SAt w0 w' b sp L X R):=Lib.hid (fun k=>(HGT.out k).mono (fun r w' hh=>by
    obtain ⟨a',c',h1,h2,h3⟩:=hh
    have e0:takes k X.gl.length = 0:=by rw [hgl];unfold takes;simp
    rw [e0] at h1 h3
    refine ⟨a',c',h1,?_⟩
    have e1:({ X with gl:=X.gl.drop 0 }:Sd) = X:=by simp
    rw [e1] at h3;exact h3))
   have HE:Hid (nn = nb):=Lib.hid (by rw [← HNN.out,← HNB.out,near_far (fun hc=>hc.2 hgl)];rfl)
   clear hgl HGT hs
   go_enter Tryz.func66,Tryz.ntmps66
   go_wp2_with fail
   refine (HG0.out _).mono ?_
   rintro r w1 ⟨a',c',rfl,h1⟩
   have H1:=Lib.hid h1
   have x0:=HX.out _ h1
   clear h1 x1
   go_wp2_with fail
   refine (HB.out _ H1.out).mono ?_
   rintro r w2 ⟨rfl,hh⟩
   rcases hh with ⟨v,hv,h2,e2⟩ | ⟨hv,h2⟩
   ·rw [hv]
    have HQ:Hid (SAt w0 w2 b sp L nn.1 R ∧ nn.2 = some v):=Lib.hid (by rw [HE.out];exact ⟨h2,e2⟩)
    clear h2 hv e2
    unfold gotv
    simp only [Option.getD_some,Option.isSome_some]
    go_wp2
    go_ret2
    exact ⟨by rw [HQ.out.2];rfl,HQ.out.1⟩
   ·rw [hv]
    have HFX:=Lib.hid (fun wx (hx:SAt w0 wx b sp L X R)=>HFE.out wx hv hx)
    have H2:=Lib.hid h2
    have x2:=HX.out _ h2
    clear hv h2
    unfold gotv
    simp only [Option.getD_none,Option.isSome_none]
    go_upto_region 8 with fail
    refine wp_region_lexK (fun wx=>∃ nq,wx = World.drewN (w2) nq) 7 5 (Array.replicate 12 false) #[true,true,true,true,true,true,true,false,false,false,false,false] (by kernel_rfl) (by kernel_rfl) ?_
    refine wpAnyK_seg 0 7 _ #[true,true,true,true,true,true,true,false,false,false,false,false] 0 (by kernel_rfl) noPanic_put (drew_q w2) (by kernel_rfl) ?_
    simp only [List.take_succ_cons,List.take_zero,List.drop_zero]
    repeat ((first | refine wpSegH_no (by rfl) ?_ | (refine wpSegH_yes (by rfl) ?_;apply Exists.intro;apply And.intro;(· (rintro wx ⟨nq,rfl⟩;go_simp;first | done | with_reducible rfl))));simp only [Act.put,List.setIfInBounds_toArray,List.set_cons_zero,List.set_cons_succ])
    refine wpSegH_nil ?_
    refine wpAnyK_next ?_
    refine wpAnyK_phase (fun _=>True) 5 0 #[true,true,true,true,true,true,true,true,true,true,true,true] ?_
    refine wpAnyK_one 7 _ #[true,true,true,true,true,true,true,true,false,false,false,false] 4 (by kernel_rfl) (fun K hK=>?_)
    have HKK:=Lib.hid hK
    clear hK
    simp only [List.drop_succ_cons,List.drop_zero]
    refine headH_mk (by rfl) ?_
    go_simp
    refine (HFX.out _ (H2.out.step (below_dN w2 _))).mono ?_
    rintro r w3 ⟨rfl,h3⟩
    rw [← HE.out] at h3 ⊢
    have H3:=Lib.hid h3
    clear h3 x2 HFX H2
    unfold gotv
    refine HKK.out _ _ (trivial) ?_
    clear HKK K
    refine wpAnyK_seg 8 4 _ #[true,true,true,true,true,true,true,true,true,true,true,true] 0 (by kernel_rfl) noPanic_put (trivial) (by kernel_rfl) ?_
    simp only [List.take_succ_cons,List.take_zero,List.drop_succ_cons,List.drop_zero]
    repeat ((first | refine wpSegH_no (by rfl) ?_ | (refine wpSegH_yes (by rfl) ?_;apply Exists.intro;apply And.intro;(· (intro wx hS;(try dsimp only at hS);go_simp;first | done | with_reducible rfl))));simp only [Act.put,List.setIfInBounds_toArray,List.set_cons_zero,List.set_cons_succ])
    refine wpSegH_nil ?_
    refine wpAnyK_next ?_
    refine wpAnyK_done (by kernel_rfl) (NoPanic.normal ?_)
    go_wp2
    go_ret2
    exact ⟨rfl,H3.out⟩
  | cons y t =>
   have HG1:Hid (∀ k,k = 1 → Calls Tryz.prog 77 #[.pointer (some ⟨b,14,none⟩),.int .i64 k] w fun r w'=>∃ b' off' c',r = .returned (.slice (some ⟨b',off',none⟩) 1 c') ∧ w'.cell? ⟨b',off',none⟩ = some (.int .i64 y) ∧ SAt w0 w' b sp L nn.1 R ∧ nn.2 = some y):=Lib.hid (fun k hk=>(HGT.out k).mono (fun r w' hh=>by
    obtain ⟨a',c',h1,h2,h3⟩:=hh
    have e0:takes k X.gl.length = 1:=by rw [hgl,hk];unfold takes;simp only [List.length_cons];omega
    rw [e0] at h1 h2 h3
    rw [hgl] at h2
    obtain ⟨b',off',e1,e2⟩:=h2 0 (by simp)
    rw [e1] at h1
    refine ⟨b',off',c',h1,by simpa using e2,?_⟩
    rw [← HNN.out,near_glo (by rw [← HTU.out];exact hs) (by rw [hgl];simp)]
    rw [List.drop_one] at h3
    exact ⟨h3,by rw [hgl];rfl⟩))
   clear hgl HGT hs
   go_enter Tryz.func66,Tryz.ntmps66
   go_wp2_with fail
   refine (HG1.out _ rfl).mono ?_
   rintro r w1 ⟨b',off',c',rfl,e2,h1,e3⟩
   have H1:=Lib.hid h1
   have H3:=Lib.hid e3
   clear h1 x1 e3 HG1
   go_wp2
   go_ret2
   exact ⟨by rw [H3.out];rfl,H1.out⟩
 ·have hs2:((tu:Int) % 7 == 6) = false:=by rw [beq_eq_false_iff_ne];omega
  have HE:Hid (nn = nb):=Lib.hid (by rw [← HNN.out,← HNB.out,near_far (fun hc=>hs (by rw [HTU.out];exact hc.1))];rfl)
  have H1:=H
  have x0:=HX.out _ H.out
  clear hmod HGT hs
  ·go_enter Tryz.func66,Tryz.ntmps66
   go_wp2_with fail
   refine (HB.out _ H1.out).mono ?_
   rintro r w2 ⟨rfl,hh⟩
   rcases hh with ⟨v,hv,h2,e2⟩ | ⟨hv,h2⟩
   ·rw [hv]
    have HQ:Hid (SAt w0 w2 b sp L nn.1 R ∧ nn.2 = some v):=Lib.hid (by rw [HE.out];exact ⟨h2,e2⟩)
    clear h2 hv e2
    unfold gotv
    simp only [Option.getD_some,Option.isSome_some]
    go_wp2
    go_ret2
    exact ⟨by rw [HQ.out.2];rfl,HQ.out.1⟩
   ·rw [hv]
    have HFX:=Lib.hid (fun wx (hx:SAt w0 wx b sp L X R)=>HFE.out wx hv hx)
    have H2:=Lib.hid h2
    have x2:=HX.out _ h2
    clear hv h2
    unfold gotv
    simp only [Option.getD_none,Option.isSome_none]
    go_upto_region 8 with fail
    refine wp_region_lexK (fun wx=>∃ nq,wx = World.drewN (w2) nq) 7 5 (Array.replicate 12 false) #[true,true,true,true,true,true,true,false,false,false,false,false] (by kernel_rfl) (by kernel_rfl) ?_
    refine wpAnyK_seg 0 7 _ #[true,true,true,true,true,true,true,false,false,false,false,false] 0 (by kernel_rfl) noPanic_put (drew_q w2) (by kernel_rfl) ?_
    simp only [List.take_succ_cons,List.take_zero,List.drop_zero]
    repeat ((first | refine wpSegH_no (by rfl) ?_ | (refine wpSegH_yes (by rfl) ?_;apply Exists.intro;apply And.intro;(· (rintro wx ⟨nq,rfl⟩;go_simp;first | done | with_reducible rfl))));simp only [Act.put,List.setIfInBounds_toArray,List.set_cons_zero,List.set_cons_succ])
    refine wpSegH_nil ?_
    refine wpAnyK_next ?_
    refine wpAnyK_phase (fun _=>True) 5 0 #[true,true,true,true,true,true,true,true,true,true,true,true] ?_
    refine wpAnyK_one 7 _ #[true,true,true,true,true,true,true,true,false,false,false,false] 4 (by kernel_rfl) (fun K hK=>?_)
    have HKK:=Lib.hid hK
    clear hK
    simp only [List.drop_succ_cons,List.drop_zero]
    refine headH_mk (by rfl) ?_
    go_simp
    refine (HFX.out _ (H2.out.step (below_dN w2 _))).mono ?_
    rintro r w3 ⟨rfl,h3⟩
    rw [← HE.out] at h3 ⊢
    have H3:=Lib.hid h3
    clear h3 x2 HFX H2
    unfold gotv
    refine HKK.out _ _ (trivial) ?_
    clear HKK K
    refine wpAnyK_seg 8 4 _ #[true,true,true,true,true,true,true,true,true,true,true,true] 0 (by kernel_rfl) noPanic_put (trivial) (by kernel_rfl) ?_
    simp only [List.take_succ_cons,List.take_zero,List.drop_succ_cons,List.drop_zero]
    repeat ((first | refine wpSegH_no (by rfl) ?_ | (refine wpSegH_yes (by rfl) ?_;apply Exists.intro;apply And.intro;(· (intro wx hS;(try dsimp only at hS);go_simp;first | done | with_reducible rfl))));simp only [Act.put,List.setIfInBounds_toArray,List.set_cons_zero,List.set_cons_succ])
    refine wpSegH_nil ?_
    refine wpAnyK_next ?_
    refine wpAnyK_done (by kernel_rfl) (NoPanic.normal ?_)
    go_wp2
    go_ret2
    exact ⟨rfl,H3.out⟩
theorem append_none {P:Program} {w:World} {s by_:Nat} (t ty e:TypeId) (i:TypeInfo) (z:Value) (ht:P.underlying t = some (.slice e)) (hi:P.info? e = some i) (hz:i.zero = some z) (hsize:i.size = s) (hby:i.bytes = by_) (hzs:z.cells.size = s) (hs0:0 < s)
  {g:Nat} (hg:g < w.heap.size) {b:Option Addr} {c m:Nat} {ds:List Value} (hb:CellsAt w b ds) (hd:ds.length = m * s) (hone:∀ u ∈ ds,u.oneCell' = true) (hm:m ≤ maxLen) (h47:m * by_ ≤ 140737488355328) (ha:(w.cell? ⟨g,0,none⟩) = none) :
  ∃ a' cap' w',(Builtin.append_ #[t,t] ty #[.slice (some ⟨g,0,none⟩) 0 0,.slice b m c]).run P w = .ok (.slice a' m cap') w' ∧ RowG s w' a' cap' m ds ∧ Chg [g] w w' ∧ ∀ x ∈ blk a',x = g ∨ w.heap.size ≤ x:=by
 by_cases hm0:m = 0
 ·subst hm0
  have hdn:ds = []:=List.length_eq_zero_iff.1 (by rw [hd];simp)
  subst hdn
  refine ⟨some ⟨g,0,none⟩,0,w,?_,RowG.zero hg,Chg.refl _ _,fun x hx=>.inl (by simpa [blk] using hx)⟩
  cases b with
  | none=>simp [Builtin.append_,run_underlying ht,sizeOf,typeInfo,hi,Builtin.lenOf,Builtin.firstCells,storeCells]
  | some ad=>simp [Builtin.append_,run_underlying ht,sizeOf,typeInfo,hi,Builtin.lenOf,Builtin.firstCells,storeCells,loadCells,loadCellsFrom]
 ·cases b with
  | none =>
   exfalso
   have:0 < ds.length:=by rw [hd];exact Nat.mul_pos (by omega) hs0
   obtain ⟨_,_,h1,_⟩:=hb 0 _ (List.getElem?_eq_getElem this)
   cases h1
  | some ad =>
   have hnews:∀ j u,ds[j]? = some u → w.cell? (ad.add j) = some u:=fun j u hj=>by
    obtain ⟨b,off,h1,h2⟩:=hb j u hj
    cases h1
    rw [Addr.add_lit,h2]
   obtain ⟨v',w',hr,r1,r2⟩:=run_append_arg_grows (P:=P) w t ty e i z s by_ ht hi hz hsize hby hzs hs0 ⟨g,0,none⟩ 0 0 [] (by simp) (fun j u hj=>by simp at hj) ad m c ds hd hnews (by omega) (by unfold maxLen at hm;unfold maxLen;omega) (by simpa using h47)
   simp only [List.nil_append,Nat.zero_add] at r1
   obtain ⟨a',cap',rfl,hrow,hbase⟩:=RowG.of_own r1
   exact ⟨a',cap',w',hr,by simpa using hrow,(grownBy_chg r2).mono (by simp),fun x hx=>.inr (hbase x hx)⟩
theorem wpList_append_none {P:Program} {w:World} {ops:Array Oper} {rest:List Oper} {o:Oper} {ac:Act} {Q:Exit → Act → World → Prop} {s by_:Nat} (hgd:o.guard = none) (sl x:Operand) (t:TypeId)
  (ho:o.op = .call { callee:=.builtin .append,args:=#[sl,x],argTypes:=#[t,t] }) (e:TypeId) (i:TypeInfo) (z:Value) (ht:P.underlying t = some (.slice e)) (hi:P.info? e = some i) (hz:i.zero = some z) (hsize:i.size = s) (hby:i.bytes = by_) (hzs:z.cells.size = s) (hs0:0 < s)
  {g:Nat} {b:Option Addr} {c m:Nat} {ds:List Value} (hs:ac.eval sl = .slice (some ⟨g,0,none⟩) 0 0) (hx:ac.eval x = .slice b m c) (hg:g < w.heap.size) (hb:CellsAt w b ds) (hd:ds.length = m * s) (hone:∀ u ∈ ds,u.oneCell' = true) (hm:m ≤ maxLen) (h47:m * by_ ≤ 140737488355328) (ha:(w.cell? ⟨g,0,none⟩) = none)
  (h:∀ a' cap' w',RowG s w' a' cap' m ds → Chg [g] w w' → (∀ x ∈ blk a',x = g ∨ w.heap.size ≤ x) → wpList P ops Q rest (ac.put o.dst (.slice a' m cap')) w'):wpList P ops Q (o :: rest) ac w:=by
 refine wpList_plain hgd fun K hK=>?_
 obtain ⟨a',cap',w',hr,h2,h3,h4⟩:=append_none (P:=P) (w:=w) t o.type e i z ht hi hz hsize hby hzs hs0 hg hb (c:=c) hd hone hm h47 ha
 unfold Oper.wp execOp
 simp only [ho,resolve,invoke,builtin,Sem.run_bind,Sem.run_pure,Result.andThen_ok,List.map_toArray,List.map_cons,List.map_nil,hs,hx,hr]
 exact hK _ _ (h a' cap' w' h2 h3 h4)









def putF:Nat → Nat → List UInt8
 | 0,n=>[UInt8.ofNat n]
 | k + 1,n=>if n < 128 then [UInt8.ofNat n] else UInt8.ofNat (n % 128 + 128) :: putF k (n / 128)
def putL (n:Nat):List UInt8:=putF 10 n
def lim:Nat → Nat
 | 0=>1
 | k + 1=>128 * lim k

theorem putF_more (k n:Nat) (h:n < lim (k + 1)):putF (k + 1) n = putF k n:=by
 induction k generalizing n with
 | zero=>simp [lim] at h;simp [putF,h]
 | succ k ih =>
  rw [putF];conv=>rhs;rw [putF]
  split
  ·rfl
  ·have:n / 128 < lim (k + 1):=by rw [lim] at h;omega
   rw [ih _ this]
theorem putL_step (n:Nat) (h0:128 ≤ n) (h:n < lim 10):putL n = UInt8.ofNat (n % 128 + 128) :: putL (n / 128):=by
 show putF 10 n = _ :: putF 10 (n / 128)
 have:n / 128 < lim 10:=by omega
 rw [putF_more 9 (n / 128) this]
 show (if n < 128 then _ else _) = _
 rw [if_neg (by omega)]
theorem putL_last (n:Nat) (h0:n < 128):putL n = [UInt8.ofNat n]:=by
 show putF 10 n = _
 simp [putF,h0]
theorem lim_pred (k n:Nat) (h:n < lim k) (h0:128 ≤ n):∃ j,k = j + 2 ∧ n / 128 < lim (j + 1):=by
 match k,h with
 | 0,h=>simp [lim] at h;omega
 | 1,h=>simp [lim] at h;omega
 | j + 2,h=>exact ⟨j,rfl,by rw [lim] at h;omega⟩
theorem lim10 (n:Nat) (h:n < 18446744073709551616):n < lim 10:=by simp [lim];omega

theorem u8_or128' (n:Nat):bits BinOp.or IntKind.u8 ((n:Int) % 256) 128 = ((UInt8.ofNat (n % 128 + 128)).toNat:Int):=by
 have h:=u8_or_nat (n % 256) 128 (by omega) (by omega)
 have e:((n % 256:Nat):Int) = (n:Int) % 256:=by omega
 have e2:((128:Nat):Int) = 128:=rfl
 rw [e,e2] at h
 rw [h]
 have e3:n % 256 ||| 128 = n % 128 + 128:=by
  have hd:∀ m,m < 256 → m ||| 128 = m % 128 + 128:=by decide +kernel
  rw [hd _ (by omega)];omega
 rw [e3]
 have:(UInt8.ofNat (n % 128 + 128)).toNat = n % 128 + 128:=by simp;omega
 rw [this]

theorem putF_len:∀ (k m:Nat),(putF k m).length ≤ k + 1
 | 0,m=>by simp [putF]
 | k + 1,m=>by rw [putF];split <;> simp;exact putF_len k _
theorem putL_len (n:Nat):(putL n).length ≤ 11:=putF_len 10 n
end Go.Proofs.YtphfaekpckbepaaGreat

open Go Go.RowKit
set_option linter.unusedVariables false
namespace Go.Proofs.YtphfaekpckbepaaGreat
def room:Nat → Nat
 | 0=>0
 | f + 1=>if f = 0 then 2 else 128 * room f



def IsRow (k:IntKind) (w:World) (a:Option Addr) (len cap:Nat) (zs:List Int):Prop :=
 (a = none ∧ len = 0 ∧ cap = 0 ∧ zs = []) ∨
 ∃ x,a = some x ∧ len ≤ cap ∧ cap ≤ maxLen ∧ zs.length = cap ∧ (∀ i,i < zs.length → w.cell? (x.add i) = some (.int k (zs.getD i 0))) ∧ ∀ n ∈ zs,(Lit.int k n).wf = true
def Cells (k:IntKind) (w:World) (a:Option Addr) (zs:List Int):Prop :=
 ∀ i (h:i < zs.length),∃ b off,a = some ⟨b,off,none⟩ ∧ w.cell? ⟨b,off + i,none⟩ = some (.int k zs[i]) ∧ (Lit.int k zs[i]).wf = true
theorem IsRow.cells {k:IntKind} {w:World} {a:Option Addr} {len cap:Nat} {zs:List Int} (h:IsRow k w a len cap zs) :
  len ≤ cap ∧ cap ≤ maxLen ∧ (zs.take len).length = len ∧ Cells k w a (zs.take len):=by
 rcases h with ⟨rfl,rfl,rfl,rfl⟩ | ⟨x,rfl,hlc,hcm,hzl,hcell,hwf⟩
 ·exact ⟨Nat.le_refl _,Nat.zero_le _,rfl,fun i h=>by simp at h⟩
 ·refine ⟨hlc,hcm,by simp;omega,fun i h=>?_⟩
  simp at h
  obtain ⟨b,off,rfl,hc⟩:=ints_at hcell (by omega)
  refine ⟨b,off,rfl,?_,?_⟩
  ·rw [hc i (by omega),List.getElem_take,List.getD_eq_getElem?_getD,List.getElem?_eq_getElem (by omega)];rfl
  ·rw [List.getElem_take];exact hwf _ (List.getElem_mem _)
end Go.Proofs.YtphfaekpckbepaaGreat

open Go Go.RowKit
set_option linter.unusedVariables false
namespace Go.Proofs.YtphfaekpckbepaaGreat
abbrev Rec:=Int × Nat
def Rec.ok (r:Rec):Prop:=1 ≤ r.1 ∧ r.1 ≤ 4 ∧ r.2 < 4611686018427387904
instance (r:Rec):Decidable (Rec.ok r):=by unfold Rec.ok;infer_instance
def Rec.num (r:Rec):Nat:=4 * r.2 + (r.1 - 1).toNat
theorem Rec.num_lt {r:Rec} (h:Rec.ok r):r.num < 18446744073709551616:=by unfold Rec.num;obtain ⟨h1,h2,h3⟩:=h;omega


def recCells (l:List Rec):List Value:=l.flatMap fun r=>[Value.int .i64 r.1,Value.int .u64 (r.2:Int)]



end Go.Proofs.YtphfaekpckbepaaGreat

open Go Go.RowKit
set_option linter.unusedVariables false
namespace Go.Proofs.YtphfaekpckbepaaGreat
def numc (l:List Nat):List Value:=l.map fun (n:Nat)=>Value.int .u64 (n:Int)
theorem numc_len (l:List Nat):(numc l).length = l.length:=by simp [numc]
theorem numc_one (l:List Nat):∀ u ∈ numc l,u.oneCell' = true:=by
 intro u hu;unfold numc at hu;rw [List.mem_map] at hu;obtain ⟨n,_,rfl⟩:=hu;rfl
theorem recc_one (l:List Rec):∀ u ∈ recCells l,u.oneCell' = true:=by
 intro u hu;unfold recCells at hu;rw [List.mem_flatMap] at hu;obtain ⟨r,_,h⟩:=hu;simp at h;rcases h with rfl | rfl <;> rfl
theorem info_u6:(Tryz.prog.info? 52).map (fun i=>(i.zero,i.size,i.bytes)) = some (some (.int .u64 0),1,8):=by kernel_rfl
theorem info_rcd:(Tryz.prog.info? 54).map (fun i=>(i.zero,i.size,i.bytes)) = some (some (.agg #[.int .i64 0,.int .u64 0]),2,16):=by kernel_rfl
theorem cloneu_any (w:World) (a:Option Addr) (n c:Nat) (cs:List Value) (h:CellsAt w a cs) (hn:cs.length = n) (hone:∀ u ∈ cs,u.oneCell' = true) (h0:a = none → n = 0 ∧ c = 0) (hl:n * 8 ≤ 140737488355328) :
  Calls Tryz.prog 31 #[.slice a n c] w fun r w'=>∃ a' c',r = .returned (.slice a' n c') ∧ RowG 1 w' a' c' n cs ∧ (∀ x ∈ blk a',w.heap.size ≤ x) ∧ Below w.heap.size w w':=by
 cases a with
 | none =>
  obtain ⟨rfl,rfl⟩:=h0 rfl
  obtain rfl:=List.length_eq_zero_iff.1 hn
  clear h hone
  have he:∀ w:World,(binOp .eql 25 (.slice none 0 0) (.slice none 0 0)).run Tryz.prog w = .ok (.bool true) w:=fun _=>rfl
  go_enter Tryz.func31,Tryz.ntmps31
  go_wp2
  go_ret
  exact ⟨none,0,rfl,RowG.nil _ _,fun x hx=>by simp [blk] at hx,Below.refl _ _⟩
 | some ad =>
  obtain ⟨i0,hi0,hz0,hz1,hz2⟩:=info_parts info_u6
  have Hi:=Lib.hid hi0;clear hi0
  have Hz0:=Lib.hid hz0;clear hz0
  have Hz1:=Lib.hid hz1;clear hz1
  have Hz2:=Lib.hid hz2;clear hz2
  have H:=Lib.hid h
  have HO:=Lib.hid hone
  have HN:=Lib.hid hn
  clear h hone h0 hn
  have he:∀ w:World,(binOp .eql 25 (.slice (some ad) n c) (.slice none 0 0)).run Tryz.prog w = .ok (.bool false) w:=fun _=>rfl
  go_enter Tryz.func31,Tryz.ntmps31
  go_wp2_with (at_builtin;refine wpList_append_none (m:=n) (ds:=cs) rfl _ _ 25 rfl 52 i0 _ Tryz.underlying25 Hi.out Hz0.out Hz1.out Hz2.out rfl (by omega) rfl rfl (by simp) (H.out.below (below_alloc1 _ _)) (by rw [HN.out];simp) HO.out (by unfold maxLen;omega) (by omega) (by rw [World.cell?_alloc_mark];rfl) ?_)
  intro a1 c1 w1 k1 ch1 f1
  have hf:RowG 1 w1 a1 c1 n cs ∧ (∀ x ∈ blk a1,w.heap.size ≤ x) ∧ Below w.heap.size w w1:=by
   refine ⟨by simpa using k1,fun x hx=>?_,Chg.below (below_alloc1 _ _) ch1 (fun x hx=>by simp at hx;omega)⟩
   rcases f1 x hx with h | h
   ·omega
   ·first | omega | (simp at h;omega)
  have HF:=Lib.hid hf
  clear hf k1 ch1 f1
  go_wp2
  go_ret
  exact ⟨a1,c1,by simp,HF.out⟩
def strayV (i:Nat) (kind:Int) (n:Nat) (r:Rec):Value:=.agg #[.int .i64 (i:Int),.int .i64 kind,.int .i64 (n:Int),.int .i64 r.1,.int .u64 (r.2:Int)]
def strayed (i:Nat) (kind:Int) (n:Nat) (r:Rec):Ending:=.panicked [{ v:=.iface 60 (strayV i kind n r),recovered:=false }]
theorem num_at {w:World} {a:Option Addr} {l:List Nat} (h:CellsAt w a (numc l)) (i:Nat) (hi:i < l.length):∃ b off,a = some ⟨b,off,none⟩ ∧ w.cell? ⟨b,off + i,none⟩ = some (.int .u64 (l[i]:Int)) :=
 h i _ (by simp [numc,hi])
theorem oracle_any (w:World) (a:Option Addr) (c:Nat) (l:List Nat) (h:CellsAt w a (numc l)) (hl:∀ n ∈ l,n < 18446744073709551616) (i:Nat) (hi:i < l.length) (kind:Int) (n:Nat) (hn:1 ≤ n) (hn2:n < 9223372036854775808) :
  Calls Tryz.prog 32 #[.slice a l.length c,.int .i64 (i:Int),.int .i64 kind,.int .i64 (n:Int)] w fun r w'=>r = .returned (.int .u64 ((l[i] % n:Nat):Int)) ∧ w' = w:=by
 obtain ⟨b,off,rfl,g⟩:=num_at h i hi
 have hx:=hl _ (List.getElem_mem hi)
 generalize l[i] = x at *
 generalize l.length = m at *
 have hne:¬ (n:Int) = 0:=by omega
 have hw:IntKind.u64.wrap (n:Int) = (n:Int):=by rw [IntKind.wrap_u64];omega
 have hr:(x:Int).tmod (n:Int) = ((x % n:Nat):Int):=by rw [Int.tmod_eq_emod_of_nonneg (by omega)];simp
 have hw2:IntKind.u64.wrap ((x % n:Nat):Int) = ((x % n:Nat):Int):=by
  have:x % n < n:=Nat.mod_lt _ (by omega)
  rw [IntKind.wrap_u64];omega
 clear h hl hn2 hx
 go_enter Tryz.func32,Tryz.ntmps32
 go_wp2
 go_ret
 exact ⟨ret_int (by simp),rfl⟩
structure Src where
 tape:List Rec
 nums:List Nat
 taken:List Rec
def Src.many (S:Src):Nat:=S.tape.length + S.nums.length
def Src.ok (S:Src):Prop:=(∀ r ∈ S.tape,r.2 < 18446744073709551616) ∧ ∀ n ∈ S.nums,n < 18446744073709551616
def drawAt (S:Src) (i:Nat) (kind:Int) (n:Nat):Option Nat :=
 if i < S.tape.length then (if (S.tape.getD i (0,0)).1 = kind ∧ (S.tape.getD i (0,0)).2 < n then some (S.tape.getD i (0,0)).2 else none) else some (S.nums.getD (i - S.tape.length) 0 % n)
def Drawn (w:World) (S:Src) (i:Nat) (kind:Int) (n:Nat) (r:Ending) (w':World):Prop :=
 Below w.heap.size w w' ∧ match drawAt S i kind n with
  | some v=>r = .returned (.int .u64 (v:Int))
  | none=>r = strayed i kind n (S.tape.getD i (0,0))
theorem Drawn.num {w w':World} {S:Src} {i:Nat} {kind:Int} {n:Nat} {r:Ending} (hi:¬ i < S.tape.length) (h2:i - S.tape.length < S.nums.length) (hb:Below w.heap.size w w') (h:r = .returned (.int .u64 ((S.nums[i - S.tape.length] % n:Nat):Int))):Drawn w S i kind n r w':=by
 refine ⟨hb,?_⟩
 unfold drawAt
 rw [if_neg hi,List.getD_eq_getElem?_getD,List.getElem?_eq_getElem h2]
 exact h
theorem Drawn.cases {w w':World} {S:Src} {i:Nat} {kind:Int} {n:Nat} {r:Ending} (h:Drawn w S i kind n r w'):(∃ v:Nat,r = .returned (.int .u64 (v:Int)) ∧ drawAt S i kind n = some v) ∨ (r = strayed i kind n (S.tape.getD i (0,0)) ∧ drawAt S i kind n = none):=by
 obtain ⟨hb,h⟩:=h
 cases hd:drawAt S i kind n with
 | none=>rw [hd] at h;exact .inr ⟨h,rfl⟩
 | some v=>rw [hd] at h;exact .inl ⟨v,h,rfl⟩
def drawer (k:Nat):Nat:=if k = 0 then 32 else 32
def recv (k:Nat) (t n:Value):Value:=if k = 0 then n else if k = 1 then t else .agg #[t,n]
def Src.fits (S:Src) (k:Nat):Prop:=(k = 0 → S.tape = []) ∧ (k = 1 → S.nums = []) ∧ k ≤ 0
theorem drawer_enter (k:Nat) (args:Array Value) (w:World):(callFunc (drawer k) args).run Tryz.prog w = .ok (.enter (drawer k) args) w:=by
 unfold drawer
 split
 ·kernel_rfl
 ·first
   | kernel_rfl
   | (split <;> kernel_rfl)
def scells (k:Nat) (S:Src) (ta:Option Addr) (tc:Nat) (na:Option Addr) (nc:Nat) (ka:Option Addr) (kc:Nat) (see:Value):List Value :=
 [.func (.func (drawer k)) #[recv k (.slice ta S.tape.length tc) (.slice na S.nums.length nc)] #[],.int .i64 (S.many:Int),.slice ka S.taken.length kc,see]
def sparts (p k:Nat) (S:Src) (see:Value) (ta:Option Addr) (tc:Nat) (na:Option Addr) (nc:Nat) (ka:Option Addr) (kc:Nat):List Asr :=
 [CelA p (scells k S ta tc na nc ka kc see),RowGA 2 ka kc S.taken.length (recCells S.taken),RowGA 2 ta tc S.tape.length (recCells S.tape),RowGA 1 na nc S.nums.length (numc S.nums)]
def SrcA (p k:Nat) (S:Src) (see:Value):Asr where
 at_ w F:=∃ ta tc na nc ka kc,Sep w (sparts p k S see ta tc na nc ka kc) F
 lt:=by rintro w F ⟨_,_,_,_,_,_,h⟩;exact h.lt
 chg:=by
  rintro w w' F G ⟨ta,tc,na,nc,ka,kc,h⟩ c hd
  exact ⟨ta,tc,na,nc,ka,kc,h.chg c hd⟩
theorem Own.src {w0 w:World} {p k:Nat} {S:Src} {see:Value} {R:List Asr} (h:Own w0 w (SrcA p k S see :: R)):∃ ta tc na nc ka kc,Own w0 w (CelA p (scells k S ta tc na nc ka kc see) :: RowGA 2 ka kc S.taken.length (recCells S.taken) :: RowGA 2 ta tc S.tape.length (recCells S.tape) :: RowGA 1 na nc S.nums.length (numc S.nums) :: R):=by
 obtain ⟨As,⟨ta,tc,na,nc,ka,kc,rfl⟩,h1⟩:=Own.unfold h (P:=fun As=>∃ ta tc na nc ka kc,As = sparts p k S see ta tc na nc ka kc) (fun F ⟨ta,tc,na,nc,ka,kc,h⟩=>⟨_,⟨ta,tc,na,nc,ka,kc,rfl⟩,h⟩)
 exact ⟨ta,tc,na,nc,ka,kc,h1⟩
theorem Own.srcBack {w0 w:World} {p k:Nat} {S:Src} {see:Value} {R:List Asr} {ta na ka:Option Addr} {tc nc kc:Nat} (h:Own w0 w (CelA p (scells k S ta tc na nc ka kc see) :: RowGA 2 ka kc S.taken.length (recCells S.taken) :: RowGA 2 ta tc S.tape.length (recCells S.tape) :: RowGA 1 na nc S.nums.length (numc S.nums) :: R)):Own w0 w (SrcA p k S see :: R) :=
 Own.fold (As:=sparts p k S see ta tc na nc ka kc) h (fun F hF=>⟨ta,tc,na,nc,ka,kc,hF⟩)
theorem sleft_any {w0 w:World} {R:List Asr} {p k:Nat} {S:Src} {see:Value} (h:Own w0 w (SrcA p k S see :: R)) (hm:S.many < 9223372036854775808) (ht:S.taken.length ≤ S.many) :
  Calls Tryz.prog 49 #[.pointer (some ⟨p,0,none⟩)] w fun r w'=>r = .returned (.int .i64 ((S.many - S.taken.length:Nat):Int)) ∧ ∃ m,w' = w.drewN m:=by
 obtain ⟨ta,tc,na,nc,ka,kc,h⟩:=h.src
 obtain ⟨g1,-⟩:=h.cel 0 rfl 1 _ rfl
 obtain ⟨g2,-⟩:=h.cel 0 rfl 2 _ rfl
 generalize S.taken.length = n at *
 generalize S.many = m at *
 have hs:(m:Int) - (n:Int) = ((m - n:Nat):Int):=by omega
 have hw:IntKind.i64.wrap ((m - n:Nat):Int) = ((m - n:Nat):Int):=by rw [IntKind.wrap_i64];omega
 generalize m - n = d at *
 clear h hm ht
 go_enter Tryz.func49,Tryz.ntmps49
 go_wp2_with fail
 go_quiet (fail)
 go_wp2
 go_ret
 exact ⟨ret_int (by simp),_,rfl⟩
theorem draw_any {w:World} {k:Nat} {S:Src} (hS:S.ok) (hf:S.fits k) (ta na:Option Addr) (tc nc:Nat) (ht:CellsAt w ta (recCells S.tape)) (hn:CellsAt w na (numc S.nums)) (i:Nat) (hi:i < S.many) (kind:Int) (n:Nat) (hn1:1 ≤ n) (hn2:n < 9223372036854775808) (hm:S.many < 9223372036854775808) :
  Calls Tryz.prog (drawer k) #[recv k (.slice ta S.tape.length tc) (.slice na S.nums.length nc),.int .i64 (i:Int),.int .i64 kind,.int .i64 (n:Int)] w (Drawn w S i kind n):=by
 unfold drawer recv
 by_cases h0:k = 0
 ·rw [if_pos h0,if_pos h0]
  have e:=hf.1 h0
  unfold Src.many at hi
  rw [e] at hi
  simp only [List.length_nil,Nat.zero_add] at hi
  refine (oracle_any w na nc S.nums hn hS.2 i hi kind n hn1 hn2).mono (fun r w2 h2=>?_)
  obtain ⟨h2,rfl⟩:=h2
  exact Drawn.num (by rw [e];simp) (by rw [e];simpa using hi) (Below.refl _ _) (by rw [h2];simp [e])
 ·have:=hf.2.2;omega
def dry:Ending:=.panicked [{ v:=.iface 107 (.agg #[]),recovered:=false }]
def cnt (n:Int):Nat:=(max n 1).toNat
theorem cnt_pos (n:Int):1 ≤ cnt n:=by unfold cnt;omega
theorem cnt_eq (n:Int):max n 1 = (cnt n:Int):=by unfold cnt;omega
theorem cnt_lt (n:Int) (h:n < 9223372036854775808):cnt n < 9223372036854775808:=by unfold cnt;omega
def Src.take (S:Src) (kind:Int) (v:Nat):Src:={ S with taken:=S.taken ++ [(kind,v)] }
def SDraw (S:Src) (kind n:Int) (r:Ending) (S':Src):Prop :=
 (S.taken.length = S.many ∧ r = dry ∧ S' = S) ∨
 (S.taken.length < S.many ∧ drawAt S S.taken.length kind (cnt n) = none ∧ r = strayed S.taken.length kind (cnt n) (S.tape.getD S.taken.length (0,0)) ∧ S' = S) ∨
 (S.taken.length < S.many ∧ ∃ v,drawAt S S.taken.length kind (cnt n) = some v ∧ r = .returned (.int .i64 (v:Int)) ∧ S' = S.take kind v)
theorem drawAt_lt {S:Src} {i:Nat} {kind:Int} {n v:Nat} (hn:1 ≤ n) (h:drawAt S i kind n = some v):v < n:=by
 unfold drawAt at h
 split at h
 ·split at h
  ·rename_i h2;cases h;exact h2.2
  ·cases h
 ·cases h;exact Nat.mod_lt _ (by omega)
theorem sdraw_any {w0 w:World} {R:List Asr} {p k:Nat} {S:Src} (h:Own w0 w (SrcA p k S .nilFunc :: R)) (hS:S.ok) (hf:S.fits k) (hm:S.many < 9223372036854775808) (ht:S.taken.length ≤ S.many) (hk:S.taken.length ≤ 1000000) (kind n:Int) (hn:n < 9223372036854775808) :
  Calls Tryz.prog 35 #[.pointer (some ⟨p,0,none⟩),.int .i64 kind,.int .i64 n] w fun r w'=>∃ S',SDraw S kind n r S' ∧ Own w0 w' (SrcA p k S' .nilFunc :: R):=by
 have hl:=sleft_any h hm ht
 have H:=Lib.hid h
 have HL:=Lib.hid hl
 clear h hl
 by_cases hd:S.taken.length = S.many
 ·have e:((S.many - S.taken.length:Nat):Int) = 0:=by omega
  rw [e] at HL
  have HS:Hid (SDraw S kind n dry S):=Lib.hid (.inl ⟨hd,rfl,rfl⟩)
  clear hS hf hm ht hk hd e
  go_enter Tryz.func35,Tryz.ntmps35
  go_wp2_with fail
  refine HL.out.mono ?_
  rintro r w1 ⟨rfl,m,rfl⟩
  have H1:=Lib.hid (H.out.step (below_drewN (Below.refl _ _) m))
  clear H HL
  go_wp2
  exact ⟨rfl,_,HS.out,H1.out⟩
 ·have hlt:S.taken.length < S.many:=by omega
  have e:¬ ((S.many - S.taken.length:Nat):Int) = 0:=by omega
  have hdraw:∀ w1,Below w.heap.size w w1 → ∀ ta tc na nc,CellsAt w ta (recCells S.tape) → CellsAt w na (numc S.nums) → Calls Tryz.prog (drawer k) #[recv k (.slice ta S.tape.length tc) (.slice na S.nums.length nc),.int .i64 (S.taken.length:Int),.int .i64 kind,.int .i64 (cnt n:Int)] w1 (Drawn w1 S S.taken.length kind (cnt n)) :=
   fun w1 hb ta tc na nc h1 h2=>draw_any hS hf ta na tc nc (h1.below hb) (h2.below hb) _ hlt kind _ (cnt_pos n) (cnt_lt n hn) hm
  obtain ⟨ta,tc,na,nc,ka,kc,h⟩:=H.out.src
  have hdr:=fun w1 hb=>hdraw w1 hb ta tc na nc ((h.rowG 2 rfl).cells) ((h.rowG 3 rfl).cells)
  have en:∀ (args:Array Value) (w:World),(callFunc (drawer k) args).run Tryz.prog w = .ok (.enter (drawer k) args) w:=drawer_enter k
  have HDR:=Lib.hid hdr
  obtain ⟨g0,-⟩:=h.cel 0 rfl 0 _ rfl
  obtain ⟨g2,-⟩:=h.cel 0 rfl 2 _ rfl
  clear hdraw hdr
  generalize recv k (.slice ta S.tape.length tc) (.slice na S.nums.length nc) = rv at *
  generalize drawer k = F at *
  have HS:=Lib.hid hS
  have HF:=Lib.hid hf
  have HM:=Lib.hid hm
  have HLT:=Lib.hid hlt
  have HK:=Lib.hid hk
  generalize hdd:S.many - S.taken.length = d at *
  have HDD:=Lib.hid hdd
  obtain ⟨nk,hnk⟩:∃ nk,nk = S.taken.length:=⟨_,rfl⟩
  rw [← hnk] at g2 HDR
  have HNK:=Lib.hid hnk
  have H0:=Lib.hid h
  have G0:=Lib.hid g0
  have G2:=Lib.hid g2
  have hmx:=cnt_eq n
  have hmp:=cnt_pos n
  have hml:=cnt_lt n hn
  have hpan:∀ w',Below w.heap.size w w' → drawAt S nk kind (cnt n) = none → ∃ S',SDraw S kind n (strayed nk kind (cnt n) (S.tape.getD nk (0,0))) S' ∧ Own w0 w' (SrcA p k S' .nilFunc :: R):=fun w' hb hv =>
   ⟨S,.inr (.inl ⟨hlt,by rw [← hnk];exact hv,by rw [hnk],rfl⟩),H.out.step hb⟩
  have HP:=Lib.hid hpan
  clear hpan
  have hend:∀ v w',drawAt S nk kind (cnt n) = some v → Own w0 w' (SrcA p k (S.take kind v) .nilFunc :: R) → ∃ S',SDraw S kind n (.returned (.int .i64 (v:Int))) S' ∧ Own w0 w' (SrcA p k S' .nilFunc :: R):=fun v w' hv ho =>
   ⟨_,.inr (.inr ⟨hlt,v,by rw [← hnk];exact hv,rfl,rfl⟩),ho⟩
  have HEND:=Lib.hid hend
  clear hend
  have hvl:∀ v,drawAt S nk kind (cnt n) = some v → v < cnt n:=fun v hv=>drawAt_lt hmp hv
  have HVL:=Lib.hid hvl
  clear hvl
  generalize cnt n = c at *
  clear hS hf hm ht hk hd h hlt hdd hnk g0 g2
  go_enter Tryz.func35,Tryz.ntmps35
  go_wp2_with fail
  refine HL.out.mono ?_
  rintro r w1 ⟨rfl,m,rfl⟩
  have hB1:Below w.heap.size w (w.drewN m):=below_drewN (Below.refl _ _) m
  generalize w.drewN m = W at *
  have g0:=cell_below G0.out hB1
  have g2:=cell_below G2.out hB1
  have HB1:=Lib.hid hB1
  clear hB1 HL
  go_wp2_with fail
  have hmv:(if n < 1 then (1:Int) else n) = (c:Int):=by rw [← hmx];omega
  have HMV:=Lib.hid hmv
  clear hmx hmv
  refine wp_region_lexP (fun w'=>w'.cell? ⟨p,0,none⟩ = some (.func (.func F) #[rv] #[]) ∧ w'.cell? ⟨p,2,none⟩ = some (.slice ka nk kc) ∧ Below W.heap.size W w') 17 (Array.replicate 17 false) (by kernel_rfl) (by kernel_rfl) ?_
  have hBd:=below_drew1 W
  generalize W.drew = Wd at *
  refine wpAnyH_seg 0 13 _ #[true,true,true,true,true,true,true,true,true,true,true,true,true,false,false,false,false] 4 (by kernel_rfl) body_put (⟨cell_below g0 hBd,cell_below g2 hBd,hBd⟩) (by kernel_rfl) ?_
  simp only [List.take_succ_cons,List.take_zero,List.drop_zero]
  repeat ((first | refine wpSegH_no (by rfl) ?_ | (refine wpSegH_yes (by rfl) ?_;apply Exists.intro;apply And.intro;(· (intro wx hS;(try dsimp only at hS);go_simp;first | done | with_reducible rfl))));simp only [Act.put,List.setIfInBounds_toArray,List.set_cons_zero,List.set_cons_succ])
  refine wpSegH_nil ?_
  rw [HMV.out]
  refine wpAnyH_two 13 15 _ #[true,true,true,true,true,true,true,true,true,true,true,true,true,true,false,false,false] #[true,true,true,true,true,true,true,true,true,true,true,true,true,false,false,true,false] 3 (by kernel_rfl) (fun K hK=>?_) (fun K hK=>?_)
  ·skip
   have HKK:=Lib.hid hK
   clear hK
   simp only [List.drop_succ_cons,List.drop_zero]
   refine headH_mk (by rfl) ?_
   go_simp
   refine (HDR.out _ (below_on HB1.out hBd)).mono ?_
   intro r w2 h2
   rcases h2.cases with ⟨v,rfl,hv⟩ | ⟨rfl,hv⟩
   ·have hb2:Below W.heap.size W w2:=below_on hBd h2.1
    refine HKK.out _ _ (⟨cell_below g0 hb2,cell_below g2 hb2,hb2⟩) ?_
    clear HKK K
    refine wpAnyH_seg 14 1 _ #[true,true,true,true,true,true,true,true,true,true,true,true,true,true,true,false,false] 2 (by kernel_rfl) body_put (⟨cell_below g0 hb2,cell_below g2 hb2,hb2⟩) (by kernel_rfl) ?_
    simp only [List.take_succ_cons,List.take_zero,List.drop_succ_cons,List.drop_zero]
    repeat ((first | refine wpSegH_no (by rfl) ?_ | (refine wpSegH_yes (by rfl) ?_;apply Exists.intro;apply And.intro;(· (intro wx hS;(try dsimp only at hS);go_simp;first | done | with_reducible rfl))));simp only [Act.put,List.setIfInBounds_toArray,List.set_cons_zero,List.set_cons_succ])
    refine wpSegH_nil ?_
    have h3:=(H0.out.step (below_on HB1.out hb2)).alloc [.int .i64 0,.int .u64 0] 54 (b:=w2.heap.size) rfl
    have hb3:Below W.heap.size W (w2.alloc (.cells #[.int .i64 0,.int .u64 0] 54)):=below_on hb2 (below_alloc1 _ _)
    have hgw:W.heap.size ≤ w2.heap.size:=hb2.size
    refine wpAnyH_one 15 _ #[true,true,true,true,true,true,true,true,true,true,true,true,true,true,true,true,false] 1 (by kernel_rfl) (fun K hK=>?_)
    have HKK:=Lib.hid hK
    clear hK
    simp only [List.drop_succ_cons,List.drop_zero]
    refine headH_mk (by rfl) ?_
    go_simp
    refine HKK.out _ _ (⟨cell_below g0 hb3,cell_below g2 hb3,hb3⟩) ?_
    clear HKK K
    generalize w2.alloc (.cells #[.int .i64 0,.int .u64 0] 54) = w3 at *
    generalize w2.heap.size = g at *
    obtain ⟨x0,y0⟩:=h3.cel 0 rfl 0 _ rfl
    obtain ⟨x1,y1⟩:=h3.cel 0 rfl 1 _ rfl
    have hb4:Below W.heap.size W ((w3.setCell ⟨g,0,none⟩ (.int .i64 kind)).setCell ⟨g,1,none⟩ (.int .u64 (v:Int))):=(hb3.setCell hgw _).setCell hgw _
    refine wpAnyH_one 16 _ #[true,true,true,true,true,true,true,true,true,true,true,true,true,true,true,true,true] 0 (by kernel_rfl) (fun K hK=>?_)
    have HKK:=Lib.hid hK
    clear hK
    simp only [List.drop_succ_cons,List.drop_zero]
    refine headH_mk (by rfl) ?_
    go_simp
    refine HKK.out _ _ (⟨cell_below g0 hb4,cell_below g2 hb4,hb4⟩) ?_
    clear HKK K
    refine wpAnyH_done (by kernel_rfl) (?_) _
    have h4:=(h3.set 0 (.int .i64 kind)).set 1 (.int .u64 (v:Int))
    have HG:=Lib.hid h4
    clear h4 h3 hb3 hb2 h2
    go_wp2_with fail
    have HK4:=Lib.hid HG.out
    obtain ⟨q0,-⟩:=HK4.out.cel 0 rfl 0 _ rfl
    obtain ⟨q1,-⟩:=HK4.out.cel 0 rfl 1 _ rfl
    obtain ⟨q2,-⟩:=HK4.out.cel 1 rfl 2 _ rfl
    rw [show (Value.slice ka S.taken.length kc) = Value.slice ka nk kc by rw [HNK.out]] at q2
    generalize (w3.setCell ⟨g,0,none⟩ (.int .i64 kind)).setCell ⟨g,1,none⟩ (.int .u64 (v:Int)) = W5 at *
    have SCB:∀ {wx:World} {As:List Asr},Own w0 wx (CelA g [.int .i64 kind,.int .u64 (v:Int)] :: CelA p (scells k S ta tc na nc ka kc .nilFunc) :: As) → wx.cell? ⟨p,2,none⟩ = some (.slice ka nk kc) ∧ wx.cell? ⟨g,0,none⟩ = some (.int .i64 kind) ∧ wx.cell? ⟨g,1,none⟩ = some (.int .u64 (v:Int)):=fun h=>⟨by rw [HNK.out];exact (h.cel 1 rfl 2 _ rfl).1,(h.cel 0 rfl 0 _ rfl).1,(h.cel 0 rfl 1 _ rfl).1⟩
    refine wp_region_lexY (fun wx=>wx.cell? ⟨p,2,none⟩ = some (.slice ka nk kc) ∧ wx.cell? ⟨g,0,none⟩ = some (.int .i64 kind) ∧ wx.cell? ⟨g,1,none⟩ = some (.int .u64 (v:Int))) 10 11 (Array.replicate 11 false) (by kernel_rfl) (by kernel_rfl) ?_
    have h6:Own w0 W5.drew (CelA g [.int .i64 kind,.int .u64 (v:Int)] :: CelA p (scells k S ta tc na nc ka kc .nilFunc) :: RowGA 2 ka kc S.taken.length (recCells S.taken) :: RowGA 2 ta tc S.tape.length (recCells S.tape) :: RowGA 1 na nc S.nums.length (numc S.nums) :: R):=HK4.out.step (below_drew1 W5)
    clear HK4 q0 q1 q2
    generalize W5.drew = W6 at *
    refine wpAnyY_seg 0 6 _ #[true,true,true,true,true,true,false,false,false,false,false] 5 (by kernel_rfl) noPanic_put (SCB h6) (by kernel_rfl) ?_
    simp only [List.take_succ_cons,List.take_zero,List.drop_zero]
    repeat ((first | refine wpSegH_no (by rfl) ?_ | (refine wpSegH_yes (by rfl) ?_;apply Exists.intro;apply And.intro;(· (intro wx hS;(try dsimp only at hS);go_simp;first | done | with_reducible rfl))));simp only [Act.put,List.setIfInBounds_toArray,List.set_cons_zero,List.set_cons_succ])
    refine wpSegH_nil ?_
    have hrow:=h6.rowG 2 rfl
    obtain ⟨i0,hi0,hz0,hz1,hz2⟩:=info_parts info_rcd
    rw [← HNK.out] at hrow
    have o2:=h6.step (below_alloc1 W6 (.cells #[.int .i64 kind,.int .u64 (v:Int)] 54))
    refine wpAnyY_one 6 _ #[true,true,true,true,true,true,true,false,false,false,false] 4 (by kernel_rfl) (fun K hK=>?_)
    have HKK:=Lib.hid hK
    clear hK
    simp only [List.drop_succ_cons,List.drop_zero]
    refine headH_mk (by rfl) ?_
    go_simp
    refine HKK.out _ _ (SCB o2) ?_
    clear HKK K
    refine wpAnyY_one 7 _ #[true,true,true,true,true,true,true,true,false,false,false] 3 (by kernel_rfl) (fun K hK=>?_)
    have HKK:=Lib.hid hK
    clear hK
    simp only [List.drop_succ_cons,List.drop_zero]
    refine headH_mk (by rfl) ?_
    refine wp_append_rowG (n:=nk) (m:=1) (cs:=recCells S.taken) (ds:=recCells [(kind,v)]) _ _ 102 (by rfl) 54 i0 _ Tryz.underlying102 hi0 hz0 hz1 hz2 rfl (by omega) (by omega) (by rfl) (by rfl) (hrow.below (below_alloc1 _ _)) (CellsAt.new W6 (recCells [(kind,v)]) _ rfl) rfl (recc_one _) (by have:=HK.out;rw [HNK.out];omega) ?_
    intro a9 c9 w9 k9 ch9 f9
    have o3:Own w0 w9 (CelA g [.int .i64 kind,.int .u64 (v:Int)] :: CelA p (scells k S ta tc na nc ka kc .nilFunc) :: RowGA 2 a9 c9 (nk + 1) (recCells S.taken ++ recCells [(kind,v)]) :: RowGA 2 ta tc S.tape.length (recCells S.tape) :: RowGA 1 na nc S.nums.length (numc S.nums) :: R) :=
     ((Own.rowTurn (o2.pick 2 rfl) k9 ch9 f9).pick 2 rfl).pick 2 rfl
    refine HKK.out _ _ (SCB o3) ?_
    clear HKK K
    refine wpAnyY_segT 8 2 _ #[true,true,true,true,true,true,true,true,true,true,false] 1 (by kernel_rfl) noPanic_put (by kernel_rfl) ?_
    simp only [List.take_succ_cons,List.take_zero,List.drop_succ_cons,List.drop_zero]
    repeat ((first | refine wpSegH_no (by rfl) ?_ | (refine wpSegH_yes (by rfl) ?_;apply Exists.intro;apply And.intro;(· (intro wx hS;(try dsimp only at hS);go_simp;first | done | with_reducible rfl))));simp only [Act.put,List.setIfInBounds_toArray,List.set_cons_zero,List.set_cons_succ])
    refine wpSegH_nil ?_
    obtain ⟨q2,y2⟩:=o3.cel 1 rfl 2 _ rfl
    have o4:=o3.setAt 1 rfl 2 (.slice a9 (nk + 1) c9)
    have hfin:Own w0 (w9.setCell ⟨p,2,none⟩ (.slice a9 (nk + 1) c9)) (CelA g [.int .i64 kind,.int .u64 (v:Int)] :: SrcA p k (S.take kind v) .nilFunc :: R):=by
     have e:nk + 1 = (S.take kind v).taken.length:=by rw [HNK.out];simp [Src.take]
     have e2:recCells S.taken ++ recCells [(kind,v)] = recCells (S.take kind v).taken:=by unfold Src.take recCells;simp
     have o5:Own w0 (w9.setCell ⟨p,2,none⟩ (.slice a9 (nk + 1) c9)) (CelA p ((scells k S ta tc na nc ka kc .nilFunc).set 2 (.slice a9 (nk + 1) c9)) :: RowGA 2 a9 c9 (nk + 1) (recCells S.taken ++ recCells [(kind,v)]) :: RowGA 2 ta tc S.tape.length (recCells S.tape) :: RowGA 1 na nc S.nums.length (numc S.nums) :: CelA g [.int .i64 kind,.int .u64 (v:Int)] :: R):=((((o4.pick 4 rfl).pick 4 rfl).pick 4 rfl).pick 4 rfl)
     rw [e2,e] at o5
     rw [e]
     exact (Own.srcBack (S:=S.take kind v) o5).pick 1 rfl
    have HFIN:=Lib.hid hfin
    clear hfin o4 o3 o2 k9 ch9 f9 hrow hi0 hz0 hz1 hz2 i0 h6 SCB HG
    refine wpAnyY_late 10 _ #[true,true,true,true,true,true,true,true,true,true,true] 0 (by kernel_rfl) (fun K hK=>?_)
    have HKK:=Lib.hid hK
    clear hK
    simp only [List.drop_succ_cons,List.drop_zero]
    refine headH_mk (by rfl) ?_
    go_simp
    refine HKK.out _ _ ?_
    clear HKK K
    refine wpAnyY_done (by kernel_rfl) (NoPanic.normal ?_) _
    generalize w9.setCell ⟨p,2,none⟩ (.slice a9 (nk + 1) c9) = w10 at *
    obtain ⟨_,_,_,_,_,_,hs⟩:=(HFIN.out.pick 1 rfl).src
    obtain ⟨z3,-⟩:=hs.cel 0 rfl 3 _ rfl
    obtain ⟨z1,-⟩:=HFIN.out.cel 0 rfl 1 _ rfl
    have hvv:=HVL.out v hv
    have hvw:IntKind.i64.wrap (v:Int) = (v:Int):=by rw [IntKind.wrap_i64];omega
    have hne:∀ w:World,(binOp .neq 103 .nilFunc .nilFunc).run Tryz.prog w = .ok (.bool false) w:=fun _=>rfl
    have HRES:=Lib.hid (HEND.out v _ hv HFIN.out.drop)
    clear hs HFIN HEND hvv hv HVL
    go_wp2
    go_ret
    exact HRES.out
   ·exact ⟨rfl,HP.out _ (below_on HB1.out (below_on hBd h2.1)) hv⟩
  ·skip
   have hgw:W.heap.size ≤ Wd.heap.size:=hBd.size
   have h3:=(H0.out.step (below_on HB1.out hBd)).alloc [.int .i64 0,.int .u64 0] 54 (b:=Wd.heap.size) rfl
   have hb3:Below W.heap.size W (Wd.alloc (.cells #[.int .i64 0,.int .u64 0] 54)):=below_on hBd (below_alloc1 _ _)
   have HKK:=Lib.hid hK
   clear hK
   simp only [List.drop_succ_cons,List.drop_zero]
   refine headH_mk (by rfl) ?_
   go_simp
   refine HKK.out _ _ (⟨cell_below g0 hb3,cell_below g2 hb3,hb3⟩) ?_
   clear HKK K
   generalize Wd.alloc (.cells #[.int .i64 0,.int .u64 0] 54) = wa at *
   generalize Wd.heap.size = g at *
   refine wpAnyH_one 13 _ #[true,true,true,true,true,true,true,true,true,true,true,true,true,true,false,true,false] 2 (by kernel_rfl) (fun K hK=>?_)
   have HKK:=Lib.hid hK
   clear hK
   simp only [List.drop_succ_cons,List.drop_zero]
   refine headH_mk (by rfl) ?_
   go_simp
   refine (HDR.out _ (below_on HB1.out hb3)).mono ?_
   intro r w3 h2
   rcases h2.cases with ⟨v,rfl,hv⟩ | ⟨rfl,hv⟩
   ·have hb2:Below W.heap.size W w3:=below_on hb3 h2.1
    replace h3:=h3.step h2.1
    refine HKK.out _ _ (⟨cell_below g0 hb2,cell_below g2 hb2,hb2⟩) ?_
    clear HKK K
    refine wpAnyH_seg 14 1 _ #[true,true,true,true,true,true,true,true,true,true,true,true,true,true,true,true,false] 1 (by kernel_rfl) body_put (⟨cell_below g0 hb2,cell_below g2 hb2,hb2⟩) (by kernel_rfl) ?_
    simp only [List.take_succ_cons,List.take_zero,List.drop_succ_cons,List.drop_zero]
    repeat ((first | refine wpSegH_no (by rfl) ?_ | (refine wpSegH_yes (by rfl) ?_;apply Exists.intro;apply And.intro;(· (intro wx hS;(try dsimp only at hS);go_simp;first | done | with_reducible rfl))));simp only [Act.put,List.setIfInBounds_toArray,List.set_cons_zero,List.set_cons_succ])
    refine wpSegH_nil ?_
    obtain ⟨x0,y0⟩:=h3.cel 0 rfl 0 _ rfl
    obtain ⟨x1,y1⟩:=h3.cel 0 rfl 1 _ rfl
    have hb4:Below W.heap.size W ((w3.setCell ⟨g,0,none⟩ (.int .i64 kind)).setCell ⟨g,1,none⟩ (.int .u64 (v:Int))):=(hb2.setCell hgw _).setCell hgw _
    refine wpAnyH_one 16 _ #[true,true,true,true,true,true,true,true,true,true,true,true,true,true,true,true,true] 0 (by kernel_rfl) (fun K hK=>?_)
    have HKK:=Lib.hid hK
    clear hK
    simp only [List.drop_succ_cons,List.drop_zero]
    refine headH_mk (by rfl) ?_
    go_simp
    refine HKK.out _ _ (⟨cell_below g0 hb4,cell_below g2 hb4,hb4⟩) ?_
    clear HKK K
    refine wpAnyH_done (by kernel_rfl) (?_) _
    have h4:=(h3.set 0 (.int .i64 kind)).set 1 (.int .u64 (v:Int))
    have HG:=Lib.hid h4
    clear h4 h3 hb3 hb2 h2
    go_wp2_with fail
    have HK4:=Lib.hid HG.out
    obtain ⟨q0,-⟩:=HK4.out.cel 0 rfl 0 _ rfl
    obtain ⟨q1,-⟩:=HK4.out.cel 0 rfl 1 _ rfl
    obtain ⟨q2,-⟩:=HK4.out.cel 1 rfl 2 _ rfl
    rw [show (Value.slice ka S.taken.length kc) = Value.slice ka nk kc by rw [HNK.out]] at q2
    generalize (w3.setCell ⟨g,0,none⟩ (.int .i64 kind)).setCell ⟨g,1,none⟩ (.int .u64 (v:Int)) = W5 at *
    have SCB:∀ {wx:World} {As:List Asr},Own w0 wx (CelA g [.int .i64 kind,.int .u64 (v:Int)] :: CelA p (scells k S ta tc na nc ka kc .nilFunc) :: As) → wx.cell? ⟨p,2,none⟩ = some (.slice ka nk kc) ∧ wx.cell? ⟨g,0,none⟩ = some (.int .i64 kind) ∧ wx.cell? ⟨g,1,none⟩ = some (.int .u64 (v:Int)):=fun h=>⟨by rw [HNK.out];exact (h.cel 1 rfl 2 _ rfl).1,(h.cel 0 rfl 0 _ rfl).1,(h.cel 0 rfl 1 _ rfl).1⟩
    refine wp_region_lexY (fun wx=>wx.cell? ⟨p,2,none⟩ = some (.slice ka nk kc) ∧ wx.cell? ⟨g,0,none⟩ = some (.int .i64 kind) ∧ wx.cell? ⟨g,1,none⟩ = some (.int .u64 (v:Int))) 10 11 (Array.replicate 11 false) (by kernel_rfl) (by kernel_rfl) ?_
    have h6:Own w0 W5.drew (CelA g [.int .i64 kind,.int .u64 (v:Int)] :: CelA p (scells k S ta tc na nc ka kc .nilFunc) :: RowGA 2 ka kc S.taken.length (recCells S.taken) :: RowGA 2 ta tc S.tape.length (recCells S.tape) :: RowGA 1 na nc S.nums.length (numc S.nums) :: R):=HK4.out.step (below_drew1 W5)
    clear HK4 q0 q1 q2
    generalize W5.drew = W6 at *
    refine wpAnyY_seg 0 6 _ #[true,true,true,true,true,true,false,false,false,false,false] 5 (by kernel_rfl) noPanic_put (SCB h6) (by kernel_rfl) ?_
    simp only [List.take_succ_cons,List.take_zero,List.drop_zero]
    repeat ((first | refine wpSegH_no (by rfl) ?_ | (refine wpSegH_yes (by rfl) ?_;apply Exists.intro;apply And.intro;(· (intro wx hS;(try dsimp only at hS);go_simp;first | done | with_reducible rfl))));simp only [Act.put,List.setIfInBounds_toArray,List.set_cons_zero,List.set_cons_succ])
    refine wpSegH_nil ?_
    have hrow:=h6.rowG 2 rfl
    obtain ⟨i0,hi0,hz0,hz1,hz2⟩:=info_parts info_rcd
    rw [← HNK.out] at hrow
    have o2:=h6.step (below_alloc1 W6 (.cells #[.int .i64 kind,.int .u64 (v:Int)] 54))
    refine wpAnyY_one 6 _ #[true,true,true,true,true,true,true,false,false,false,false] 4 (by kernel_rfl) (fun K hK=>?_)
    have HKK:=Lib.hid hK
    clear hK
    simp only [List.drop_succ_cons,List.drop_zero]
    refine headH_mk (by rfl) ?_
    go_simp
    refine HKK.out _ _ (SCB o2) ?_
    clear HKK K
    refine wpAnyY_one 7 _ #[true,true,true,true,true,true,true,true,false,false,false] 3 (by kernel_rfl) (fun K hK=>?_)
    have HKK:=Lib.hid hK
    clear hK
    simp only [List.drop_succ_cons,List.drop_zero]
    refine headH_mk (by rfl) ?_
    refine wp_append_rowG (n:=nk) (m:=1) (cs:=recCells S.taken) (ds:=recCells [(kind,v)]) _ _ 102 (by rfl) 54 i0 _ Tryz.underlying102 hi0 hz0 hz1 hz2 rfl (by omega) (by omega) (by rfl) (by rfl) (hrow.below (below_alloc1 _ _)) (CellsAt.new W6 (recCells [(kind,v)]) _ rfl) rfl (recc_one _) (by have:=HK.out;rw [HNK.out];omega) ?_
    intro a9 c9 w9 k9 ch9 f9
    have o3:Own w0 w9 (CelA g [.int .i64 kind,.int .u64 (v:Int)] :: CelA p (scells k S ta tc na nc ka kc .nilFunc) :: RowGA 2 a9 c9 (nk + 1) (recCells S.taken ++ recCells [(kind,v)]) :: RowGA 2 ta tc S.tape.length (recCells S.tape) :: RowGA 1 na nc S.nums.length (numc S.nums) :: R) :=
     ((Own.rowTurn (o2.pick 2 rfl) k9 ch9 f9).pick 2 rfl).pick 2 rfl
    refine HKK.out _ _ (SCB o3) ?_
    clear HKK K
    refine wpAnyY_segT 8 2 _ #[true,true,true,true,true,true,true,true,true,true,false] 1 (by kernel_rfl) noPanic_put (by kernel_rfl) ?_
    simp only [List.take_succ_cons,List.take_zero,List.drop_succ_cons,List.drop_zero]
    repeat ((first | refine wpSegH_no (by rfl) ?_ | (refine wpSegH_yes (by rfl) ?_;apply Exists.intro;apply And.intro;(· (intro wx hS;(try dsimp only at hS);go_simp;first | done | with_reducible rfl))));simp only [Act.put,List.setIfInBounds_toArray,List.set_cons_zero,List.set_cons_succ])
    refine wpSegH_nil ?_
    obtain ⟨q2,y2⟩:=o3.cel 1 rfl 2 _ rfl
    have o4:=o3.setAt 1 rfl 2 (.slice a9 (nk + 1) c9)
    have hfin:Own w0 (w9.setCell ⟨p,2,none⟩ (.slice a9 (nk + 1) c9)) (CelA g [.int .i64 kind,.int .u64 (v:Int)] :: SrcA p k (S.take kind v) .nilFunc :: R):=by
     have e:nk + 1 = (S.take kind v).taken.length:=by rw [HNK.out];simp [Src.take]
     have e2:recCells S.taken ++ recCells [(kind,v)] = recCells (S.take kind v).taken:=by unfold Src.take recCells;simp
     have o5:Own w0 (w9.setCell ⟨p,2,none⟩ (.slice a9 (nk + 1) c9)) (CelA p ((scells k S ta tc na nc ka kc .nilFunc).set 2 (.slice a9 (nk + 1) c9)) :: RowGA 2 a9 c9 (nk + 1) (recCells S.taken ++ recCells [(kind,v)]) :: RowGA 2 ta tc S.tape.length (recCells S.tape) :: RowGA 1 na nc S.nums.length (numc S.nums) :: CelA g [.int .i64 kind,.int .u64 (v:Int)] :: R):=((((o4.pick 4 rfl).pick 4 rfl).pick 4 rfl).pick 4 rfl)
     rw [e2,e] at o5
     rw [e]
     exact (Own.srcBack (S:=S.take kind v) o5).pick 1 rfl
    have HFIN:=Lib.hid hfin
    clear hfin o4 o3 o2 k9 ch9 f9 hrow hi0 hz0 hz1 hz2 i0 h6 SCB HG
    refine wpAnyY_late 10 _ #[true,true,true,true,true,true,true,true,true,true,true] 0 (by kernel_rfl) (fun K hK=>?_)
    have HKK:=Lib.hid hK
    clear hK
    simp only [List.drop_succ_cons,List.drop_zero]
    refine headH_mk (by rfl) ?_
    go_simp
    refine HKK.out _ _ ?_
    clear HKK K
    refine wpAnyY_done (by kernel_rfl) (NoPanic.normal ?_) _
    generalize w9.setCell ⟨p,2,none⟩ (.slice a9 (nk + 1) c9) = w10 at *
    obtain ⟨_,_,_,_,_,_,hs⟩:=(HFIN.out.pick 1 rfl).src
    obtain ⟨z3,-⟩:=hs.cel 0 rfl 3 _ rfl
    obtain ⟨z1,-⟩:=HFIN.out.cel 0 rfl 1 _ rfl
    have hvv:=HVL.out v hv
    have hvw:IntKind.i64.wrap (v:Int) = (v:Int):=by rw [IntKind.wrap_i64];omega
    have hne:∀ w:World,(binOp .neq 103 .nilFunc .nilFunc).run Tryz.prog w = .ok (.bool false) w:=fun _=>rfl
    have HRES:=Lib.hid (HEND.out v _ hv HFIN.out.drop)
    clear hs HFIN HEND hvv hv HVL
    go_wp2
    go_ret
    exact HRES.out
   ·exact ⟨rfl,HP.out _ (below_on HB1.out (below_on hb3 h2.1)) hv⟩
theorem Own.srcNew {w0 w w':World} {As:List Asr} {p k:Nat} {S:Src} {see:Value} {ta na:Option Addr} {tc nc:Nat} (h:Own w0 w As) (hb:Below w.heap.size w w') (ht:RowG 2 w' ta tc S.tape.length (recCells S.tape)) (hn:RowG 1 w' na nc S.nums.length (numc S.nums)) (hk:S.taken = [])
  (hB:Blk w' p (scells k S ta tc na nc none 0 see)) (hp:w.heap.size ≤ p) (hpl:p < w'.heap.size) (h1:∀ x ∈ blk ta,w.heap.size ≤ x) (h2:∀ x ∈ blk na,w.heap.size ≤ x) (h3:∀ x ∈ blk ta,x ≠ p) (h4:∀ x ∈ blk na,x ≠ p) (h5:∀ x ∈ blk ta,x ∉ blk na) :
  Own w0 w' (SrcA p k S see :: As):=by
 refine h.add hb (A:=SrcA p k S see) (F:=[p] ++ ([] ++ (blk ta ++ (blk na ++ [])))) ⟨ta,tc,na,nc,none,0,?_⟩ ?_
 ·refine ⟨[p],_,rfl,⟨rfl,hpl,hB⟩,?_,[],_,rfl,⟨rfl,?_⟩,by simp,blk ta,_,rfl,⟨rfl,ht⟩,by simpa using h5,blk na,[],rfl,⟨rfl,hn⟩,by simp,rfl⟩
  ·intro x hx hc
   simp at hx hc
   subst hx
   rcases hc with hc | hc
   ·exact h3 _ hc rfl
   ·exact h4 _ hc rfl
  ·rw [hk];exact RowG.nil 2 w'
 ·intro x hx
  simp at hx
  rcases hx with rfl | hx | hx
  ·exact hp
  ·exact h1 x hx
  ·exact h2 x hx
theorem onew_any {w0 w:World} {As:List Asr} (h:Own w0 w As) (a:Option Addr) (c:Nat) (l:List Nat) (hc:CellsAt w a (numc l)) (h0:a = none → l.length = 0 ∧ c = 0) (hl:l.length * 8 ≤ 140737488355328) :
  Calls Tryz.prog 17 #[.slice a l.length c] w fun r w'=>∃ p,r = .returned (.pointer (some ⟨p,0,none⟩)) ∧ Own w0 w' (SrcA p 0 ⟨[],l,[]⟩ .nilFunc :: As) ∧ Below w.heap.size w w':=by
 have hmf:∀ (fn:Fn) (first cap:Array Value) (w:World),(Instr.makeFunc fn first cap).run Tryz.prog w = .ok (.func fn first cap) w:=fun _ _ _ _=>rfl
 have hcl:=cloneu_any w a l.length c (numc l) hc (numc_len l) (numc_one l) h0 hl
 have H:=Lib.hid h
 have HCL:=Lib.hid hcl
 obtain ⟨N,hN⟩:∃ N,N = l.length:=⟨_,rfl⟩
 have HN:=Lib.hid hN
 rw [← hN] at HCL ⊢
 clear h hc h0 hl hcl hN
 go_enter Tryz.func17,Tryz.ntmps17
 go_wp2_with fail
 refine HCL.out.mono ?_
 rintro r w1 ⟨a',c',rfl,k1,k2,k3⟩
 have hB:=Blk.mk w1 [.func (.func 32) #[.slice a' N c'] #[],.int .i64 (N:Int),.slice none 0 0,.nilFunc] 105 _ rfl
 have hf:Own w0 (w1.alloc (.cells #[.func (.func 32) #[.slice a' N c'] #[],.int .i64 (N:Int),.slice none 0 0,.nilFunc] 105)) (SrcA w1.heap.size 0 ⟨[],l,[]⟩ .nilFunc :: As) ∧ Below w.heap.size w (w1.alloc (.cells #[.func (.func 32) #[.slice a' N c'] #[],.int .i64 (N:Int),.slice none 0 0,.nilFunc] 105)):=by
  have hb:=below_on k3 (below_alloc1 w1 (.cells #[.func (.func 32) #[.slice a' N c'] #[],.int .i64 (N:Int),.slice none 0 0,.nilFunc] 105))
  refine ⟨Own.srcNew (S:=⟨[],l,[]⟩) (ta:=none) (tc:=0) (na:=a') (nc:=c') H.out hb (RowG.nil 2 _) (by rw [HN.out] at k1;exact k1.below (below_alloc1 _ _)) rfl ?_ k3.size (by simp) (by simp [blk]) k2 (by simp [blk]) (fun x hx=>by have:=k1.lt x hx;omega) (by simp [blk]),hb⟩
  unfold scells Src.many drawer recv
  simp only [List.length_nil,Nat.zero_add,if_true]
  rw [← HN.out]
  exact hB
 have HF:=Lib.hid hf
 clear hf hB k1 k2 k3 HCL H
 go_wp2
 go_ret
 exact ⟨_,rfl,HF.out⟩
end Go.Proofs.YtphfaekpckbepaaGreat

open Go Go.RowKit
set_option linter.unusedVariables false
namespace Go.Proofs.YtphfaekpckbepaaGreat
structure Drw (sp:Nat) where
 T:Type
 A:T → List Asr
 ok:Nat → T → Prop
 less:∀ j s,ok (j + 1) s → ok j s
 Dv:T → Int → Int → Int → T → Prop
 Dp:T → Int → Int → Ending → T → Prop
 hd:∀ {w0 w:World} (s:T) (kind n:Int) (Z:List Asr) (j:Nat),ok (j + 1) s → 1 ≤ n ∧ n < 9223372036854775808 → Own w0 w (A s ++ Z) → Calls Tryz.prog 35 #[.pointer (some ⟨sp,0,none⟩),.int .i64 kind,.int .i64 n] w fun r w' =>
  (∃ v s',r = .returned (.int .i64 v) ∧ (0 ≤ v ∧ v < n) ∧ Dv s kind n v s' ∧ ok j s' ∧ Own w0 w' (A s' ++ Z)) ∨ (∃ ch s',r = .panicked ch ∧ Dp s kind n r s' ∧ ok j s' ∧ Own w0 w' (A s' ++ Z))
def srcD (sp k:Nat):Drw sp where
 T:=Src
 A S:=[SrcA sp k S .nilFunc]
 ok j S:=S.ok ∧ S.fits k ∧ S.many < 9223372036854775808 ∧ S.taken.length ≤ S.many ∧ S.taken.length + j ≤ 1000001
 less:=fun j S h=>⟨h.1,h.2.1,h.2.2.1,h.2.2.2.1,by have:=h.2.2.2.2;omega⟩
 Dv S kind n v S':=S.taken.length < S.many ∧ ∃ u:Nat,v = (u:Int) ∧ drawAt S S.taken.length kind (cnt n) = some u ∧ S' = S.take kind u
 Dp S kind n r S':=S' = S ∧ ((S.taken.length = S.many ∧ r = dry) ∨ (S.taken.length < S.many ∧ drawAt S S.taken.length kind (cnt n) = none ∧ r = strayed S.taken.length kind (cnt n) (S.tape.getD S.taken.length (0,0))))
 hd:=by
  intro w0 w S kind n Z j hok hn h
  obtain ⟨h1,h2,h3,h4,h5⟩:=hok
  refine (sdraw_any (R:=Z) h h1 h2 h3 h4 (by omega) kind n hn.2).mono (fun r w' hh=>?_)
  obtain ⟨S',hs,ho⟩:=hh
  rcases hs with ⟨a,rfl,rfl⟩ | ⟨a,b,rfl,rfl⟩ | ⟨a,v,b,rfl,rfl⟩
  ·exact .inr ⟨_,S',rfl,⟨rfl,.inl ⟨a,rfl⟩⟩,⟨h1,h2,h3,h4,by omega⟩,ho⟩
  ·exact .inr ⟨_,S',rfl,⟨rfl,.inr ⟨a,b,rfl⟩⟩,⟨h1,h2,h3,h4,by omega⟩,ho⟩
  ·have hl:=drawAt_lt (cnt_pos n) b
   have hc:(cnt n:Int) = n:=by have:=cnt_eq n;omega
   exact .inl ⟨(v:Int),S.take kind v,rfl,⟨by omega,by omega⟩,⟨a,v,rfl,b,rfl⟩,⟨h1,h2,h3,by show (S.taken ++ [(kind,v)]).length ≤ S.many;rw [List.length_append,List.length_singleton];omega,by show (S.taken ++ [(kind,v)]).length + j ≤ _;rw [List.length_append,List.length_singleton];omega⟩,ho⟩
def turnV (x:Sd × Int × Int):Ending:=.returned (.tuple #[.int .i64 x.2.1,.int .i64 x.2.2])
def Fit {sp:Nat} (D:Drw sp) (s:D.T) (asks:Option (Int × Int)) (v:Int) (s':D.T):Prop :=
 (asks = none ∧ v = 0 ∧ s' = s) ∨ ∃ k n,asks = some (k,n) ∧ (0 ≤ v ∧ v < n) ∧ D.Dv s k n v s'
def Drew (w0:World) (b sp:Nat) (L:Sl) (D:Drw sp) (s:D.T) (X:Sd) (R:List Asr) (j:Nat) (asks:Option (Int × Int)) (res:Int → Sd × Ending) (r:Ending) (w':World):Prop :=
 (∃ v s',Fit D s asks v s' ∧ D.ok j s' ∧ r = (res v).2 ∧ SAt w0 w' b sp L (res v).1 (D.A s' ++ R)) ∨
 (∃ ch s' k n,r = .panicked ch ∧ asks = some (k,n) ∧ D.Dp s k n r s' ∧ D.ok j s' ∧ SAt w0 w' b sp L X (D.A s' ++ R))
theorem new_some {X:Sd} {i:Nat} {g:Int} (h:(nearM (turnM X i) i).2 = some g) (v:Nat):newTurnM X i v = ((nearM (turnM X i) i).1,4,g):=by
 unfold newTurnM;simp only;rw [h]
theorem new_one {X:Sd} {i:Nat} (hi:i < X.ps.length) (h:(nearM (turnM X i) i).2 = none) (h1:¬ 1 < X.ps.length) (v:Nat):newTurnM X i v = (X,6,-1):=by
 unfold newTurnM;simp only;rw [h];simp only
 rw [if_neg (fun hc=>h1 hc.1),(near_none hi h).2.2]
theorem new_self {X:Sd} {i:Nat} (hi:i < X.ps.length) (h:(nearM (turnM X i) i).2 = none):newTurnM X i i = (X,6,-1):=by
 unfold newTurnM;simp only;rw [h];simp only
 rw [if_neg (fun hc=>hc.2 rfl),(near_none hi h).2.2]
theorem new_steal {X:Sd} {i v:Nat} (hi:i < X.ps.length) (h:(nearM (turnM X i) i).2 = none) (h1:1 < X.ps.length) (hv:v ≠ i):newTurnM X i v =
  ((X.setP i { X.p i with q:=(mSteal (X.p i).N (X.p i).q (X.p v).q).1 }).setP v { X.p v with q:=(mSteal (X.p i).N (X.p i).q (X.p v).q).2.1 },if (mSteal (X.p i).N (X.p i).q (X.p v).q).2.2.isSome then 5 else 6,((mSteal (X.p i).N (X.p i).q (X.p v).q).2.2).getD (-1)):=by
 unfold newTurnM;simp only;rw [h];simp only
 rw [if_pos ⟨h1,hv⟩,(near_none hi h).2.2]
 cases (mSteal (X.p i).N (X.p i).q (X.p v).q).2.2 with
 | some g=>rfl
 | none=>rfl
theorem sd_steal2 {w0 w:World} {b sp:Nat} {L:Sl} {X:Sd} {R:List Asr} (h:SAt w0 w b sp L X R) {i v p g p' g':Nat} (hi:i < X.ps.length) (hv:v < X.ps.length) (hld:L.ld[i]? = some (p,g)) (hld':L.ld[v]? = some (p',g')) (hn:(nearM (turnM X i) i).2 = none) (h1:1 < X.ps.length) :
  Calls Tryz.prog 67 #[.pointer (some ⟨p,0,none⟩),.pointer (some ⟨p',0,none⟩)] w fun r w'=>∃ x,r = .returned (gotv x) ∧ SAt w0 w' b sp L (newTurnM X i v).1 R ∧ (newTurnM X i v).2 = (if x.isSome then 5 else 6,x.getD (-1)):=by
 by_cases hne:i = v
 ·subst hne
  rw [hld] at hld'
  cases hld'
  refine (lsteal_self w p).mono (fun r w' hh=>⟨none,hh.1,?_,?_⟩)
  ·rw [new_self hi hn,hh.2];exact h
  ·rw [new_self hi hn];rfl
 ·refine (sd_steal h hi hv hne hld hld').mono (fun r w' hh=>⟨_,hh.1,?_,?_⟩)
  ·rw [new_steal hi hn h1 (fun e=>hne e.symm)];exact hh.2
  ·rw [new_steal hi hn h1 (fun e=>hne e.symm)]
theorem newTurn_any {w0 w:World} {b sp:Nat} {L:Sl} {X:Sd} {R:List Asr} {D:Drw sp} {s:D.T} {j:Nat} (h:SAt w0 w b sp L X (D.A s ++ R)) (hok:D.ok (j + 1) s) {i pb off:Nat} (hi:i < X.ps.length) (hpa:L.pa = some ⟨pb,off,none⟩) (hl:X.gl.length ≤ 100000) (hll:(X.p i).q.l.length ≤ 2000) (htu:(X.p i).tu ≤ 1000000) (hn:X.ps.length ≤ 1000) :
  Calls Tryz.prog 57 #[.pointer (some ⟨b,0,none⟩),.pointer (some ⟨pb,off + i * 3,none⟩)] w (Drew w0 b sp L D s X R j (if asksV X i then some (2,(X.ps.length:Int)) else none) (fun v=>((newTurnM X i v.toNat).1,turnV (newTurnM X i v.toNat)))):=by
 obtain ⟨_,_,p,g,-,hld⟩:=h.pa hi
 have hT:=sd_turn h hi hld (by omega)
 have hx0:=(h.proc hi hpa hld).1.1
 have hgl:(turnM X i).gl.length ≤ 1000000:=by
  show (mTurn (X.p i).N (X.p i).q X.gl).2.1.length ≤ _
  unfold mTurn
  split
  ·simp only;omega
  ·rename_i v _
   have:=mPut_len (X.p i).N ⟨none,(X.p i).q.l⟩ v X.gl
   simp only at this;omega
 have hiT:i < (turnM X i).ps.length:=by unfold turnM Sd.setP;simpa using hi
 have htT:((turnM X i).p i).tu ≤ 1000000:=by
  have:=(qs_turn hi).p i
  rw [this.2.2];exact htu
 have HN:=Lib.hid (fun (wx:World) (hx:SAt w0 wx b sp L (turnM X i) (D.A s ++ R))=>near_any hx hiT hpa hgl htT)
 have HT:=Lib.hid (fun (wx:World) (hx:SAt w0 wx b sp L X (D.A s ++ R))=>sd_turn hx hi hld (by omega))
 have HPR:=Lib.hid (fun (wx:World) (hx:SAt w0 wx b sp L X (D.A s ++ R))=>(hx.proc hi hpa hld).1.1)
 have HST:=Lib.hid (fun (wx:World) (R':List Asr) (hx:SAt w0 wx b sp L X R') (v:Nat) (hv:v < X.ps.length) (hnn:(nearM (turnM X i) i).2 = none) (h1:1 < X.ps.length)=>(by
  obtain ⟨pb',off',p',g',e1,e2⟩:=hx.pa hv
  rw [hpa] at e1;cases e1
  exact ⟨p',(hx.proc hv hpa e2).1.1,(hx.proc hi hpa hld).1.1,fun wy hy=>sd_steal2 hy hi hv hld e2 hnn h1⟩:∃ p',wx.cell? ⟨pb,off + v * 3,none⟩ = some (.pointer (some ⟨p',0,none⟩)) ∧ wx.cell? ⟨pb,off + i * 3,none⟩ = some (.pointer (some ⟨p,0,none⟩)) ∧ ∀ wy,SAt w0 wy b sp L X R' →
   Calls Tryz.prog 67 #[.pointer (some ⟨p,0,none⟩),.pointer (some ⟨p',0,none⟩)] wy fun r w'=>∃ x,r = .returned (gotv x) ∧ SAt w0 w' b sp L (newTurnM X i v).1 R' ∧ (newTurnM X i v).2 = (if x.isSome then 5 else 6,x.getD (-1))))
 have HNO:=Lib.hid (fun (hnn:(nearM (turnM X i) i).2 = none)=>(near_none hi hnn).2.2)
 have HONE:=Lib.hid (fun (hnn:(nearM (turnM X i) i).2 = none) (h1:¬ 1 < X.ps.length)=>new_one hi hnn h1 0)
 have HDR:=Lib.hid (fun (wx:World) (n:Int) (hn:1 ≤ n ∧ n < 9223372036854775808) (hx:SAt w0 wx b sp L X (D.A s ++ R))=>(by
  obtain ⟨S,h1,h2⟩:=hx.tail
  rw [List.append_assoc] at h1
  refine (D.hd s 2 n (R ++ S) j hok hn h1).mono (fun r w' hh=>?_)
  rcases hh with ⟨v,s',a1,a2,a3,a4,a5⟩ | ⟨ch,s',a1,a2,a3,a4⟩
  ·exact .inl ⟨v,s',a1,a2,a3,a4,h2 _ _ (by rw [List.append_assoc];exact a5)⟩
  ·exact .inr ⟨ch,s',a1,a2,a3,h2 _ _ (by rw [List.append_assoc];exact a4)⟩:Calls Tryz.prog 35 #[.pointer (some ⟨sp,0,none⟩),.int .i64 2,.int .i64 n] wx fun r w' =>
   (∃ v s',r = .returned (.int .i64 v) ∧ (0 ≤ v ∧ v < n) ∧ D.Dv s 2 n v s' ∧ D.ok j s' ∧ SAt w0 w' b sp L X (D.A s' ++ R)) ∨ (∃ ch s',r = .panicked ch ∧ D.Dp s 2 n r s' ∧ D.ok j s' ∧ SAt w0 w' b sp L X (D.A s' ++ R))))
 have H:=Lib.hid h
 have HOK:=Lib.hid hok
 obtain ⟨NN,hNN⟩:∃ NN,NN = nearM (turnM X i) i:=⟨_,rfl⟩
 have HV:Hid (asksV X i = (NN.2.isNone && decide (1 < X.ps.length))):=Lib.hid (by rw [hNN];rfl)
 have HS:Hid (∀ v g,NN.2 = some g → newTurnM X i v = (NN.1,4,g)):=Lib.hid (fun v g e=>by rw [hNN] at e ⊢;exact new_some e v)
 simp only [← hNN] at HN HST HNO HONE
 obtain ⟨NP,hNP⟩:∃ NP,NP = X.ps.length:=⟨_,rfl⟩
 obtain ⟨C12,c12⟩:=h.c12
 have HC12:Hid (∀ wx,SAt w0 wx b sp L X (D.A s ++ R) → ∃ c,wx.cell? ⟨b,12,none⟩ = some (.slice (some ⟨pb,off,none⟩) NP c)):=Lib.hid (fun wx hx=>by
  obtain ⟨c,hc⟩:=hx.c12
  rw [hpa,← hNP] at hc;exact ⟨c,hc⟩)
 have HC11:Hid (∀ wx R',SAt w0 wx b sp L X R' → wx.cell? ⟨b,11,none⟩ = some (.pointer (some ⟨sp,0,none⟩)) ∧ ∃ c,wx.cell? ⟨b,12,none⟩ = some (.slice (some ⟨pb,off,none⟩) NP c)):=Lib.hid (fun wx R' hx=>by
  obtain ⟨c,hc⟩:=hx.c12
  rw [hpa,← hNP] at hc;exact ⟨hx.c11,c,hc⟩)
 simp only [← hNP] at HST HONE HV hn ⊢
 generalize hak:(if asksV X i then some ((2:Int),(NP:Int)) else none) = ak
 have HAK:=Lib.hid hak
 clear h hok hT hx0 hgl hiT htT hld hpa hl hll htu hi hNN hNP c12 hak
 go_enter Tryz.func57,Tryz.ntmps57
 go_upto_region 1 with fail
 have x0:=HPR.out _ H.out
 refine wp_region_lexK (fun wx=>∃ nq,wx = World.drewN (w) nq) 7 1 (Array.replicate 8 false) #[true,true,true,true,true,true,true,false] (by kernel_rfl) (by kernel_rfl) ?_
 refine wpAnyK_seg 0 7 _ #[true,true,true,true,true,true,true,false] 0 (by kernel_rfl) noPanic_put (drew_q w) (by kernel_rfl) ?_
 simp only [List.take_succ_cons,List.take_zero,List.drop_zero]
 repeat ((first | refine wpSegH_no (by rfl) ?_ | (refine wpSegH_yes (by rfl) ?_;apply Exists.intro;apply And.intro;(· (rintro wx ⟨nq,rfl⟩;go_simp;first | done | with_reducible rfl))));simp only [Act.put,List.setIfInBounds_toArray,List.set_cons_zero,List.set_cons_succ])
 refine wpSegH_nil ?_
 refine wpAnyK_next ?_
 refine wpAnyK_seq 7 (by kernel_rfl) ?_
 simp only [List.drop_succ_cons,List.drop_zero]
 go_wp2_with fail
 refine (HT.out _ (H.out.step (below_dN w _))).mono ?_
 rintro r w1 ⟨rfl,h1⟩
 have H1:=Lib.hid h1
 clear h1 HT H x0
 go_wp2_with fail
 refine NoPanic.normal ?_
 go_wp2_with fail
 refine (HN.out _ H1.out).mono ?_
 rintro r w2 ⟨rfl,h2⟩
 have H2:=Lib.hid h2
 clear h2 HN H1
 obtain ⟨Y,x⟩:=NN
 cases x with
 | some gg =>
  have HR:Hid (Drew w0 b sp L D s X R j ak (fun v=>((newTurnM X i v.toNat).1,turnV (newTurnM X i v.toNat))) (turnV (Y,4,gg)) w2):=Lib.hid (by
   rw [← HAK.out,HV.out]
   simp only [Option.isNone_some,Bool.false_and,Bool.false_eq_true,if_false]
   refine .inl ⟨0,s,.inl ⟨rfl,rfl,rfl⟩,D.less _ _ HOK.out,?_,?_⟩
   ·simp only;rw [HS.out _ _ rfl]
   ·simp only;rw [HS.out _ _ rfl];exact H2.out)
  unfold gotv
  simp only [Option.getD_some,Option.isSome_some]
  clear HPR HST HNO HONE HDR HV HS HC12 HC11 H2
  go_wp2
  go_ret2
  exact HR.out
 | none =>
  have hY:=HNO.out rfl
  simp only at hY
  subst hY
  have HV2:Hid (asksV Y i = decide (1 < NP)):=Lib.hid (by rw [HV.out];simp)
  unfold gotv
  simp only [Option.getD_none,Option.isSome_none]
  obtain ⟨e11,c12,e12⟩:=HC11.out _ _ H2.out
  simp only at H2 HST HONE
  by_cases h1:1 < NP
  ·have hNP:(1:Int) < (NP:Int):=by omega
   have H1:=Lib.hid h1
   clear h1 HS HNO HV HONE
   go_upto_region 6 with fail
   refine wp_region_lexL (fun wx=>∃ nq,wx = World.drewN (w2) nq) 9 2 (Array.replicate 11 false) #[true,true,true,true,true,true,true,true,true,false,false] (by kernel_rfl) (by kernel_rfl) ?_
   refine wpAnyL_seg 0 9 _ #[true,true,true,true,true,true,true,true,true,false,false] 0 (by kernel_rfl)  (drew_q w2) (by kernel_rfl) ?_
   simp only [List.take_succ_cons,List.take_zero,List.drop_zero]
   repeat ((first | refine wpSegH_no (by rfl) ?_ | (refine wpSegH_yes (by rfl) ?_;apply Exists.intro;apply And.intro;(· (rintro wx ⟨nq,rfl⟩;go_simp;first | done | with_reducible rfl))));simp only [Act.put,List.setIfInBounds_toArray,List.set_cons_zero,List.set_cons_succ])
   refine wpSegH_nil ?_
   refine wpAnyL_next ?_
   refine wpAnyL_seq 9 (by kernel_rfl) ?_
   simp only [List.drop_succ_cons,List.drop_zero]
   go_wp2_with fail
   refine (HDR.out _ (NP:Int) (by omega) (H2.out.step (below_dN w2 _))).mono ?_
   rintro r w3 hp
   rcases hp with ⟨v,s',rfl,hv,hdv,hok,h3⟩ | ⟨ch,s',rfl,hdp,hok,h3⟩
   ·obtain ⟨vn,rfl⟩:∃ vn:Nat,v = (vn:Int):=⟨v.toNat,by omega⟩
    have hvl:(vn:Int) < (NP:Int):=hv.2
    have hv0:(0:Int) ≤ (vn:Int):=hv.1
    have HVD:=Lib.hid (And.intro hv (And.intro hdv hok))
    obtain ⟨p',y1,y0,hst⟩:=HST.out _ _ h3 vn (by omega) trivial H1.out
    obtain ⟨-,c13,e13⟩:=HC11.out _ _ h3
    have HS1:=Lib.hid (fun wx (hx:SAt w0 wx b sp L Y (D.A s' ++ R))=>hst wx hx)
    have H3:=Lib.hid h3
    clear hv hdv hok hst h3 HDR HST HPR H2 e11 e12 HC12 HC11
    go_upto_region 7 with fail
    refine wp_region_lexK (fun wx=>∃ nq,wx = World.drewN (w3) nq) 12 6 (Array.replicate 18 false) #[true,true,true,true,true,true,true,true,true,true,true,true,false,false,false,false,false,false] (by kernel_rfl) (by kernel_rfl) ?_
    refine wpAnyK_seg 0 12 _ #[true,true,true,true,true,true,true,true,true,true,true,true,false,false,false,false,false,false] 0 (by kernel_rfl) noPanic_put (drew_q w3) (by kernel_rfl) ?_
    simp only [List.take_succ_cons,List.take_zero,List.drop_zero]
    repeat ((first | refine wpSegH_no (by rfl) ?_ | (refine wpSegH_yes (by rfl) ?_;apply Exists.intro;apply And.intro;(· (rintro wx ⟨nq,rfl⟩;go_simp;first | done | with_reducible rfl))));simp only [Act.put,List.setIfInBounds_toArray,List.set_cons_zero,List.set_cons_succ])
    refine wpSegH_nil ?_
    refine wpAnyK_next ?_
    refine wpAnyK_phase (fun _=>True) 6 0 #[true,true,true,true,true,true,true,true,true,true,true,true,true,true,true,true,true,true] ?_
    refine wpAnyK_one 12 _ #[true,true,true,true,true,true,true,true,true,true,true,true,true,false,false,false,false,false] 5 (by kernel_rfl) (fun K hK=>?_)
    have HKK:=Lib.hid hK
    clear hK
    simp only [List.drop_succ_cons,List.drop_zero]
    refine headH_mk (by rfl) ?_
    go_simp
    refine (HS1.out _ (H3.out.step (below_dN w3 _))).mono ?_
    rintro r w4 ⟨x,rfl,h4,e4⟩
    have HR:Hid (Drew w0 b sp L D s Y R j ak (fun v=>((newTurnM Y i v.toNat).1,turnV (newTurnM Y i v.toNat))) (.returned (.tuple #[.int .i64 (if x.isSome then 5 else 6),.int .i64 (x.getD (-1))])) w4):=Lib.hid (by
     rw [← HAK.out,HV2.out,decide_eq_true H1.out]
     refine .inl ⟨(vn:Int),s',.inr ⟨2,(NP:Int),rfl,HVD.out.1,HVD.out.2.1⟩,HVD.out.2.2,?_,h4⟩
     show _ = turnV (newTurnM Y i vn)
     unfold turnV
     rw [e4])
    clear h4 e4 HS1 H3
    cases x with
    | none =>
     unfold gotv
     simp only [Option.getD_none,Option.isSome_none]
     refine HKK.out _ _ (trivial) ?_
     clear HKK K
     refine wpAnyK_seg 13 5 _ #[true,true,true,true,true,true,true,true,true,true,true,true,true,true,true,true,true,true] 0 (by kernel_rfl) noPanic_put (trivial) (by kernel_rfl) ?_
     simp only [List.take_succ_cons,List.take_zero,List.drop_succ_cons,List.drop_zero]
     repeat ((first | refine wpSegH_no (by rfl) ?_ | (refine wpSegH_yes (by rfl) ?_;apply Exists.intro;apply And.intro;(· (intro wx hS;(try dsimp only at hS);go_simp;first | done | with_reducible rfl))));simp only [Act.put,List.setIfInBounds_toArray,List.set_cons_zero,List.set_cons_succ])
     refine wpSegH_nil ?_
     refine wpAnyK_next ?_
     refine wpAnyK_done (by kernel_rfl) (NoPanic.normal ?_)
     go_wp2
     go_ret2
     exact HR.out
    | some gg =>
     unfold gotv
     simp only [Option.getD_some,Option.isSome_some]
     refine HKK.out _ _ (trivial) ?_
     clear HKK K
     refine wpAnyK_seg 13 5 _ #[true,true,true,true,true,true,true,true,true,true,true,true,true,true,true,true,true,true] 0 (by kernel_rfl) noPanic_put (trivial) (by kernel_rfl) ?_
     simp only [List.take_succ_cons,List.take_zero,List.drop_succ_cons,List.drop_zero]
     repeat ((first | refine wpSegH_no (by rfl) ?_ | (refine wpSegH_yes (by rfl) ?_;apply Exists.intro;apply And.intro;(· (intro wx hS;(try dsimp only at hS);go_simp;first | done | with_reducible rfl))));simp only [Act.put,List.setIfInBounds_toArray,List.set_cons_zero,List.set_cons_succ])
     refine wpSegH_nil ?_
     refine wpAnyK_next ?_
     refine wpAnyK_done (by kernel_rfl) (NoPanic.normal ?_)
     go_wp2
     go_ret2
     exact HR.out
   ·have HR:Hid (Drew w0 b sp L D s Y R j ak (fun v=>((newTurnM Y i v.toNat).1,turnV (newTurnM Y i v.toNat))) (.panicked ch) w3):=Lib.hid (by
     rw [← HAK.out,HV2.out,decide_eq_true H1.out]
     exact .inr ⟨ch,s',2,(NP:Int),rfl,rfl,hdp,hok,h3⟩)
    exact ⟨rfl,HR.out⟩
  ·have hNP:¬ (1:Int) < (NP:Int):=by omega
   have HR:Hid (Drew w0 b sp L D s Y R j ak (fun v=>((newTurnM Y i v.toNat).1,turnV (newTurnM Y i v.toNat))) (turnV (Y,6,-1)) w2):=Lib.hid (by
    rw [← HAK.out,HV2.out,decide_eq_false h1]
    simp only [Bool.false_eq_true,if_false]
    refine .inl ⟨0,s,.inl ⟨rfl,rfl,rfl⟩,D.less _ _ HOK.out,?_,?_⟩
    ·show turnV _ = turnV (newTurnM Y i 0);rw [HONE.out trivial h1]
    ·show SAt w0 w2 b sp L (newTurnM Y i 0).1 _;rw [HONE.out trivial h1];exact H2.out)
   clear h1 HPR HST HNO HONE HDR HV HS HC12 HC11 H2 HV2
   go_wp2
   go_ret2
   exact HR.out
def asksL (X:Sd) (m:Nat):Option (Int × Int):=if 0 < (X.m m).L ∧ (X.p (X.m m).P.toNat).q.nx.isSome then none else if asksV X (X.m m).P.toNat then some (2,(X.ps.length:Int)) else none
theorem look_in {X:Sd} {m i:Nat} {g:Int} (hi:(X.m m).P = (i:Int)) (hL:0 < (X.m m).L) (hg:(X.p i).q.nx = some g) (v:Nat):lookM X m v = ((X.setP i { X.p i with q:=⟨none,(X.p i).q.l⟩ }).setM m { X.m m with G:=g },4,g):=by
 unfold lookM
 simp only
 have hi2:(X.m m).P.toNat = i:=by rw [hi,Int.toNat_natCast]
 rw [hi2,if_pos ⟨hL,by rw [hg];rfl⟩]
 have hget:mGet (X.p i).q = (⟨none,(X.p i).q.l⟩,some g):=by unfold mGet;rw [hg]
 rw [hget];rfl
theorem look_out {X:Sd} {m i:Nat} (hi:(X.m m).P = (i:Int)) (h:¬ (0 < (X.m m).L ∧ (X.p i).q.nx.isSome)) (v:Nat):lookM X m v =
  if (newTurnM X i v).2.1 = 6 then (((newTurnM X i v).1.setP i { (newTurnM X i v).1.p i with by_:=-1 }).setM m ⟨-1,-1,0⟩,(newTurnM X i v).2)
  else (((newTurnM X i v).1.setP i { (newTurnM X i v).1.p i with tu:=((newTurnM X i v).1.p i).tu + 1 }).setM m { (newTurnM X i v).1.m m with G:=(newTurnM X i v).2.2,L:=(newTurnM X i v).1.sl },(newTurnM X i v).2):=by
 unfold lookM
 simp only
 have hi2:(X.m m).P.toNat = i:=by rw [hi,Int.toNat_natCast]
 rw [hi2,if_neg h]
theorem setM_setM (X:Sd) (m:Nat) (a c:Mm):(X.setM m a).setM m c = X.setM m c:=by unfold Sd.setM;simp
theorem setM_two {X:Sd} {m:Nat} (hm:m < X.ms.length) (g l:Int):(X.setM m { X.m m with G:=g }).setM m { (X.setM m { X.m m with G:=g }).m m with L:=l } = X.setM m { X.m m with G:=g,L:=l }:=by
 rw [setM_setM,setM_m hm,if_pos rfl]
theorem setM_all3 {X:Sd} {m:Nat} (hm:m < X.ms.length) (p g l:Int):((X.setM m { X.m m with P:=p }).setM m { (X.setM m { X.m m with P:=p }).m m with G:=g }).setM m { ((X.setM m { X.m m with P:=p }).setM m { (X.setM m { X.m m with P:=p }).m m with G:=g }).m m with L:=l } = X.setM m ⟨p,g,l⟩:=by
 have h2:m < (X.setM m { X.m m with P:=p }).ms.length:=by simpa [Sd.setM] using hm
 rw [setM_two h2,setM_setM,setM_m hm,if_pos rfl]
theorem look_any {w0 w:World} {b sp:Nat} {L:Sl} {X:Sd} {R:List Asr} {D:Drw sp} {s:D.T} {j B:Nat} (h:SAt w0 w b sp L X (D.A s ++ R)) (hok:D.ok (j + 1) s) (wf:SdWF B X) (hB:B ≤ 80000) {m:Nat} (hm:m < X.ms.length) (hP:(X.m m).P ≠ -1) (hG:(X.m m).G = -1) :
  Calls Tryz.prog 47 #[.pointer (some ⟨b,0,none⟩),.int .i64 (m:Int)] w (Drew w0 b sp L D s X R j (asksL X m) (fun v=>((lookM X m v.toNat).1,turnV (lookM X m v.toNat)))):=by
 obtain ⟨i,hPi,hi,hby⟩:=wf.at hm hP
 obtain ⟨pb,off,p,g,hpa,hld⟩:=h.pa hi
 obtain ⟨mb,off2,hma⟩:=h.ma hm
 obtain ⟨C12,c12⟩:=h.c12
 obtain ⟨C13,c13⟩:=h.c13
 obtain ⟨⟨x0,x1,x2⟩,-,-⟩:=h.proc hi hpa hld
 obtain ⟨⟨z0,z1,z2⟩,f0,f1,f2⟩:=h.mach hm hma
 rw [hpa] at c12
 rw [hma] at c13
 rw [hPi] at z0
 have hgl:=wf.gl
 have hll:=wf.ll i
 have hN:=wf.N i hi
 have htu:=wf.tu i
 have hnp:=wf.np
 have hnm:=wf.nm
 have hmL:=wf.mL m
 have hmX:(m:Int) < (X.ms.length:Int):=by omega
 have hm0:(0:Int) ≤ (m:Int):=by omega
 have hiX:(i:Int) < (X.ps.length:Int):=by omega
 have hi0:(0:Int) ≤ (i:Int):=by omega
 have eL:asksL X m = if 0 < (X.m m).L ∧ (X.p i).q.nx.isSome then none else if asksV X i then some (2,(X.ps.length:Int)) else none:=by unfold asksL;rw [hPi,Int.toNat_natCast]
 have HNX:=Lib.hid (fun (wx:World) (hx:SAt w0 wx b sp L X (D.A s ++ R))=>sd_next hx hi hld)
 have HG0:=Lib.hid (fun (wx:World) (hx:SAt w0 wx b sp L X (D.A s ++ R))=>sd_get hx hi hld)
 have HX:=Lib.hid (fun (wx:World) (hx:SAt w0 wx b sp L X (D.A s ++ R))=>(hx.proc hi hpa hld).1.1)
 have HM:=Lib.hid (fun (wx:World) (Y:Sd) (Z:List Asr) (hx:SAt w0 wx b sp L Y Z) (e:Y.ms.length = X.ms.length)=>hx.mach (i:=m) (by rw [e];exact hm) hma)
 have HPC:=Lib.hid (fun (wx:World) (Y:Sd) (Z:List Asr) (hx:SAt w0 wx b sp L Y Z) (e:Y.ps.length = X.ps.length)=>hx.proc (i:=i) (by rw [e];exact hi) hpa hld)
 have H:=Lib.hid h
 by_cases hin:0 < (X.m m).L ∧ (X.p i).q.nx.isSome
 ·obtain ⟨gg,hgg⟩:∃ g,(X.p i).q.nx = some g:=by
   cases e:(X.p i).q.nx with
   | none=>have:=hin.2;rw [e] at this;cases this
   | some g=>exact ⟨g,rfl⟩
  have hg0:gg ≠ -1:=by
   have hgm:gg ∈ X.all:=by
    obtain ⟨Rl,r1,-⟩:=all_p hi
    exact r1.mem_iff.2 (by unfold Pm.l;rw [hgg];simp)
   obtain ⟨k,e,-⟩:=(wf.mem gg).1 hgm;omega
  have hnum:(X.p i).q.num = gg:=by unfold LQ.num;rw [hgg];rfl
  have hget:mGet (X.p i).q = (⟨none,(X.p i).q.l⟩,some gg):=by unfold mGet;rw [hgg]
  have hLp:(X.m m).L > 0:=hin.1
  have hne:(gg != -1) = true:=by simpa using hg0
  rw [eL,if_pos hin]
  have hres:∀ v,lookM X m v = ((X.setP i { X.p i with q:=⟨none,(X.p i).q.l⟩ }).setM m { X.m m with G:=gg },4,gg):=fun v=>look_in hPi hin.1 hgg v
  rw [hnum] at HNX
  rw [hget] at HG0
  have HRES:=Lib.hid hres
  have HOK:=Lib.hid hok
  have HMM:=Lib.hid hm
  have HMA:=Lib.hid hma
  have hms1:(X.setP i { X.p i with q:=⟨none,(X.p i).q.l⟩ }).ms.length = X.ms.length:=rfl
  have HMS:=Lib.hid hms1
  have HG1:=Lib.hid hG
  obtain ⟨LL,hLL⟩:∃ LL,LL = (X.m m).L:=⟨_,rfl⟩
  rw [← hLL] at z2 hLp
  clear hms1 hin hnum hget hgg eL hres hok wf hm hP hG hPi hi hby hpa hld hma h hgl hll hN htu hmL hnp hnm hg0 hLL x1 x2 z1 f0 f2 HPC
  go_enter Tryz.func47,Tryz.ntmps47
  go_upto_region 2 with fail
  refine wp_region_lexK (fun wx=>∃ nq,wx = World.drewN (w) nq) 10 0 (Array.replicate 10 false) #[true,true,true,true,true,true,true,true,true,true] (by kernel_rfl) (by kernel_rfl) ?_
  refine wpAnyK_seg 0 10 _ #[true,true,true,true,true,true,true,true,true,true] 0 (by kernel_rfl) noPanic_put (drew_q w) (by kernel_rfl) ?_
  simp only [List.take_succ_cons,List.take_zero,List.drop_zero]
  repeat ((first | refine wpSegH_no (by rfl) ?_ | (refine wpSegH_yes (by rfl) ?_;apply Exists.intro;apply And.intro;(· (rintro wx ⟨nq,rfl⟩;go_simp;first | done | with_reducible rfl))));simp only [Act.put,List.setIfInBounds_toArray,List.set_cons_zero,List.set_cons_succ])
  refine wpSegH_nil ?_
  refine wpAnyK_next ?_
  refine wpAnyK_done (by kernel_rfl) (NoPanic.normal ?_)
  go_wp2_with fail
  refine (HNX.out _ (H.out.step (below_dN w _))).mono ?_
  rintro r w1 ⟨rfl,rfl⟩
  have H1:=Lib.hid (H.out.step (below_dN w 1))
  clear HNX
  go_wp2_with fail
  refine (HG0.out _ H1.out).mono ?_
  rintro r w2 ⟨rfl,h2⟩
  obtain ⟨⟨-,u1,-⟩,-,f1,-⟩:=HM.out _ _ _ h2 HMS.out
  have h3:=h2.setG (i:=m) (by rw [HMS.out];exact HMM.out) HMA.out gg
  have v1:=(h3.mach (i:=m) (by simp only [Sd.setM,Sd.setP,List.length_set];exact HMM.out) HMA.out).1.2.1
  rw [setM_m (X:=X.setP i { X.p i with q:=⟨none,(X.p i).q.l⟩ }) (by exact HMM.out),if_pos rfl] at v1
  have H3:=Lib.hid h3
  clear h2 h3 HG0 H1 HM HMS HX H HG1
  unfold gotv
  simp only [Option.getD_some,Option.isSome_some]
  go_upto_region 5 with fail
  clear u1 f1
  generalize w2.setCell ⟨mb,off2 + m * 3 + 1,none⟩ (.int .i64 gg) = w3 at *
  refine wp_region_lexK (fun wx=>∃ nq,wx = World.drewN (w3) nq) 6 0 (Array.replicate 6 false) #[true,true,true,true,true,true] (by kernel_rfl) (by kernel_rfl) ?_
  refine wpAnyK_seg 0 6 _ #[true,true,true,true,true,true] 0 (by kernel_rfl) noPanic_put (drew_q w3) (by kernel_rfl) ?_
  simp only [List.take_succ_cons,List.take_zero,List.drop_zero]
  repeat ((first | refine wpSegH_no (by rfl) ?_ | (refine wpSegH_yes (by rfl) ?_;apply Exists.intro;apply And.intro;(· (rintro wx ⟨nq,rfl⟩;go_simp;first | done | with_reducible rfl))));simp only [Act.put,List.setIfInBounds_toArray,List.set_cons_zero,List.set_cons_succ])
  refine wpSegH_nil ?_
  refine wpAnyK_next ?_
  refine wpAnyK_done (by kernel_rfl) (NoPanic.normal ?_)
  have HR:Hid (Drew w0 b sp L D s X R j none (fun v=>((lookM X m v.toNat).1,turnV (lookM X m v.toNat))) (.returned (.tuple #[.int .i64 4,.int .i64 gg])) (w3.drewN 1)):=Lib.hid (by
   refine .inl ⟨0,s,.inl ⟨rfl,rfl,rfl⟩,D.less _ _ HOK.out,?_,?_⟩
   ·show _ = turnV (lookM X m (Int.toNat 0));rw [HRES.out];rfl
   ·show SAt w0 _ b sp L (lookM X m (Int.toNat 0)).1 _;rw [HRES.out];exact H3.out.step (below_dN w3 1))
  clear H3 HRES
  go_wp2
  go_ret2
  exact HR.out
 ·rw [eL,if_neg hin]
  have HNEW:=Lib.hid (fun (wx:World) (hx:SAt w0 wx b sp L X (D.A s ++ R))=>newTurn_any hx hok hi hpa (by omega) (by omega) (by omega) (by omega))
  have HQ:=Lib.hid (fun (v:Nat) (hv:v < X.ps.length)=>(qs_new hi hv).1)
  have HRES:=Lib.hid (fun v=>look_out hPi hin v)
  have HFV:Hid (∀ v s',Fit D s (if asksV X i then some ((2:Int),(X.ps.length:Int)) else none) v s' → v.toNat < X.ps.length):=Lib.hid (fun v s' hv=>by
   rcases hv with ⟨-,rfl,-⟩ | ⟨k,n,e,hv,-⟩
   ·simp;omega
   ·split at e
    ·cases e;omega
    ·cases e)
  have HMM:=Lib.hid hm
  have HMA:=Lib.hid hma
  have HPA:=Lib.hid hpa
  have HI:=Lib.hid hi
  have hnum:∀ wx,SAt w0 wx b sp L X (D.A s ++ R) → (X.m m).L > 0 → Calls Tryz.prog 55 #[.pointer (some ⟨p,0,none⟩)] wx fun r w'=>r = .returned (.int .i64 (-1)) ∧ w' = wx:=fun wx hx hL=>by
   have e:(X.p i).q.num = -1:=by
    unfold LQ.num
    cases e:(X.p i).q.nx with
    | none=>rfl
    | some g=>exact absurd ⟨hL,by rw [e];rfl⟩ hin
   have:=HNX.out wx hx
   rw [e] at this;exact this
  have HNUM:=Lib.hid hnum
  have HTU:Hid (∀ v,v < X.ps.length → ((newTurnM X i v).1.p i).tu ≤ 80000):=Lib.hid (fun v hv=>by rw [((qs_new hi hv).1.p i).2.2];omega)
  have HG1:=Lib.hid hG
  generalize hak:(if asksV X i then some ((2:Int),(X.ps.length:Int)) else none) = ak at *
  obtain ⟨LL,hLL⟩:∃ LL,LL = (X.m m).L:=⟨_,rfl⟩
  rw [← hLL] at z2 HNUM
  clear hnum hin eL hok wf hm hP hG hPi hi hby hpa hld hma h hgl hll hN htu hmL hnp hnm hLL x1 x2 z1 f0 f1 f2 HNX HG0 hak
  go_enter Tryz.func47,Tryz.ntmps47
  go_upto_region 2 with fail
  refine wp_region_lexK (fun wx=>∃ nq,wx = World.drewN (w) nq) 10 0 (Array.replicate 10 false) #[true,true,true,true,true,true,true,true,true,true] (by kernel_rfl) (by kernel_rfl) ?_
  refine wpAnyK_seg 0 10 _ #[true,true,true,true,true,true,true,true,true,true] 0 (by kernel_rfl) noPanic_put (drew_q w) (by kernel_rfl) ?_
  simp only [List.take_succ_cons,List.take_zero,List.drop_zero]
  repeat ((first | refine wpSegH_no (by rfl) ?_ | (refine wpSegH_yes (by rfl) ?_;apply Exists.intro;apply And.intro;(· (rintro wx ⟨nq,rfl⟩;go_simp;first | done | with_reducible rfl))));simp only [Act.put,List.setIfInBounds_toArray,List.set_cons_zero,List.set_cons_succ])
  refine wpSegH_nil ?_
  refine wpAnyK_next ?_
  refine wpAnyK_done (by kernel_rfl) (NoPanic.normal ?_)
  have H1:=Lib.hid (H.out.step (below_drew1 w))
  by_cases hLp:LL > 0
  ·go_wp2_with fail
   refine (HNUM.out _ H1.out hLp).mono ?_
   rintro r w1 ⟨rfl,rfl⟩
   go_wp2_with fail
   refine (HNEW.out _ H1.out).mono ?_
   rintro r w2 hp
   rcases hp with ⟨v,s',hfit,hok,rfl,h2⟩ | ⟨ch,s',k,n,rfl,hk,hdp,hok,h2⟩
   ·have hv:=HFV.out v s' hfit
    have q:=HQ.out v.toNat hv
    have hres:=HRES.out v.toNat
    have htu2:=HTU.out v.toNat hv
    have HFIT:=Lib.hid (And.intro hfit hok)
    clear hfit hok HNEW HFV HQ HRES HTU HNUM
    unfold turnV at h2 ⊢
    simp only at h2 ⊢
    generalize newTurnM X i v.toNat = N at *
    obtain ⟨Y,kd,gg⟩:=N
    simp only at q htu2 h2 hres ⊢
    have hml:m < Y.ms.length:=by rw [q.ms];exact HMM.out
    have hil:i < Y.ps.length:=by rw [q.len];exact HI.out
    obtain ⟨⟨u0,u1,u2⟩,f0,f1,f2⟩:=h2.mach hml HMA.out
    obtain ⟨_,_,p',g',-,hld'⟩:=h2.pa hil
    obtain ⟨⟨-,y1,y2⟩,e1,e2⟩:=h2.proc hil HPA.out hld'
    have HQQ:=Lib.hid q
    by_cases h6:kd = 6
    ·subst h6
     rw [if_pos rfl] at hres
     have h3:=h2.setBy hil HPA.out (-1)
     have h4:=h3.setP (i:=m) hml HMA.out (-1)
     have h5:=h4.setG (i:=m) (by simpa [Sd.setM,Sd.setP] using hml) HMA.out (-1)
     have h6:=h5.setL (i:=m) (by simpa [Sd.setM,Sd.setP] using hml) HMA.out 0
     have HR:=Lib.hid (And.intro hres h6)
     obtain ⟨⟨a0,a1,a2⟩,b0,b1,b2⟩:=h3.mach (i:=m) hml HMA.out
     clear h2 h3 h4 h5 h6 hres q hld' htu2
     go_upto_region 9 with fail
     generalize w2.setCell ⟨pb,off + i * 3 + 2,none⟩ (.int .i64 (-1)) = w3 at *
     clear u0 u1 u2 f0 f1 f2 y1 y2 e1 e2
     have HRR:Hid (Drew w0 b sp L D s X R j ak (fun v=>((lookM X m v.toNat).1,turnV (lookM X m v.toNat))) (.returned (.tuple #[.int .i64 6,.int .i64 gg])) (((w3.setCell ⟨mb,off2 + m * 3,none⟩ (.int .i64 (-1))).setCell ⟨mb,off2 + m * 3 + 1,none⟩ (.int .i64 (-1))).setCell ⟨mb,off2 + m * 3 + 2,none⟩ (.int .i64 0))):=Lib.hid (by
      obtain ⟨r1,r2⟩:=HR.out
      refine .inl ⟨v,s',HFIT.out.1,HFIT.out.2,?_,?_⟩
      ·simp only;rw [r1];rfl
      ·simp only;rw [r1];simp only
       rw [← setM_all3 (X:=Y.setP i { Y.p i with by_:=-1 }) (by exact hml)];exact r2)
     clear HR
     go_wp2
     go_ret2
     exact HRR.out
    ·rw [if_neg h6] at hres
     have hk6:(kd == 6) = false:=by simpa using h6
     have hwr:IntKind.i64.wrap (((Y.p i).tu:Int) + 1) = ((Y.p i).tu:Int) + 1:=by rw [IntKind.wrap_i64];omega
     have h3:=h2.setTu hil HPA.out ((Y.p i).tu + 1)
     rw [show (((Y.p i).tu + 1:Nat):Int) = ((Y.p i).tu:Int) + 1 by omega] at h3
     have h4:=h3.setG (i:=m) hml HMA.out gg
     have h5:=h4.setL (i:=m) (by simpa [Sd.setM,Sd.setP] using hml) HMA.out Y.sl
     have HR:=Lib.hid (And.intro hres h5)
     obtain ⟨⟨-,a1,a2⟩,-,b1,b2⟩:=h3.mach (i:=m) hml HMA.out
     have c15:=h3.c15
     clear h2 h4 h5 hres q hld' htu2 h6
     go_upto_region 12 with fail
     generalize w2.setCell ⟨pb,off + i * 3 + 1,none⟩ (.int .i64 (((Y.p i).tu:Int) + 1)) = w3 at *
     clear u0 u1 u2 f0 f1 f2 y1 y2 e1 e2 h3
     have HRR:Hid (Drew w0 b sp L D s X R j ak (fun v=>((lookM X m v.toNat).1,turnV (lookM X m v.toNat))) (.returned (.tuple #[.int .i64 kd,.int .i64 gg])) ((w3.setCell ⟨mb,off2 + m * 3 + 1,none⟩ (.int .i64 gg)).setCell ⟨mb,off2 + m * 3 + 2,none⟩ (.int .i64 Y.sl))):=Lib.hid (by
      obtain ⟨r1,r2⟩:=HR.out
      refine .inl ⟨v,s',HFIT.out.1,HFIT.out.2,?_,?_⟩
      ·simp only;rw [r1];rfl
      ·simp only;rw [r1];simp only
       rw [show ({ Y.m m with G:=gg,L:=Y.sl }:Mm) = { (Y.setP i { Y.p i with tu:=(Y.p i).tu + 1 }).m m with G:=gg,L:=Y.sl } from rfl,← setM_two (X:=Y.setP i { Y.p i with tu:=(Y.p i).tu + 1 }) (by exact hml)];exact r2)
     have hsl:(Y.setP i { Y.p i with tu:=(Y.p i).tu + 1 }).sl = Y.sl:=rfl
     rw [hsl] at c15
     clear HR hsl
     generalize Y.sl = ysl at *
     go_wp2
     go_ret2
     exact HRR.out
   ·have HR:Hid (Drew w0 b sp L D s X R j ak (fun v=>((lookM X m v.toNat).1,turnV (lookM X m v.toNat))) (.panicked ch) w2):=Lib.hid (.inr ⟨ch,s',k,n,rfl,hk,hdp,hok,h2⟩)
    exact ⟨rfl,HR.out⟩
  ·have hLn:¬ LL > 0:=hLp
   go_wp2_with fail
   refine (HNEW.out _ H1.out).mono ?_
   rintro r w2 hp
   rcases hp with ⟨v,s',hfit,hok,rfl,h2⟩ | ⟨ch,s',k,n,rfl,hk,hdp,hok,h2⟩
   ·have hv:=HFV.out v s' hfit
    have q:=HQ.out v.toNat hv
    have hres:=HRES.out v.toNat
    have htu2:=HTU.out v.toNat hv
    have HFIT:=Lib.hid (And.intro hfit hok)
    clear hfit hok HNEW HFV HQ HRES HTU HNUM
    unfold turnV at h2 ⊢
    simp only at h2 ⊢
    generalize newTurnM X i v.toNat = N at *
    obtain ⟨Y,kd,gg⟩:=N
    simp only at q htu2 h2 hres ⊢
    have hml:m < Y.ms.length:=by rw [q.ms];exact HMM.out
    have hil:i < Y.ps.length:=by rw [q.len];exact HI.out
    obtain ⟨⟨u0,u1,u2⟩,f0,f1,f2⟩:=h2.mach hml HMA.out
    obtain ⟨_,_,p',g',-,hld'⟩:=h2.pa hil
    obtain ⟨⟨-,y1,y2⟩,e1,e2⟩:=h2.proc hil HPA.out hld'
    have HQQ:=Lib.hid q
    by_cases h6:kd = 6
    ·subst h6
     rw [if_pos rfl] at hres
     have h3:=h2.setBy hil HPA.out (-1)
     have h4:=h3.setP (i:=m) hml HMA.out (-1)
     have h5:=h4.setG (i:=m) (by simpa [Sd.setM,Sd.setP] using hml) HMA.out (-1)
     have h6:=h5.setL (i:=m) (by simpa [Sd.setM,Sd.setP] using hml) HMA.out 0
     have HR:=Lib.hid (And.intro hres h6)
     obtain ⟨⟨a0,a1,a2⟩,b0,b1,b2⟩:=h3.mach (i:=m) hml HMA.out
     clear h2 h3 h4 h5 h6 hres q hld' htu2
     go_upto_region 9 with fail
     generalize w2.setCell ⟨pb,off + i * 3 + 2,none⟩ (.int .i64 (-1)) = w3 at *
     clear u0 u1 u2 f0 f1 f2 y1 y2 e1 e2
     have HRR:Hid (Drew w0 b sp L D s X R j ak (fun v=>((lookM X m v.toNat).1,turnV (lookM X m v.toNat))) (.returned (.tuple #[.int .i64 6,.int .i64 gg])) (((w3.setCell ⟨mb,off2 + m * 3,none⟩ (.int .i64 (-1))).setCell ⟨mb,off2 + m * 3 + 1,none⟩ (.int .i64 (-1))).setCell ⟨mb,off2 + m * 3 + 2,none⟩ (.int .i64 0))):=Lib.hid (by
      obtain ⟨r1,r2⟩:=HR.out
      refine .inl ⟨v,s',HFIT.out.1,HFIT.out.2,?_,?_⟩
      ·simp only;rw [r1];rfl
      ·simp only;rw [r1];simp only
       rw [← setM_all3 (X:=Y.setP i { Y.p i with by_:=-1 }) (by exact hml)];exact r2)
     clear HR
     go_wp2
     go_ret2
     exact HRR.out
    ·rw [if_neg h6] at hres
     have hk6:(kd == 6) = false:=by simpa using h6
     have hwr:IntKind.i64.wrap (((Y.p i).tu:Int) + 1) = ((Y.p i).tu:Int) + 1:=by rw [IntKind.wrap_i64];omega
     have h3:=h2.setTu hil HPA.out ((Y.p i).tu + 1)
     rw [show (((Y.p i).tu + 1:Nat):Int) = ((Y.p i).tu:Int) + 1 by omega] at h3
     have h4:=h3.setG (i:=m) hml HMA.out gg
     have h5:=h4.setL (i:=m) (by simpa [Sd.setM,Sd.setP] using hml) HMA.out Y.sl
     have HR:=Lib.hid (And.intro hres h5)
     obtain ⟨⟨-,a1,a2⟩,-,b1,b2⟩:=h3.mach (i:=m) hml HMA.out
     have c15:=h3.c15
     clear h2 h4 h5 hres q hld' htu2 h6
     go_upto_region 12 with fail
     generalize w2.setCell ⟨pb,off + i * 3 + 1,none⟩ (.int .i64 (((Y.p i).tu:Int) + 1)) = w3 at *
     clear u0 u1 u2 f0 f1 f2 y1 y2 e1 e2 h3
     have HRR:Hid (Drew w0 b sp L D s X R j ak (fun v=>((lookM X m v.toNat).1,turnV (lookM X m v.toNat))) (.returned (.tuple #[.int .i64 kd,.int .i64 gg])) ((w3.setCell ⟨mb,off2 + m * 3 + 1,none⟩ (.int .i64 gg)).setCell ⟨mb,off2 + m * 3 + 2,none⟩ (.int .i64 Y.sl))):=Lib.hid (by
      obtain ⟨r1,r2⟩:=HR.out
      refine .inl ⟨v,s',HFIT.out.1,HFIT.out.2,?_,?_⟩
      ·simp only;rw [r1];rfl
      ·simp only;rw [r1];simp only
       rw [show ({ Y.m m with G:=gg,L:=Y.sl }:Mm) = { (Y.setP i { Y.p i with tu:=(Y.p i).tu + 1 }).m m with G:=gg,L:=Y.sl } from rfl,← setM_two (X:=Y.setP i { Y.p i with tu:=(Y.p i).tu + 1 }) (by exact hml)];exact r2)
     have hsl:(Y.setP i { Y.p i with tu:=(Y.p i).tu + 1 }).sl = Y.sl:=rfl
     rw [hsl] at c15
     clear HR hsl
     generalize Y.sl = ysl at *
     go_wp2
     go_ret2
     exact HRR.out
   ·have HR:Hid (Drew w0 b sp L D s X R j ak (fun v=>((lookM X m v.toNat).1,turnV (lookM X m v.toNat))) (.panicked ch) w2):=Lib.hid (.inr ⟨ch,s',k,n,rfl,hk,hdp,hok,h2⟩)
    exact ⟨rfl,HR.out⟩
theorem Own.join {w0 w w':World} {As:List Asr} {A:Asr} (h:Own w0 w As) (k:Own w w' [A]):Own w0 w' (A :: As):=by
 obtain ⟨F,h1,h2⟩:=k.head
 exact h.add k.bel h1 h2
theorem DAt.tail {w0 w:World} {p:Nat} {T:List Value} {d:Dq} {W:Wd} {Z R:List Asr} (h:DAt w0 w p T d W [] (Z ++ R)) :
  ∃ S,Own w0 w (R ++ S) ∧ ∀ w' R',Own w0 w' (R' ++ S) → DAt w0 w' p T d W [] (Z ++ R'):=by
 obtain ⟨D,ra,rc,hf,ho⟩:=h
 refine ⟨wparts p W D T ++ (CelA d.q (dcells p (d.g:Int) d.x d.th d.dr d.go ra ([]:List Int).length rc) :: RowGA 1 ra rc ([]:List Int).length (intc []) :: Z),ho.perm ?_,fun w' R' h'=>⟨D,ra,rc,hf,h'.perm ?_⟩⟩
 ·have:=(List.perm_append_comm (l₁:=wparts p W D T ++ (CelA d.q (dcells p (d.g:Int) d.x d.th d.dr d.go ra ([]:List Int).length rc) :: RowGA 1 ra rc ([]:List Int).length (intc []) :: Z)) (l₂:=R))
  simpa [List.append_assoc] using this
 ·have:=(List.perm_append_comm (l₁:=R') (l₂:=wparts p W D T ++ (CelA d.q (dcells p (d.g:Int) d.x d.th d.dr d.go ra ([]:List Int).length rc) :: RowGA 1 ra rc ([]:List Int).length (intc []) :: Z)))
  simpa [List.append_assoc] using this
theorem wokeM_snoc:∀ (l:List It) (W:Wd) (x:It),wokeM W (l ++ [x]) = (wokeM W l).setSt x.id.toNat 1
 | [],W,x=>rfl
 | y :: t,W,x=>wokeM_snoc t (W.setSt y.id.toNat 1) x
theorem wokeM_len:∀ (l:List It) (W:Wd),(wokeM W l).gs.length = W.gs.length
 | [],W=>rfl
 | y :: t,W=>by rw [wokeM,wokeM_len t,setSt_len]
theorem wokeM_fits {D:Wa}:∀ (l:List It) (W:Wd),D.fits W → D.fits (wokeM W l)
 | [],W,h=>h
 | y :: t,W,h=>wokeM_fits t _ (h.setG _ _)
theorem ids_snoc (l:List It) (i:Nat) (h:i < l.length):intc ((l.take (i + 1)).map (·.id)) = intc ((l.take i).map (·.id)) ++ [.int .i64 (gI l i).id]:=by
 rw [List.take_succ_eq_append_getElem h,List.map_append,gI_of h]
 unfold intc;rw [List.map_append];rfl
theorem wtick_any {w0 w:World} {p:Nat} {T:List Value} {W:Wd} {D:Wa} {R:List Asr} (h:Own w0 w (wparts p W D T ++ R)) (hf:D.fits W) (hen:W.en = 0) (hl:W.hp.length ≤ 100000) (hc:W.clock ≤ 100000) (hid:∀ x ∈ W.hp,0 ≤ x.id ∧ x.id < (W.gs.length:Int)) :
  Calls Tryz.prog 54 #[.pointer (some ⟨p,0,none⟩)] w fun r w'=>∃ ra rc D',r = .returned (.slice ra (tickM W).2.length rc) ∧ D'.fits (tickM W).1 ∧ Own w0 w' (RowGA 1 ra rc (tickM W).2.length (intc (tickM W).2) :: (wparts p (tickM W).1 D' T ++ R)):=by
 have et:tickM W = (wokeM { W with clock:=W.clock + 1,hp:=(wakes W.hp ((W.clock:Int) + 1)).2 } (wakes W.hp ((W.clock:Int) + 1)).1,(wakes W.hp ((W.clock:Int) + 1)).1.map (·.id)):=by
  unfold tickM;rw [if_pos hen]
 rw [et]
 obtain ⟨L,hL⟩:∃ L,L = (wakes W.hp ((W.clock:Int) + 1)).1:=⟨_,rfl⟩
 obtain ⟨M,hM⟩:∃ M,M = (wakes W.hp ((W.clock:Int) + 1)).2:=⟨_,rfl⟩
 have hperm:=(wakes_perm _ W.hp ((W.clock:Int) + 1) (Nat.le_refl _)).1
 rw [← hL,← hM] at hperm
 have hlen:=hperm.length_eq
 rw [List.length_append] at hlen
 have hLl:L.length ≤ 100000:=by omega
 have hLid:∀ x ∈ L,0 ≤ x.id ∧ x.id < (W.gs.length:Int):=fun x hx=>hid x (hperm.mem_iff.1 (List.mem_append.2 (.inl hx)))
 have p9:=(h.cel 0 rfl 9 _ rfl).1
 rw [hen] at p9
 have p7:=h.cel 0 rfl 7 _ rfl
 obtain ⟨p7,q7⟩:=p7
 have o1:Own w0 (w.setCell ⟨p,7,none⟩ (.int .u64 ((W.clock:Int) + 1))) (wparts p { W with clock:=W.clock + 1 } D T ++ R):=h.setAt 0 rfl 7 _
 have HW:=Lib.hid (fun (wx:World) (hx:Own w0 wx (wparts p { W with clock:=W.clock + 1 } D T ++ R))=>wake_w hx ((W.clock:Int) + 1) hl)
 simp only at HW
 rw [← hL,← hM] at HW
 rw [← hL,← hM]
 have HF:Hid (D.fits { W with clock:=W.clock + 1,hp:=M }):=Lib.hid ⟨hf.f,hf.g,hf.c,hf.n,hf.l,hf.k⟩
 have HID:=Lib.hid hLid
 have H1:=Lib.hid o1
 generalize hN:L.length = N at *
 have HN:=Lib.hid hN
 obtain ⟨i0,hi0,hz0,hz1,hz2⟩:=info_parts info_int
 have Hi:=Lib.hid hi0;clear hi0
 have Hz0:=Lib.hid hz0;clear hz0
 have Hz1:=Lib.hid hz1;clear hz1
 have Hz2:=Lib.hid hz2;clear hz2
 generalize hrr:(wokeM { W with clock:=W.clock + 1,hp:=M } L,L.map fun x=>x.id) = rr
 have HRR:=Lib.hid hrr
 clear h hf hen hid et hL hM hperm hlen hLid o1 hN hrr
 go_enter Tryz.func54,Tryz.ntmps54
 go_upto_region 5 with fail
 generalize w.setCell ⟨p,7,none⟩ (.int .u64 ((W.clock:Int) + 1)) = w1 at *
 clear p7 q7 p9
 have x7:w1.cell? ⟨p,7,none⟩ = some (.int .u64 ((W.clock:Int) + 1)):=(H1.out.cel 0 rfl 7 _ rfl).1
 have HWX:=Lib.hid (HW.out _ (H1.out.step (below_dN w1 1)))
 have HB:Hid (∀ wx,Below w1.heap.size w1 wx → wx.cell? ⟨p,7,none⟩ = some (.int .u64 ((W.clock:Int) + 1))):=Lib.hid (fun wx hb=>cell_below x7 hb)
 refine wp_region_lexK (fun wx=>wx.cell? ⟨p,7,none⟩ = some (.int .u64 ((W.clock:Int) + 1))) 10 0 (Array.replicate 10 false) #[true,true,true,true,true,true,true,true,true,true] (by kernel_rfl) (by kernel_rfl) ?_
 refine wpAnyK_seg 0 7 _ #[true,true,true,true,true,true,true,false,false,false] 3 (by kernel_rfl) noPanic_put (HB.out _ (below_dN w1 1)) (by kernel_rfl) ?_
 simp only [List.take_succ_cons,List.take_zero,List.drop_zero]
 repeat ((first | refine wpSegH_no (by rfl) ?_ | (refine wpSegH_yes (by rfl) ?_;apply Exists.intro;apply And.intro;(· (intro wx hS;(try dsimp only at hS);go_simp;first | done | with_reducible rfl))));simp only [Act.put,List.setIfInBounds_toArray,List.set_cons_zero,List.set_cons_succ])
 refine wpSegH_nil ?_
 refine wpAnyK_seg 9 1 _ #[true,true,true,true,true,true,true,false,false,true] 2 (by kernel_rfl) noPanic_put (HB.out _ (below_dN w1 1)) (by kernel_rfl) ?_
 simp only [List.take_succ_cons,List.take_zero,List.drop_succ_cons,List.drop_zero]
 repeat ((first | refine wpSegH_no (by rfl) ?_ | (refine wpSegH_yes (by rfl) ?_;apply Exists.intro;apply And.intro;(· (intro wx hS;(try dsimp only at hS);go_simp;first | done | with_reducible rfl))));simp only [Act.put,List.setIfInBounds_toArray,List.set_cons_zero,List.set_cons_succ])
 refine wpSegH_nil ?_
 refine wpAnyK_one 7 _ #[true,true,true,true,true,true,true,true,false,true] 1 (by kernel_rfl) (fun K hK=>?_)
 have HKK:=Lib.hid hK
 clear hK
 simp only [List.drop_succ_cons,List.drop_zero]
 refine headH_mk (by rfl) ?_
 go_simp
 refine HWX.out.mono ?_
 rintro r w2 ⟨v5,sv',rfl,ho⟩
 obtain ⟨Fi,⟨-,hit⟩,-⟩:=ho.head
 have x8:w2.cell? ⟨p,7,none⟩ = some (.int .u64 ((W.clock:Int) + 1)):=(ho.cel 1 rfl 7 _ rfl).1
 obtain ⟨a5,c5,hv5,hc5⟩:=hit.slice
 rw [HN.out] at hv5 hc5
 subst hv5
 refine HKK.out _ _ (x8) ?_
 clear HKK K
 refine wpAnyK_seg 8 1 _ #[true,true,true,true,true,true,true,true,true,true] 0 (by kernel_rfl) noPanic_put (x8) (by kernel_rfl) ?_
 simp only [List.take_succ_cons,List.take_zero,List.drop_succ_cons,List.drop_zero]
 repeat ((first | refine wpSegH_no (by rfl) ?_ | (refine wpSegH_yes (by rfl) ?_;apply Exists.intro;apply And.intro;(· (intro wx hS;(try dsimp only at hS);go_simp;first | done | with_reducible rfl))));simp only [Act.put,List.setIfInBounds_toArray,List.set_cons_zero,List.set_cons_succ])
 refine wpSegH_nil ?_
 refine wpAnyK_next ?_
 refine wpAnyK_done (by kernel_rfl) (NoPanic.normal ?_)
 have H2:Hid (Own w0 w2 (wparts p { W with clock:=W.clock + 1,hp:=M } { D with sv:=sv' } T ++ (RowGA 1 none 0 0 [] :: ItemsA (.slice a5 N c5) L :: R))):=Lib.hid (((ho.perm List.perm_middle.symm).rowNil0 1).perm List.perm_middle.symm)
 have HF2:Hid (({ D with sv:=sv' }:Wa).fits { W with clock:=W.clock + 1,hp:=M }):=Lib.hid ⟨HF.out.f,HF.out.g,HF.out.c,HF.out.n,HF.out.l,HF.out.k⟩
 obtain ⟨D2,hD2⟩:∃ D2:Wa,D2 = { D with sv:=sv' }:=⟨_,rfl⟩
 obtain ⟨W2,hW2⟩:∃ W2:Wd,W2 = { W with clock:=W.clock + 1,hp:=M }:=⟨_,rfl⟩
 have hg2:W2.gs.length = W.gs.length:=by rw [hW2]
 rw [← hD2,← hW2] at H2 HF2
 have HRR2:Hid ((wokeM W2 L,L.map fun x=>x.id) = rr):=Lib.hid (by rw [hW2];exact HRR.out)
 clear HRR
 have HG2:=Lib.hid hg2
 clear ho hit x8 x7 HWX HW hD2 hW2 HF HB hg2
 go_wp2_with fail
 go_loopw [3,27] (fun sv iv wr=>∃ i:Nat,∃ ra rc,i ≤ N ∧ iv = .int .i64 i ∧ sv = .slice ra i rc ∧ Hid (Own w0 wr (wparts p (wokeM W2 (L.take i)) D2 T ++ (RowGA 1 ra rc i (intc ((L.take i).map (·.id))) :: ItemsA (.slice a5 N c5) L :: R)))) (fun _ iv _=>N - (intOf iv).toNat)
 case atStart=>exact ⟨0,none,0,by omega,rfl,rfl,H2⟩
 case round =>
  obtain ⟨i,ra,rc,hi,rfl,rfl,hr⟩:=hrel
  clear H2
  by_cases hlt:i < N
  ·have hil:i < L.length:=by rw [HN.out];exact hlt
   have hli:(i:Int) < (N:Int):=by omega
   have hi0:(0:Int) ≤ (i:Int):=by omega
   obtain ⟨Fi,⟨-,hit⟩,-⟩:=hr.out.fact 11 rfl
   obtain ⟨g5,cap5,hv5,hcap5⟩:=hit.form (by omega)
   rw [HN.out] at hv5
   simp only [Value.slice.injEq] at hv5
   obtain ⟨rfl,-,rfl⟩:=hv5
   obtain ⟨y0,y1,y2⟩:=hit.cell i hil
   have hidx:=HID.out (gI L i) (by rw [gI_of hil];exact List.getElem_mem _)
   have hsn:=ids_snoc L i hil
   obtain ⟨ids,hids⟩:∃ ids,ids = intc ((L.take i).map (·.id)):=⟨_,rfl⟩
   rw [← hids] at hsn hr
   clear hids
   have htk:L.take (i + 1) = L.take i ++ [gI L i]:=by rw [List.take_succ_eq_append_getElem hil,gI_of hil]
   have hwk:wokeM W2 (L.take (i + 1)) = (wokeM W2 (L.take i)).setSt (gI L i).id.toNat 1:=by rw [htk,wokeM_snoc]
   have hgl:(wokeM W2 (L.take i)).gs.length = W2.gs.length:=wokeM_len _ _
   have HWK:=Lib.hid hwk
   have HSN:=Lib.hid hsn
   have HFI:=Lib.hid (wokeM_fits (L.take i) _ HF2.out)
   obtain ⟨W3,hW3⟩:∃ W3,W3 = wokeM W2 (L.take i):=⟨_,rfl⟩
   rw [← hW3] at hr HWK HFI hgl
   generalize gI L i = x at *
   obtain ⟨xa,xs,xi⟩:=x
   simp only at y0 y1 y2 hidx HWK HSN
   obtain ⟨k,rfl⟩:∃ k:Nat,xi = (k:Int):=⟨xi.toNat,by omega⟩
   have hk:k < W3.gs.length:=by have:=HG2.out;omega
   have oA:=hr.out.step (below_alloc1 wr (.cells #[.int .u64 xa,.int .u64 xs,.int .i64 (k:Int)] 167))
   have hbx:=CellsAt.new wr [.int .u64 xa,.int .u64 xs,.int .i64 (k:Int)] 167 rfl
   have HA:=Lib.hid (hr.out.alloc [.int .u64 xa,.int .u64 xs,.int .i64 (k:Int)] 167 (b:=wr.heap.size) rfl)
   clear hit hsn htk hwk hW3 hr oA hbx hil hgl
   go_upto_region 8 with fail
   generalize wr.alloc (.cells #[.int .u64 xa,.int .u64 xs,.int .i64 (k:Int)] 167) = wA at *
   generalize wr.heap.size = bx at *
   have oB:Own w0 wA (wparts p W3 D2 T ++ (CelA bx [.int .u64 xa,.int .u64 xs,.int .i64 (k:Int)] :: RowGA 1 ra rc i ids :: ItemsA (.slice (some ⟨g5,0,none⟩) N c5) L :: R)):=HA.out.perm List.perm_middle.symm
   obtain ⟨s,cap,hs⟩:=HFI.out.sk_at hk
   obtain ⟨b,off,haa,st0,st1,-,-⟩:=all_at oB hk hs
   have p2:wA.cell? ⟨p,2,none⟩ = some (.slice (some ⟨b,off,none⟩) W3.gs.length D2.ac):=by rw [← haa];exact (oB.cel 0 rfl 2 _ rfl).1
   obtain ⟨x2,-⟩:=oB.cel 10 rfl 2 _ rfl
   have HB9:Hid (Own w0 ((wA.setCell ⟨b,off + k * 2,none⟩ (.int .i64 1)).drew) (wparts p (W3.setSt k 1) D2 T ++ (CelA bx [.int .u64 xa,.int .u64 xs,.int .i64 (k:Int)] :: RowGA 1 ra rc i ids :: ItemsA (.slice (some ⟨g5,0,none⟩) N c5) L :: R))):=Lib.hid ((own_st oB HFI.out hk haa 1).step (below_drew1 _))
   have hkl:(k:Int) < (W3.gs.length:Int):=by omega
   have hk0:(0:Int) ≤ (k:Int):=by omega
   generalize W3.gs.length = G3 at *
   clear oB haa hs HA
   refine wp_region_lexK (fun wx=>∃ nq,wx = World.drewN (wA) nq) 8 1 (Array.replicate 9 false) #[true,true,true,true,true,true,true,true,false] (by kernel_rfl) (by kernel_rfl) ?_
   refine wpAnyK_seg 0 8 _ #[true,true,true,true,true,true,true,true,false] 0 (by kernel_rfl) noPanic_put (drew_q wA) (by kernel_rfl) ?_
   simp only [List.take_succ_cons,List.take_zero,List.drop_zero]
   repeat ((first | refine wpSegH_no (by rfl) ?_ | (refine wpSegH_yes (by rfl) ?_;apply Exists.intro;apply And.intro;(· (rintro wx ⟨nq,rfl⟩;go_simp;first | done | with_reducible rfl))));simp only [Act.put,List.setIfInBounds_toArray,List.set_cons_zero,List.set_cons_succ])
   refine wpSegH_nil ?_
   refine wpAnyK_next ?_
   refine wpAnyK_seq 8 (by kernel_rfl) ?_
   simp only [List.drop_succ_cons,List.drop_zero]
   go_wp2_with fail
   refine NoPanic.normal ?_
   have H9:=HB9
   clear HB9 st0 st1 p2 x2
   go_upto_region 9 with fail
   generalize (wA.setCell ⟨b,off + k * 2,none⟩ (.int .i64 1)).drew = wB at *
   obtain ⟨x2,-⟩:=H9.out.cel 10 rfl 2 _ rfl
   have HC:=Lib.hid (H9.out.step (below_alloc1 wB (.cells #[.int .i64 (k:Int)] 3)))
   clear H9
   go_wp2_with (at_builtin;go_loud (refine wpList_append_rowG rfl _ _ 22 rfl 3 i0 _ Tryz.underlying22 Hi.out Hz0.out Hz1.out Hz2.out rfl (by decide) (by decide) (n:=i) (m:=1) (cs:=ids) (ds:=[.int .i64 (k:Int)]) (by rfl) (by rfl) (HC.out.rowG 11 rfl) (CellsAt.new _ [.int .i64 (k:Int)] _ rfl) rfl (by simp [Value.oneCell']) (by omega) ?_))
   intro a9 c9 w9 k9 ch9 f9
   have o9:=Own.rowTurn (HC.out.pick 11 rfl) k9 ch9 (fun x hx=>by simpa using f9 x hx)
   have HE:Hid (Own w0 w9 (wparts p (wokeM W2 (L.take (i + 1))) D2 T ++ (RowGA 1 a9 c9 (i + 1) (intc ((L.take (i + 1)).map (·.id))) :: ItemsA (.slice (some ⟨g5,0,none⟩) N c5) L :: R))):=Lib.hid (by
    rw [HWK.out,HSN.out,Int.toNat_natCast]
    have o10:Own w0 w9 (RowGA 1 a9 c9 (i + 1) (ids ++ [.int .i64 (k:Int)]) :: (wparts p (W3.setSt k 1) D2 T ++ (ItemsA (.slice (some ⟨g5,0,none⟩) N c5) L :: R))):=(o9.pick 11 rfl).drop
    exact o10.perm List.perm_middle.symm)
   clear o9 k9 ch9 f9 HC HWK HSN
   go_wp2
   exact ⟨⟨i + 1,a9,c9,by omega,by go_num,rfl,HE⟩,by simp [intOf];omega⟩
  ·obtain rfl:i = N:=by omega
   have HE:Hid (D2.fits rr.1 ∧ Own w0 wr (RowGA 1 ra rc rr.2.length (intc rr.2) :: (wparts p rr.1 D2 T ++ R)) ∧ rr.2.length = i):=Lib.hid (by
    have e:L.take i = L:=by rw [← HN.out,List.take_length]
    rw [← HRR2.out]
    have h1:=hr.out
    rw [e] at h1
    refine ⟨wokeM_fits L _ HF2.out,?_,by simp [HN.out]⟩
    have h2:=h1.perm List.perm_middle
    have h3:Own w0 wr (ItemsA (.slice a5 i c5) L :: (RowGA 1 ra rc i (intc (L.map (·.id))) :: (wparts p (wokeM W2 L) D2 T ++ R))):=h2.perm (by
     refine (List.Perm.cons _ List.perm_middle).trans (List.Perm.swap _ _ _))
    have h4:=h3.drop
    rw [List.length_map,HN.out]
    exact h4)
   clear hr HRR2
   go_wp2
   go_ret
   exact ⟨ra,rc,D2,by rw [HE.out.2.2];rfl,HE.out.1,HE.out.2.1⟩
theorem tick_w {w0 w:World} {p:Nat} {T:List Value} {W:Wd} {R:List Asr} {B:Nat} (h:Own w0 w (WldA p W T :: R)) (wf:WF B W) (hB:B ≤ 80000) :
  Calls Tryz.prog 54 #[.pointer (some ⟨p,0,none⟩)] w fun r w'=>∃ ra rc,r = .returned (.slice ra (tickM W).2.length rc) ∧ Own w0 w' (RowGA 1 ra rc (tickM W).2.length (intc (tickM W).2) :: WldA p (tickM W).1 T :: R):=by
 obtain ⟨D,hf,ho⟩:=h.wld
 by_cases hen:W.en = 0
 ·refine (wtick_any ho hf hen (by have:=wf.hp.1;omega) (by have:=wf.clock;omega) (fun x hx=>(wf.hp.2.2.1 x hx).1)).mono (fun r w' hh=>?_)
  obtain ⟨ra,rc,D',h1,h2,h3⟩:=hh
  exact ⟨ra,rc,h1,Own.wldBack h2 h3⟩
 ·have et:tickM W = (W,[]):=by unfold tickM;rw [if_neg hen]
  rw [et]
  have p9:=(ho.cel 0 rfl 9 _ rfl).1
  have H:=Lib.hid (Own.toWld hf ho)
  have hb:(W.en != 0) = true:=by rw [bne_iff_ne];exact hen
  generalize W.en = e at *
  clear h hf ho et
  go_enter Tryz.func54,Tryz.ntmps54
  go_wp2
  go_ret
  exact ⟨none,0,rfl,Own.rowNil0 1 H.out⟩
def up13 (G:Gt):Bool:=decide (G.st = 1) || decide (G.st = 3)
theorem awaited_any (w:World) (st:Int) (v:Value):Calls Tryz.prog 36 #[.agg #[.int .i64 st,v]] w fun r w'=>r = .returned (.bool (decide (st = 1) || decide (st = 3))) ∧ Below w.heap.size w w':=by
 have hb:=below_alloc1 w (.cells #[.int .i64 st,v] 88)
 have HB:=Lib.hid hb
 clear hb
 by_cases h1:st = 1
 ·subst h1
  go_enter Tryz.func36,Tryz.ntmps36
  go_wp2
  go_ret
  exact ⟨rfl,HB.out⟩
 ·have h2:(st == 1) = false:=by rw [beq_eq_false_iff_ne];exact h1
  have h3:(decide (st = 1) || decide (st = 3)) = (st == 3):=by rw [decide_eq_false h1,Bool.false_or];by_cases h:st = 3 <;> simp [h]
  rw [h3]
  clear h3
  go_enter Tryz.func36,Tryz.ntmps36
  go_wp2
  go_ret
  exact ⟨rfl,HB.out⟩
theorem indexg_any (w:World) (aa:Option Addr) (ac:Nat) (sk:List (Nat × Nat)) (gs:List Gt) (h:CellsAt w aa (gcs sk gs)) (hs:sk.length = gs.length) (hl:gs.length ≤ 1000000) :
  Calls Tryz.prog 50 #[.slice aa gs.length ac,.func (.func 36) #[] #[]] w fun r w'=>∃ k:Int,r = .returned (.int .i64 k) ∧ decide (k ≥ 0) = gs.any up13 ∧ Below w.heap.size w w':=by
 obtain ⟨N,hN⟩:∃ N,N = gs.length:=⟨_,rfl⟩
 rw [← hN] at hl ⊢
 have HN:=Lib.hid hN
 have HC:=Lib.hid (fun (i:Nat) (hi:i < N)=>(by
  obtain ⟨b,off,h1,h2,h3⟩:=gcs_at h (g:=i) (List.getElem?_eq_getElem (by omega)) (List.getElem?_eq_getElem (by omega))
  exact ⟨b,off,_,_,h1,List.take_succ_eq_append_getElem (by omega),h2,h3⟩:∃ b off G v,aa = some ⟨b,off,none⟩ ∧ gs.take (i + 1) = gs.take i ++ [G] ∧ w.cell? ⟨b,off + i * 2,none⟩ = some (.int .i64 G.st) ∧ w.cell? ⟨b,off + i * 2 + 1,none⟩ = some v))
 have en:∀ (args:Array Value) (w:World),(callFunc 36 args).run Tryz.prog w = .ok (.enter 36 args) w:=fun _ _=>by kernel_rfl
 clear h hs hN
 go_enter Tryz.func50,Tryz.ntmps50
 go_wp2_with fail
 go_loopw [8] (fun iv wr=>∃ i:Nat,i ≤ N ∧ iv = .int .i64 i ∧ Hid ((gs.take i).any up13 = false ∧ Below w.heap.size w wr)) (fun iv _=>N - (intOf iv).toNat)
 case atStart=>exact ⟨0,by omega,rfl,Lib.hid ⟨rfl,Below.refl _ _⟩⟩
 case round =>
  obtain ⟨i,hi,rfl,hb⟩:=hrel
  by_cases hlt:i < N
  ·have hlt2:(i:Int) < (N:Int):=by omega
   have hi0:(0:Int) ≤ (i:Int):=by omega
   obtain ⟨b,off,G,v,rfl,hG,c0,c1⟩:=HC.out i hlt
   have d0:=cell_below c0 hb.out.2
   have d1:=cell_below c1 hb.out.2
   have HG:=Lib.hid hG
   clear hG
   go_wp2_with fail
   refine (awaited_any wr G.st v).mono ?_
   rintro r w1 ⟨rfl,hb1⟩
   have HB1:=Lib.hid (below_on hb.out.2 hb1)
   have HNO:=Lib.hid hb.out.1
   clear hb1 hb d0 d1
   have e:(decide (G.st = 1) || decide (G.st = 3)) = up13 G:=rfl
   rw [e]
   cases hu:up13 G with
   | true =>
    go_wp2
    go_ret
    refine ⟨_,rfl,?_,HB1.out⟩
    have hmem:G ∈ gs:=List.mem_of_mem_take (i:=i + 1) (by rw [HG.out];simp)
    rw [List.any_eq_true.2 ⟨G,hmem,hu⟩]
    exact decide_eq_true (by omega)
   | false =>
    have H2:Hid ((gs.take (i + 1)).any up13 = false ∧ Below w.heap.size w w1):=Lib.hid ⟨by rw [HG.out,List.any_append,HNO.out,Bool.false_or,List.any_cons,hu];rfl,HB1.out⟩
    clear hu HNO HB1
    go_wp2
    exact ⟨⟨i + 1,by omega,by go_num,H2⟩,by simp [intOf];omega⟩
  ·obtain rfl:i = N:=by omega
   go_wp2
   go_ret
   exact ⟨_,rfl,by have:=hb.out.1;rw [HN.out,List.take_length] at this;rw [this];rfl,hb.out.2⟩
theorem containsg_any (w:World) (aa:Option Addr) (ac:Nat) (sk:List (Nat × Nat)) (gs:List Gt) (h:CellsAt w aa (gcs sk gs)) (hs:sk.length = gs.length) (hl:gs.length ≤ 1000000) :
  Calls Tryz.prog 37 #[.slice aa gs.length ac,.func (.func 36) #[] #[]] w fun r w'=>r = .returned (.bool (gs.any up13)) ∧ Below w.heap.size w w':=by
 have HI:=Lib.hid (indexg_any w aa ac sk gs h hs hl)
 generalize gs.length = N at *
 generalize gs.any up13 = u at *
 clear h hs hl
 go_enter Tryz.func37,Tryz.ntmps37
 go_wp2_with fail
 refine HI.out.mono ?_
 rintro r w1 ⟨k,rfl,rfl,hb⟩
 have HB:=Lib.hid hb
 clear hb
 go_wp2
 go_ret
 exact ⟨rfl,HB.out⟩
theorem stuck_w {w0 w:World} {p:Nat} {T:List Value} {W:Wd} {R:List Asr} (h:Own w0 w (WldA p W T :: R)) (hl:W.gs.length ≤ 1000000):Calls Tryz.prog 24 #[.pointer (some ⟨p,0,none⟩)] w fun r w'=>r = .returned (.bool (stuckM W)) ∧ Below w.heap.size w w':=by
 obtain ⟨D,hf,ho⟩:=h.wld
 have c8:=(ho.cel 0 rfl 9 _ rfl).1
 have c2:=(ho.cel 0 rfl 2 _ rfl).1
 have HCT:=Lib.hid (containsg_any w D.aa D.ac D.sk W.gs (ho.rowG 2 rfl).cells hf.g hl)
 have e:stuckM W = (decide (W.en = 0) && !W.gs.any up13):=rfl
 rw [e]
 generalize W.gs.any up13 = u at *
 generalize W.gs.length = N at *
 generalize hen:W.en = en at *
 clear h hf ho e hen hl
 by_cases h0:en = 0
 ·subst h0
  go_enter Tryz.func24,Tryz.ntmps24
  go_wp2_with (go_at_call 37;refine HCT.out.mono ?_;rintro r w1 ⟨rfl,hb⟩)
  have HB:=Lib.hid hb
  clear hb
  go_wp2
  go_ret
  exact ⟨by simp,HB.out⟩
 ·have h1:(en == 0) = false:=by rw [beq_eq_false_iff_ne];exact h0
  rw [decide_eq_false h0,Bool.false_and]
  go_enter Tryz.func24,Tryz.ntmps24
  go_wp2
  go_ret
  exact ⟨rfl,Below.refl _ _⟩
def asksE (W:Wd) (k:Nat):Option (Int × Int):=if W.lets (k:Int) ∧ 1 ≤ askN W ((W.ins k).getD (0,0,0,0)) then some (askK ((W.ins k).getD (0,0,0,0)),(askN W ((W.ins k).getD (0,0,0,0)):Int)) else none
theorem askN_lt {B:Nat} {W:Wd} (wf:WF B W) (k:Nat):askN W ((W.ins k).getD (0,0,0,0)) ≤ 1099511627776:=by
 unfold askN
 split
 ·rename_i e
  cases hx:W.ins k with
  | none=>rw [hx] at e;exact absurd e (by decide)
  | some x =>
   rw [hx] at e
   simp only [Option.getD_some] at e ⊢
   have:=((wf.insOk hx).1.o21 e).2
   omega
 ·split
  ·rename_i e
   refine Nat.le_trans (enF_len _ _ _) ?_
   unfold Wd.cas
   rw [if_neg (by omega),if_neg (by omega)]
   have:=wf.p.kl
   simp only [List.length_take,List.length_drop]
   omega
  ·omega
theorem perm_mid {α:Type} (Q A R S:List α):(((Q ++ (A ++ R)) ++ S)).Perm (A ++ (Q ++ (R ++ S))):=by
 rw [List.append_assoc,List.append_assoc]
 exact List.perm_append_comm_assoc Q A (R ++ S)
theorem sd_exec {w0 w:World} {b sp:Nat} {L:Sl} {X:Sd} {R:List Asr} {D:Drw sp} {s:D.T} {j B:Nat} (h:SAt w0 w b sp L X (D.A s ++ R)) (hok:D.ok (j + 1) s) (wf:WF B X.W) (hB:B ≤ 80000) (k:Nat) :
  Calls Tryz.prog 58 #[.pointer (some ⟨b,0,none⟩),.int .i64 (k:Int),.func (.func 35) #[.pointer (some ⟨sp,0,none⟩)] #[]] w fun r w' =>
   (∃ v s' ra rc,Fit D s (asksE X.W k) v s' ∧ D.ok j s' ∧ r = .returned (.agg #[.bool (execM X.W (k:Int) v).2.1,.slice ra (execM X.W (k:Int) v).2.2.length rc]) ∧ SAt w0 w' b sp L { X with W:=(execM X.W (k:Int) v).1 } (RowGA 1 ra rc (execM X.W (k:Int) v).2.2.length (intc (execM X.W (k:Int) v).2.2) :: (D.A s' ++ R))) ∨
   (∃ ch s' kd n,r = .panicked ch ∧ asksE X.W k = some (kd,n) ∧ D.Dp s kd n r s' ∧ D.ok j s' ∧ SAt w0 w' b sp L X (D.A s' ++ R)):=by
 obtain ⟨T,Q,h1,h2⟩:=h.world
 have en:∀ (args:Array Value) (w:World),(callFunc 35 args).run Tryz.prog w = .ok (.enter 35 args) w:=fun _ _=>by kernel_rfl
 have hself:({ X with W:=X.W }:Sd) = X:=rfl
 have hal:=askN_lt wf k
 refine (exec_w (fst:=#[.pointer (some ⟨sp,0,none⟩)]) (cap:=#[]) (Qd:=fun v R'=>∃ s',(0 ≤ v ∧ v < (askN X.W ((X.W.ins k).getD (0,0,0,0)):Int)) ∧ D.Dv s (askK ((X.W.ins k).getD (0,0,0,0))) (askN X.W ((X.W.ins k).getD (0,0,0,0)):Int) v s' ∧ D.ok j s' ∧ R' = Q ++ (D.A s' ++ R))
  (Qp:=fun r R'=>∃ s',D.Dp s (askK ((X.W.ins k).getD (0,0,0,0))) (askN X.W ((X.W.ins k).getD (0,0,0,0)):Int) r s' ∧ D.ok j s' ∧ R' = Q ++ (D.A s' ++ R)) h1 wf hB (k:Int) en (fun _ hn=>?_)).mono (fun r w' hh=>?_)
 ·simp only [Int.toNat_natCast] at hn ⊢
  intro Z dq w' hD
  obtain ⟨S,k1,k2⟩:=hD.tail
  have k3:Own w0 w' (D.A s ++ (Q ++ (R ++ S))):=k1.perm (perm_mid _ _ _ _)
  refine (D.hd s _ _ _ j hok ⟨by omega,by omega⟩ k3).mono (fun r w'' hh=>?_)
  rcases hh with ⟨v,s',a1,a2,a3,a4,a5⟩ | ⟨ch,s',a1,a2,a3,a4⟩
  ·exact .inl ⟨v,_,a1,⟨s',a2,a3,a4,rfl⟩,k2 _ _ (a5.perm (perm_mid _ _ _ _).symm)⟩
  ·exact .inr ⟨ch,_,a1,⟨s',a2,a3,rfl⟩,k2 _ _ (a4.perm (perm_mid _ _ _ _).symm)⟩
 ·simp only [ExecW,Int.toNat_natCast] at hh
  rcases hh with ⟨v,R',ra,rc,hq,h3,h4⟩ | ⟨ch,R',h3,h4,h5,h6⟩
  ·rcases hq with ⟨hn,rfl⟩ | ⟨hn,s',hv,hdv,hok',rfl⟩
   ·have hno:asksE X.W k = none:=by
     unfold asksE
     rw [if_neg]
     rintro ⟨c1,c2⟩
     rcases hn with hn | hn
     ·exact hn c1
     ·omega
    have e:execM X.W (k:Int) v = execM X.W (k:Int) 0:=execM_none wf (fun hl=>by
     rw [Int.toNat_natCast]
     rcases hn with hn | hn
     ·exact absurd hl hn
     ·exact hn) v 0
    rw [e] at h3 h4
    refine .inl ⟨0,s,ra,rc,.inl ⟨hno,rfl,rfl⟩,D.less _ _ hok,h3,?_⟩
    refine h2 _ _ _ (h4.perm ?_)
    exact (List.Perm.swap _ _ _).trans (List.Perm.cons _ List.perm_middle.symm)
   ·have hso:asksE X.W k = some (askK ((X.W.ins k).getD (0,0,0,0)),(askN X.W ((X.W.ins k).getD (0,0,0,0)):Int)):=by unfold asksE;rw [if_pos hn]
    refine .inl ⟨v,s',ra,rc,.inr ⟨_,_,hso,hv,hdv⟩,hok',h3,?_⟩
    refine h2 _ _ _ (h4.perm ?_)
    exact (List.Perm.swap _ _ _).trans (List.Perm.cons _ List.perm_middle.symm)
  ·obtain ⟨s',hdp,hok',rfl⟩:=h5
   have hso:asksE X.W k = some (askK ((X.W.ins k).getD (0,0,0,0)),(askN X.W ((X.W.ins k).getD (0,0,0,0)):Int)):=by unfold asksE;rw [if_pos h4]
   exact .inr ⟨ch,s',_,_,h3,hso,hdp,hok',h2 _ _ _ h6⟩
theorem sd_tick {w0 w:World} {b sp:Nat} {L:Sl} {X:Sd} {R:List Asr} {B:Nat} (h:SAt w0 w b sp L X R) (wf:WF B X.W) (hB:B ≤ 80000) :
  Calls Tryz.prog 54 #[.pointer (some ⟨b,0,none⟩)] w fun r w'=>∃ ra rc,r = .returned (.slice ra (tickM X.W).2.length rc) ∧ SAt w0 w' b sp L { X with W:=(tickM X.W).1 } (RowGA 1 ra rc (tickM X.W).2.length (intc (tickM X.W).2) :: R):=by
 obtain ⟨T,Q,h1,h2⟩:=h.world
 refine (tick_w h1 wf hB).mono (fun r w' hh=>?_)
 obtain ⟨ra,rc,h3,h4⟩:=hh
 exact ⟨ra,rc,h3,h2 _ _ _ (h4.perm ((List.Perm.swap _ _ _).trans (List.Perm.cons _ List.perm_middle.symm)))⟩
theorem sd_end {w0 w:World} {b sp:Nat} {L:Sl} {X:Sd} {R:List Asr} (h:SAt w0 w b sp L X R):Calls Tryz.prog 23 #[.pointer (some ⟨b,0,none⟩)] w fun r w'=>r = .returned (.tuple #[.int .i64 X.W.en,.int .i64 X.W.why]) ∧ ∃ k,w' = w.drewN k:=by
 obtain ⟨T,Q,h1,h2⟩:=h.world;exact end_w h1
theorem sd_stuck {w0 w:World} {b sp:Nat} {L:Sl} {X:Sd} {R:List Asr} (h:SAt w0 w b sp L X R) (hl:X.W.gs.length ≤ 1000000):Calls Tryz.prog 24 #[.pointer (some ⟨b,0,none⟩)] w fun r w'=>r = .returned (.bool (stuckM X.W)) ∧ Below w.heap.size w w':=by
 obtain ⟨T,Q,h1,h2⟩:=h.world;exact stuck_w h1 hl
theorem sd_status {w0 w:World} {b sp:Nat} {L:Sl} {X:Sd} {R:List Asr} (h:SAt w0 w b sp L X R) (g:Int):Calls Tryz.prog 13 #[.pointer (some ⟨b,0,none⟩),.int .i64 g] w fun r w'=>r = .returned (.int .i64 (statusM X.W g)) ∧ w' = w:=by
 obtain ⟨T,Q,h1,h2⟩:=h.world;exact status_w h1 g
theorem stat_any {w0 w:World} {b sp:Nat} {L:Sl} {X:Sd} {R:List Asr} (h:SAt w0 w b sp L X R) (hl:X.W.gs.length ≤ 1000000) :
  Calls Tryz.prog 11 #[.pointer (some ⟨b,0,none⟩)] w fun r w'=>r = .returned (.int .i64 (overM X)) ∧ Below w.heap.size w w':=by
 have HE:=Lib.hid (sd_end h)
 have HS:=Lib.hid (fun k=>sd_stuck (h.step (below_dN w k)) hl)
 unfold overM
 generalize stuckM X.W = st at *
 generalize X.W.en = en at *
 clear h hl
 go_enter Tryz.func11,Tryz.ntmps11
 go_wp2_with fail
 refine HE.out.mono ?_
 rintro r w1 ⟨rfl,k,rfl⟩
 by_cases e1:en = 1
 ·subst e1
  go_wp2
  go_ret
  exact ⟨rfl,below_dN w k⟩
 ·have b1:(en == 1) = false:=by simpa using e1
  by_cases e2:en = 2
  ·subst e2
   go_wp2
   go_ret
   exact ⟨rfl,below_dN w k⟩
  ·have b2:(en == 2) = false:=by simpa using e2
   go_wp2_with fail
   refine (HS.out k).mono ?_
   rintro r w2 ⟨rfl,hb⟩
   have HB:=Lib.hid (below_on (below_dN w k) hb)
   clear hb
   cases st with
   | true =>
    go_wp2
    go_ret
    exact ⟨by simp [e1,e2],HB.out⟩
   | false =>
    go_wp2
    go_ret
    exact ⟨by simp [e1,e2],HB.out⟩
end Go.Proofs.YtphfaekpckbepaaGreat
