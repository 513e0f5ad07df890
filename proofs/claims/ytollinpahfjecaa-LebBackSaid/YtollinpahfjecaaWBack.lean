/-
  The walk of the law LebBack.
-/
import Derived.Test.YtollinpahfjecaaWLaw1
import Derived.Test.YtollinpahfjecaaBack
import Derived.OpenShut
open Go Go.RowKit
set_option linter.unusedVariables false
namespace Go.Proofs.Ytollinpahfjecaa.lebBack
theorem from_mid (x y z : ByteArray) : from_ (x ++ y ++ z) x.size = y.data.toList ++ z.data.toList := by
  unfold from_
  have e : (x ++ y ++ z).data.toList = x.data.toList ++ (y.data.toList ++ z.data.toList) := by simp [ByteArray.data_append]
  have hx : x.size = x.data.toList.length := by simp
  rw [e, hx, List.drop_left]
set_option maxRecDepth 100000 in
set_option maxHeartbeats 400000 in
theorem walk (a0 : Int) (a1 : ByteArray) (a2 : ByteArray) (w : World) (w0 : (Lit.int .u64 a0).wf = true) (w1 : a1.size ≤ maxLen) (w2 : a2.size ≤ maxLen) :
    Calls Try.prog 3 #[.int .u64 a0, .string a1, .string a2] w fun e w' => e = .returned (.bool true) ∧ Below w.heap.size w w' := by
  obtain ⟨l0, u0⟩ := bounds_u64 w0
  clear w0
  obtain ⟨n, rfl⟩ := Int.eq_ofNat_of_zero_le l0
  have hn : n < 18446744073709551616 := by omega
  clear l0 u0
  have hl := putL_len n
  have c1 := cutB_size a1 20
  have c2 := cutB_size a2 20
  have Hn := Lib.hid hn; clear hn
  go_enter Try.func3, Try.ntmps3
  go_wp2_with fail
  refine (cut_any a1 20 _ w1 (by omega)).mono ?_
  rintro e w' ⟨rfl, rfl⟩
  generalize cutB a1 20 = x at c1
  go_wp2_with fail
  refine (cut_any a2 20 _ w2 (by omega)).mono ?_
  rintro e w' ⟨rfl, rfl⟩
  generalize cutB a2 20 = z at c2
  go_wp2_with fail
  refine (awake1_any _).mono ?_
  rintro e w1 ⟨rfl, hb⟩
  have Hb := Lib.hid hb; clear hb
  go_wp2_with fail
  refine (put_any n _ Hn.out).mono ?_
  rintro e w2 ⟨rfl, hb2⟩
  have Hb2 := Lib.hid hb2; clear hb2
  have hys : (ByteArray.mk (putL n).toArray).size = (putL n).length := by simp [ByteArray.size]
  have hg : getR (x ++ ByteArray.mk (putL n).toArray ++ z) (x.size : Int) = (n, x.size + (putL n).length, 0) :=
    getR_put _ _ _ z.data.toList (by simp [ByteArray.size_append]; omega) Hn.out (from_mid x _ z)
  have Hg := Lib.hid hg; clear hg
  go_wp2_with fail
  refine (get_any _ _ _ (by simp [ByteArray.size_append, hys, maxLen]; omega)).mono ?_
  rintro e w' ⟨rfl, rfl⟩
  rw [Hg.out]
  go_wp2_with fail
  refine (rput_any 10 n _ (lim10 n Hn.out) Hn.out).mono ?_
  rintro e w3 ⟨rfl, hb3⟩
  have Hb3 := Lib.hid hb3; clear hb3
  go_wp2_with fail
  refine (len_any n _ Hn.out).mono ?_
  rintro e w' ⟨rfl, rfl⟩
  go_wp2
  go_ret
  exact ⟨rfl, below_on (below_on Hb.out Hb2.out) Hb3.out⟩
end Go.Proofs.Ytollinpahfjecaa.lebBack
