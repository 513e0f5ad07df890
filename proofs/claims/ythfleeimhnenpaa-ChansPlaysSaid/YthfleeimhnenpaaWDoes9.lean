/-
  Channels: does of the law, whichever call.
-/
import Derived.Test.YthfleeimhnenpaaWDoes1
import Derived.Test.YthfleeimhnenpaaWDoes2
import Derived.Test.YthfleeimhnenpaaWDoes3
import Derived.Test.YthfleeimhnenpaaWDoes4
import Derived.Test.YthfleeimhnenpaaWDoes5
import Derived.Test.YthfleeimhnenpaaWDoes6
import Derived.Test.YthfleeimhnenpaaWDoes7
open Go Go.RowKit
set_option linter.unusedVariables false
namespace Go.Proofs.Ythfleeimhnenpaa
theorem does_any {w0 w : World} {R : List Asr} {rs : List Rw} {p N : Nat} {C : Ch} {ba : Option Addr} {bc : Nat} {sa : Option Addr} {sc : Nat} {ra : Option Addr} {rc : Nat} (h : Own w0 w (PoolR rs :: ChanA p N C :: R)) (hi : RefIn rs ba bc sa sc ra rc C) (kd v g cs wn : Int)
    (hl : C.buf.length ≤ 1000 ∧ C.S.length ≤ 1000 ∧ C.R.length ≤ 1000) (hN : N ≤ 100) :
    Calls Try.prog 14 #[.pointer (some ⟨p, 0, none⟩), xcv N C ba bc sa sc ra rc, .agg #[.int .i64 kd, .int .i64 v, .int .i64 g, .int .i64 cs, .int .i64 wn]] w fun r w' => DoesP p N C rs w0 R r w' := by
  obtain ⟨k, hk, hk8, -⟩ := small_of kd 8 (by omega)
  have hc : k = 0 ∨ k = 1 ∨ k = 2 ∨ k = 3 ∨ k = 4 ∨ k = 5 ∨ k = 6 ∨ k = 7 := by omega
  rcases hc with rfl | rfl | rfl | rfl | rfl | rfl | rfl | rfl
  · exact does_send h hi kd v g cs wn 0 hk (.inl rfl) hl hN
  · exact does_send h hi kd v g cs wn 1 hk (.inr rfl) hl hN
  · exact does_recv h hi kd v g cs wn 2 hk (.inl rfl) hl hN
  · exact does_recv h hi kd v g cs wn 3 hk (.inr rfl) hl hN
  · exact does_ws h hi kd v g cs wn 4 hk rfl hl hN
  · exact does_wr h hi kd v g cs wn 5 hk rfl hl hN
  · exact does_drop h hi kd v g cs wn 6 hk rfl hl hN
  · obtain ⟨buf, S, Rv, cl⟩ := C
    cases cl with
    | true => exact does_over h hi kd v g cs wn 7 hk rfl hl hN
    | false => exact does_clos h hi kd v g cs wn 7 hk rfl hl hN
end Go.Proofs.Ythfleeimhnenpaa
