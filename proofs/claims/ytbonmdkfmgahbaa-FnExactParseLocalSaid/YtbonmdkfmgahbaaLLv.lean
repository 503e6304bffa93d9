/- LocalValid of the program. -/
import Derived.Test.YtbonmdkfmgahbaaLLb
namespace Go.Proofs.Ytbonmdkfmgahbaa.Lo
open Go.RowKit

set_option maxHeartbeats 400000 in
/-- LocalValid of the program. -/
theorem implValid (w : World) (k ix : Int) (fr : ByteArray) (sv : Value) (kids : F) (hs : Sl w sv kids) :
    Calls Try.prog 26 #[.agg #[.int .i64 k, .string fr, .int .i64 ix, sv]] w fun e w' => e = .returned (.bool (okN k fr ix kids)) ∧ Below w.heap.size w w' := by
  have HS := hide hs
  clear hs
  go_enter Try.func26, Try.ntmps26
  go_wp2_with fail
  refine (implLink _ k ix fr sv kids (HS.out.still (Still.of_below (alloc_below _ _)))).mono ?_
  rintro e w1 ⟨u, bs, rfl, -, hb, -⟩
  have hb2 := alloc_then hb
  clear hb
  go_wp2_with fail
  go_ret
  exact ⟨rfl, hb2⟩
end Go.Proofs.Ytbonmdkfmgahbaa.Lo
