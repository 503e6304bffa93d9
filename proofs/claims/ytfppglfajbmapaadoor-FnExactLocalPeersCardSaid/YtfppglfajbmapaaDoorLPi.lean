/- LocalPeers of the program. -/
import Derived.Test.YtfppglfajbmapaaDoorLWa
import Derived.Test.YtfppglfajbmapaaDoorLPs
namespace Go.Proofs.YtfppglfajbmapaaDoor.Lo
open Go.RowKit

set_option maxHeartbeats 400000 in
set_option maxRecDepth 100000 in
/-- LocalPeers of the program. -/
theorem implPeers (w : World) (k ix : Int) (fr : ByteArray) (sv : Value) (kids : F) (hs : Sl w sv kids) :
    Calls Tryd.prog 23 #[.agg #[.int .i64 k, .string fr, .int .i64 ix, sv]] w fun e w' => e = .returned (.string (peersN k fr ix kids)) ∧ Below w.heap.size w w' := by
  have HS := hide hs
  clear hs
  go_enter Tryd.func23, Tryd.ntmps23
  go_wp2_with fail
  refine (implFormat _ k ix fr sv kids (HS.out.still (Still.of_below (alloc_below _ _)))).mono ?_
  rintro e w1 ⟨rfl, hb⟩
  have hb2 := alloc_then hb
  have ht := peersN_text k fr ix kids
  have HT := hide ht
  clear hb ht
  generalize textN k fr ix kids = t at *
  go_wp2_with fail
  refine (rolesIn_calls t _).mono ?_
  rintro e w2 ⟨rfl, hb3⟩
  rw [HT.out]
  have hb4 := hb2.trans (hb3.mono hb2.size)
  clear hb3
  go_wp2_with fail
  go_ret
  exact ⟨rfl, hb4⟩
end Go.Proofs.YtfppglfajbmapaaDoor.Lo
