/- szMonitor. -/
import Derived.Test.YtbonmdkfmgahbaaRows
import Derived.Test.YtbonmdkfmgahbaaLSz
namespace Go.Proofs.Ytbonmdkfmgahbaa.Lo.Ne
open Go.RowKit

set_option maxHeartbeats 400000 in
theorem sz_mon (kids : F) (w : World) (lab : ByteArray) (k ix : Int) (fr : ByteArray) (sv : Value) (left : Int) (hs : Sl w sv kids) (hl0 : 0 ≤ left) (hl1 : left ≤ 1048576)
    (hlab : lab.size ≤ maxLen) (hfr : fr.size ≤ maxLen) :
    Calls Try.prog 18 #[.agg #[.string lab, .int .i64 k, .string fr, .int .i64 ix, sv], .int .i64 left] w
      fun e w' => e = .returned (.int .i64 (left0 left (lab.size + (fr.size + (kids.len + kids.wt))))) ∧ Below w.heap.size w w' := by
  have HS := hide hs
  have h2 := hide hfr
  clear hs hfr
  unfold maxLen at hlab
  go_enter Try.func18, Try.ntmps18
  go_wp2_with fail
  · go_ret
    exact ⟨ret_int (by unfold left0; rw [if_pos (by omega)]), alloc_below _ _⟩
  · have h1 : 0 ≤ left - lab.size := by assumption
    refine (sz_calls kids _ k ix fr sv _ (HS.out.still (Still.of_below (alloc_below _ _))) h1 (by omega) h2.out).mono ?_
    rintro e w1 ⟨rfl, hb⟩
    obtain ⟨r, hr⟩ : ∃ r, r = left0 (left - lab.size) (fr.size + (kids.len + kids.wt)) := ⟨_, rfl⟩
    have HR := hide hr
    rw [← hr]
    clear hr
    go_wp2_with fail
    · go_ret
      refine ⟨ret_int ?_, alloc_then hb⟩
      have := HR.out
      unfold left0 at *
      split at this <;> (try split) <;> omega
    · go_ret
      refine ⟨ret_int ?_, alloc_then hb⟩
      have := HR.out
      unfold left0 at *
      split at this <;> (try split) <;> omega

end Go.Proofs.Ytbonmdkfmgahbaa.Lo.Ne
