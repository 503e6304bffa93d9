/- eqMonitor. -/
import Derived.Test.YtbonmdkfmgahbaaRows
import Derived.Test.YtbonmdkfmgahbaaLEq
namespace Go.Proofs.Ytbonmdkfmgahbaa.Lo.Ne
open Go.RowKit

set_option maxHeartbeats 400000 in
theorem eq_mon (kids : F) (w : World) (lab : ByteArray) (k ix : Int) (fr : ByteArray) (su sv : Value) (hu : Sl w su kids) (hv : Sl w sv kids) :
    Calls Try.prog 22 #[.agg #[.string lab, .int .i64 k, .string fr, .int .i64 ix, su], .agg #[.string lab, .int .i64 k, .string fr, .int .i64 ix, sv]] w
      fun e w' => e = .returned (.bool true) ∧ Below w.heap.size w w' := by
  have HU := hide hu
  have HV := hide hv
  clear hu hv
  go_enter Try.func22, Try.ntmps22
  go_wp2_with fail
  have hB := (alloc_below w (.cells #[.string lab, .int .i64 k, .string fr, .int .i64 ix, su] ( /- t -/ 46))).alloc (by simp) (.cells #[.string lab, .int .i64 k, .string fr, .int .i64 ix, sv] ( /- t -/ 46))
  refine (eq_calls kids _ k ix fr _ _ (HU.out.still (Still.of_below hB)) (HV.out.still (Still.of_below hB))).mono ?_
  rintro e w1 ⟨rfl, hb⟩
  have hb2 := hB.trans (hb.mono (by simp; omega))
  clear hB hb
  go_wp2_with fail
  go_ret
  exact ⟨rfl, hb2⟩

end Go.Proofs.Ytbonmdkfmgahbaa.Lo.Ne
