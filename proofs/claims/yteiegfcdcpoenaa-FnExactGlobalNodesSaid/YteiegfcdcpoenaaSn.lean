/- GlobalNodes of the model. -/
import Derived.Test.YteiegfcdcpoenaaSc
namespace Go.Proofs.Yteiegfcdcpoenaa
open Go.RowKit

set_option maxHeartbeats 400000 in
/-- GlobalNodes of the model. -/
theorem specNodes (w : World) (k ix : Int) (fr to : ByteArray) (sv : Value) (kids : F) (hs : Sl w sv kids) (hbig : kids.sz ≤ 1048576) :
    Calls Try.prog 36 #[.agg #[.int .i64 k, .string fr, .string to, .int .i64 ix, sv]] w fun e w' => e = .returned (.int .i64 (nodesN k fr to ix kids : Nat)) ∧ Below w.heap.size w w' := by
  have HS := hide hs
  clear hs
  go_enter Try.func36, Try.ntmps36
  go_wp2_with fail
  refine (specValid _ k ix fr to sv kids (HS.out.still (Still.of_below (alloc_below _ _))) hbig).mono ?_
  rintro e w1 ⟨rfl, hb⟩
  obtain ⟨c0, c1, c2, c3, c4, hlt, hb2⟩ := box5 hb
  clear hb
  cases hv : okN k fr to ix kids with
  | false =>
    go_wp2_with fail
    go_ret
    exact ⟨ret_int (by simp [nodesN, hv]), hb2⟩
  | true =>
    have HV := hide hv
    have hvl : vldN k fr to ix kids 0 0 40 = true := by simp only [okN, Bool.and_eq_true] at hv; exact hv.1
    have HVL := hide hvl
    clear hv hvl
    go_wp2_with fail
    refine (cnt_calls _ k ix 40 fr to sv kids (HS.out.still (Still.of_below hb2)) hbig (by omega) (by omega)).mono ?_
    rintro e w2 ⟨rfl, hb3⟩
    have hb4 := hb2.trans (hb3.mono hb2.size)
    rw [cntN_of_vld HVL.out]
    clear hb3
    go_wp2_with fail
    go_ret
    exact ⟨ret_int (by simp [nodesN, HV.out]), hb4⟩
end Go.Proofs.Yteiegfcdcpoenaa
