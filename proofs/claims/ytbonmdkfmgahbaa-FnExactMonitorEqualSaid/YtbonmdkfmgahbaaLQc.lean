/- The small functions that the comparison of two local types calls. -/
import Derived.Test.YtbonmdkfmgahbaaLQv
import Derived.Handy
namespace Go.Proofs.Ytbonmdkfmgahbaa.Lo
open Go.RowKit

theorem likeB_split (k : Int) (fr : ByteArray) (ix : Int) (k' : Int) (fr' : ByteArray) (ix' : Int) :
    likeB k fr ix k' fr' ix' = ((k == k') && ((fr.toList == fr'.toList) && (ix == ix'))) := rfl

set_option maxHeartbeats 800000 in
theorem like_calls (w : World) (k ix k' ix' : Int) (fr fr' : ByteArray) (a a' : Option Addr) (n c n' c' : Nat) :
    Calls Try.prog 52 #[.agg #[.int .i64 k, .string fr, .int .i64 ix, .slice a n c], .agg #[.int .i64 k', .string fr', .int .i64 ix', .slice a' n' c']] w
      fun e w' => e = .returned (.bool (likeB k fr ix k' fr' ix')) ∧ Below w.heap.size w w' := by
  have hb0 := (alloc_below w (.cells #[.int .i64 k, .string fr, .int .i64 ix, .slice a n c] ( /- t -/ 24))).alloc (by simp) (.cells #[.int .i64 k', .string fr', .int .i64 ix', .slice a' n' c'] ( /- t -/ 24))
  go_enter Try.func52, Try.ntmps52
  go_wp2_with fail
  all_goals try subst_vars
  all_goals go_ret
  all_goals refine ⟨ret_bool ?_, hb0⟩
  all_goals simp_all [likeB_split]

set_option maxHeartbeats 800000 in
theorem kids_calls (w : World) (k ix : Int) (fr : ByteArray) (a : Option Addr) (n c : Nat) :
    Calls Try.prog 53 #[.agg #[.int .i64 k, .string fr, .int .i64 ix, .slice a n c]] w
      fun e w' => e = .returned (.slice a n c) ∧ Below w.heap.size w w' := by
  have hb0 := alloc_below w (.cells #[.int .i64 k, .string fr, .int .i64 ix, .slice a n c] ( /- t -/ 24))
  go_enter Try.func53, Try.ntmps53
  go_wp2_with fail
  go_ret
  exact ⟨rfl, hb0⟩

set_option maxHeartbeats 800000 in
set_option maxRecDepth 100000 in
theorem parts_calls (w : World) (lab : ByteArray) (k ix : Int) (fr : ByteArray) (a : Option Addr) (n c : Nat) :
    Calls Try.prog 54 #[.agg #[.string lab, .int .i64 k, .string fr, .int .i64 ix, .slice a n c]] w
      fun e w' => e = .returned (.tuple #[.string lab, .agg #[.int .i64 k, .string fr, .int .i64 ix, .slice a n c]]) ∧ Below w.heap.size w w' := by
  go_enter Try.func54, Try.ntmps54
  go_wp2_with fail
  go_region
  go_wp2_with fail
  go_returns
  exact ⟨rfl, ((alloc_below w _).alloc (by simp) _).drew⟩

end Go.Proofs.Ytbonmdkfmgahbaa.Lo
