/- The small functions that the comparison of two global types calls. -/
import Derived.Test.YtfppglfajbmapaaDoorQv
import Derived.Handy
namespace Go.Proofs.YtfppglfajbmapaaDoor
open Go.RowKit

theorem likeB_split (k : Int) (fr to : ByteArray) (ix : Int) (k' : Int) (fr' to' : ByteArray) (ix' : Int) :
    likeB k fr to ix k' fr' to' ix' = ((k == k') && ((fr.toList == fr'.toList) && ((to.toList == to'.toList) && (ix == ix')))) := rfl

set_option maxHeartbeats 800000 in
theorem like_calls (w : World) (k ix k' ix' : Int) (fr to fr' to' : ByteArray) (a a' : Option Addr) (n c n' c' : Nat) :
    Calls Tryd.prog 45 #[.agg #[.int .i64 k, .string fr, .string to, .int .i64 ix, .slice a n c], .agg #[.int .i64 k', .string fr', .string to', .int .i64 ix', .slice a' n' c']] w
      fun e w' => e = .returned (.bool (likeB k fr to ix k' fr' to' ix')) ∧ Below w.heap.size w w' := by
  have hb0 := (alloc_below w (.cells #[.int .i64 k, .string fr, .string to, .int .i64 ix, .slice a n c] ( /- t -/ 25))).alloc (by simp) (.cells #[.int .i64 k', .string fr', .string to', .int .i64 ix', .slice a' n' c'] ( /- t -/ 25))
  go_enter Tryd.func45, Tryd.ntmps45
  go_wp2_with fail
  all_goals try subst_vars
  all_goals go_ret
  all_goals refine ⟨ret_bool ?_, hb0⟩
  all_goals simp_all [likeB_split]

set_option maxHeartbeats 800000 in
theorem kids_calls (w : World) (k ix : Int) (fr to : ByteArray) (a : Option Addr) (n c : Nat) :
    Calls Tryd.prog 46 #[.agg #[.int .i64 k, .string fr, .string to, .int .i64 ix, .slice a n c]] w
      fun e w' => e = .returned (.slice a n c) ∧ Below w.heap.size w w' := by
  have hb0 := alloc_below w (.cells #[.int .i64 k, .string fr, .string to, .int .i64 ix, .slice a n c] ( /- t -/ 25))
  go_enter Tryd.func46, Tryd.ntmps46
  go_wp2_with fail
  go_ret
  exact ⟨rfl, hb0⟩

set_option maxHeartbeats 800000 in
set_option maxRecDepth 100000 in
theorem parts_calls (w : World) (lab : ByteArray) (k ix : Int) (fr to : ByteArray) (a : Option Addr) (n c : Nat) :
    Calls Tryd.prog 47 #[.agg #[.string lab, .int .i64 k, .string fr, .string to, .int .i64 ix, .slice a n c]] w
      fun e w' => e = .returned (.tuple #[.string lab, .agg #[.int .i64 k, .string fr, .string to, .int .i64 ix, .slice a n c]]) ∧ Below w.heap.size w w' := by
  go_enter Tryd.func47, Tryd.ntmps47
  go_wp2_with fail
  go_region
  go_wp2_with fail
  go_returns
  exact ⟨rfl, ((alloc_below w _).alloc (by simp) _).drew⟩

end Go.Proofs.YtfppglfajbmapaaDoor
