/- GlobalEqual of the program. -/
import Derived.Test.YtfppglfajbmapaaDoorQi
import Derived.StillTailTactics
namespace Go.Proofs.YtfppglfajbmapaaDoor
open Go.RowKit

set_option maxHeartbeats 800000 in
/-- GlobalEqual of the program, at trees whose memory is the call's own. -/
theorem implSame (w : World) (k ix k' ix' : Int) (fr tg fr' tg' : ByteArray) (u u' : Value) (f f' : F) (bs bs' : List Nat) (h : Ow w u f bs) (h' : Ow w u' f' bs') (hsz : f.sz ≤ 1048576) :
    Calls Tryd.prog 11 #[.agg #[.int .i64 k, .string fr, .string tg, .int .i64 ix, u], .agg #[.int .i64 k', .string fr', .string tg', .int .i64 ix', u']] w
      fun e w' => e = .returned (.bool (sameN k fr tg ix f k' fr' tg' ix' f')) ∧ Below w.heap.size w w' := by
  obtain ⟨a, c, rfl⟩ := h.val
  obtain ⟨a', c', rfl⟩ := h'.val
  have hb0 := (alloc_below w (.cells #[.int .i64 k, .string fr, .string tg, .int .i64 ix, .slice a f.len c] ( /- t -/ 25))).alloc (by simp) (.cells #[.int .i64 k', .string fr', .string tg', .int .i64 ix', .slice a' f'.len c'] ( /- t -/ 25))
  have HU := hide (h.same (Same.of_below hb0 (fun b hb => h.lt b hb)))
  have HU' := hide (h'.same (Same.of_below hb0 (fun b hb => h'.lt b hb)))
  clear h h'
  go_enter Tryd.func11, Tryd.ntmps11
  go_wp2_with fail
  refine (same_walk _ k ix k' ix' fr tg fr' tg' a a' c c' f f' ⟨⟨_, HU.out⟩, _, HU'.out⟩ hsz).mono ?_
  rintro e w1 ⟨rfl, hb⟩
  have hb2 := hb0.trans (hb.mono hb0.size)
  clear hb0 hb
  go_wp2_with fail
  go_ret
  exact ⟨rfl, hb2⟩
end Go.Proofs.YtfppglfajbmapaaDoor
