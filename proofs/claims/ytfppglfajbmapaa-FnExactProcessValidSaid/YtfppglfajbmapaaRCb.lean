/- countProcess of the program, a piece. -/
import Derived.Test.YtfppglfajbmapaaRCa
import Derived.Deep.Cut
namespace Go.Proofs.Ytfppglfajbmapaa.Pc
open Go.RowKit

set_option maxHeartbeats 1000000 in
set_option maxRecDepth 100000 in
theorem cg_full (w : World) (k ix b u : Int) (fr to : ByteArray) (sv : Value) (kids : F) (c m : Nat) (hs : Sl w sv kids) (hc : Ctr w c m) (hm : 40 ≤ m) (hm2 : m ≤ 40) :
    Calls Try.prog 46 #[.agg #[.int .i64 k, .string fr, .string to, .int .i64 ix, sv], .agg #[.int .i64 b, .int .i64 u], .pointer (some ⟨c, 0, none⟩)] w (CgPost c w m (kids.sz + 1) (vldN k fr to ix kids b u)) := by
  obtain ⟨a, cap, rfl, hlen, hat⟩ := hs.at
  unfold maxLen at hlen
  have h0 := hc.cell
  have h1 : w.frozen? ⟨c, 0, none⟩ = false := hc.frozen
  have h2 := hc.lt
  have q0 := pc_start (w1 := ((w.setCell ⟨c, 0, none⟩ (.int .i64 ((m : Int) + 1))).alloc (.cells #[.int .i64 k, .string fr, .string to, .int .i64 ix, .slice a kids.len cap] ( /- t -/ 48))).alloc (.cells #[.int .i64 b, .int .i64 u] ( /- t -/ 88))) (cs := #[.int .i64 k, .string fr, .string to, .int .i64 ix, .slice a kids.len cap]) (ds := #[.int .i64 b, .int .i64 u]) (t := ( /- t -/ 48)) (u := ( /- t -/ 88)) hc (Below.refl _ _)
  have hmm : (40 : Int) < (m : Int) + 1 := by omega
  have hno : (vldN k fr to ix kids b u && decide (m + (kids.sz + 1) ≤ 40)) = false := by rw [decide_eq_false (by omega), Bool.and_false]
  unfold CgPost
  rw [hno]
  have HQ := hide q0
  clear hs hat hno q0
  go_enter Try.func46, Try.ntmps46
  go_wp2_with fail
  go_ret
  exact ⟨_, rfl, HQ.out.1, HQ.out.2.1, fun h => by cases h⟩

set_option maxHeartbeats 1000000 in
set_option maxRecDepth 100000 in
theorem cg_bad (w : World) (k ix b u : Int) (fr to : ByteArray) (sv : Value) (kids : F) (c m : Nat) (hs : Sl w sv kids) (hc : Ctr w c m) (hm : m ≤ 39) (hsh : shapeB k fr to ix kids = false) :
    Calls Try.prog 46 #[.agg #[.int .i64 k, .string fr, .string to, .int .i64 ix, sv], .agg #[.int .i64 b, .int .i64 u], .pointer (some ⟨c, 0, none⟩)] w (CgPost c w m (kids.sz + 1) (vldN k fr to ix kids b u)) := by
  obtain ⟨a, cap, rfl, hlen, hat⟩ := hs.at
  unfold maxLen at hlen
  have h0 := hc.cell
  have h1 : w.frozen? ⟨c, 0, none⟩ = false := hc.frozen
  have h2 := hc.lt
  have q0 := pc_start (w1 := ((w.setCell ⟨c, 0, none⟩ (.int .i64 ((m : Int) + 1))).alloc (.cells #[.int .i64 k, .string fr, .string to, .int .i64 ix, .slice a kids.len cap] ( /- t -/ 48))).alloc (.cells #[.int .i64 b, .int .i64 u] ( /- t -/ 88))) (cs := #[.int .i64 k, .string fr, .string to, .int .i64 ix, .slice a kids.len cap]) (ds := #[.int .i64 b, .int .i64 u]) (t := ( /- t -/ 48)) (u := ( /- t -/ 88)) hc (Below.refl _ _)
  have hmm : ¬ (40 : Int) < (m : Int) + 1 := by omega
  have hno : (vldN k fr to ix kids b u && decide (m + (kids.sz + 1) ≤ 40)) = false := by unfold vldN; rw [hsh]; rfl
  unfold CgPost
  rw [hno]
  have HQ := hide q0
  have HS := hide (hs.only hc q0.1)
  clear hs hat hno q0
  go_enter Try.func46, Try.ntmps46
  go_wp2_with fail
  refine (ff_calls _ kids k ix fr to _ HS.out).mono ?_
  rintro e w1 ⟨rfl, hb⟩
  rw [hsh]
  have hq := pc_start hc (hb.mono (by simp))
  clear hb
  go_wp2_with fail
  go_ret
  exact ⟨_, rfl, hq.1, hq.2.1, fun h => by cases h⟩

end Go.Proofs.Ytfppglfajbmapaa.Pc
