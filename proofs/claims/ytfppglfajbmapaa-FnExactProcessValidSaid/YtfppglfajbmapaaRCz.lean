/- countProcess of the program, a piece. -/
import Derived.Test.YtfppglfajbmapaaRCb
import Derived.Test.YtfppglfajbmapaaRCp
import Derived.Test.YtfppglfajbmapaaRCs
import Derived.Test.YtfppglfajbmapaaRCr
import Derived.Test.YtfppglfajbmapaaRCl
import Derived.Test.YtfppglfajbmapaaRCv
import Derived.Deep.Cut
namespace Go.Proofs.Ytfppglfajbmapaa.Pc
open Go.RowKit

theorem cg_all : ∀ n, CgAt n := by
  intro n
  induction n with
  | zero => intro w k ix b u fr to sv kids c m hn; omega
  | succ n ih =>
    intro w k ix b u fr to sv kids c m hn hs hc hm hb hbm hu hum
    by_cases hm4 : 40 ≤ m
    · exact cg_full w k ix b u fr to sv kids c m hs hc hm4 hm
    cases hsh : shapeB k fr to ix kids with
    | false => exact cg_bad w k ix b u fr to sv kids c m hs hc (by omega) hsh
    | true =>
      by_cases h2 : k = 2
      · exact cg_send n ih w k ix b u fr to sv kids c m hs hc hn (by omega) hb hbm hu hum hsh h2
      by_cases h3 : k = 3
      · exact cg_recv n ih w k ix b u fr to sv kids c m hs hc hn (by omega) hb hbm hu hum hsh h3
      by_cases h5 : k = 5
      · exact cg_loop n ih w k ix b u fr to sv kids c m hs hc hn (by omega) hb hbm hu hum hsh h5
      by_cases h6 : k = 6
      · exact cg_var w k ix b u fr to sv kids c m hs hc (by omega) hsh h6
      · exact cg_plain n ih w k ix b u fr to sv kids c m hs hc hn (by omega) hb hbm hu hum hsh h2 h3 h5 h6

set_option maxHeartbeats 1000000 in
set_option maxRecDepth 100000 in
/-- ProcessValid of the program. -/
theorem implValid (w : World) (k ix : Int) (fr to : ByteArray) (sv : Value) (kids : F) (hs : Sl w sv kids) :
    Calls Try.prog 21 #[.agg #[.int .i64 k, .string fr, .string to, .int .i64 ix, sv]] w fun e w' => e = .returned (.bool (okN k fr to ix kids)) ∧ Below w.heap.size w w' := by
  obtain ⟨v, hv⟩ : ∃ v, v = okN k fr to ix kids := ⟨_, rfl⟩
  rw [← hv]
  have HV : Hid (v = (vldN k fr to ix kids 0 0 && decide (0 + (kids.sz + 1) ≤ 40))) := hide (by rw [hv]; unfold okN; rw [Nat.zero_add])
  have HS := hide hs
  clear hs hv
  have hb1 := alloc_below w (.cells #[.int .i64 k, .string fr, .string to, .int .i64 ix, sv] ( /- t -/ 48))
  have hb2 := hb1.alloc (by simp) (.cells #[.int .i64 0] ( /- t -/ 3))
  have hc : Ctr ((w.alloc (.cells #[.int .i64 k, .string fr, .string to, .int .i64 ix, sv] ( /- t -/ 48))).alloc (.cells #[.int .i64 0] ( /- t -/ 3))) (w.heap.size + 1) ((0 : Nat) : Int) :=
    ⟨_, by have := alloc_last (w.alloc (.cells #[.int .i64 k, .string fr, .string to, .int .i64 ix, sv] ( /- t -/ 48))) #[.int .i64 0] ( /- t -/ 3); simpa using this⟩
  go_enter Try.func21, Try.ntmps21
  go_wp2_with fail
  refine (cg_all (kids.sz + 1) _ k ix 0 0 fr to sv kids (w.heap.size + 1) 0 (Nat.lt_succ_self _) (HS.out.still (Still.of_below hb2)) hc (by omega) (by omega) (by omega) (by omega) (by omega)).mono ?_
  rintro e w1 ⟨m', rfl, o1, c1, -⟩
  have hb3 : Below w.heap.size w w1 := hb2.trans (o1.to_below (by omega) hb2.size)
  rw [← HV.out]
  clear hc hb1 hb2 o1 c1
  go_wp2_with fail
  go_ret
  exact ⟨rfl, hb3⟩

end Go.Proofs.Ytfppglfajbmapaa.Pc
