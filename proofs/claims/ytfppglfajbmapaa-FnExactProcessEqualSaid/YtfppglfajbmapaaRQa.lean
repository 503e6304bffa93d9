/- The law on ProcessEqual: the walk. -/
import Derived.Test.YtfppglfajbmapaaRQs
import Derived.Test.YtfppglfajbmapaaRQe
import Derived.Test.YtfppglfajbmapaaRSz
import Derived.Test.YtfppglfajbmapaaRTo
import Derived.Test.YtfppglfajbmapaaREq
import Derived.StillTailTactics
namespace Go.Proofs.Ytfppglfajbmapaa.Pc
open Go.RowKit

set_option maxHeartbeats 800000 in
theorem geq_big (w : World) (k ix k' ix' : Int) (fr tg fr' tg' : ByteArray) (sv sv' : Value) (kids kids' : F) (hs : Sl w sv kids) (hs' : Sl w sv' kids') (hfr : fr.size ≤ maxLen) (hto : tg.size ≤ maxLen) (hfr' : fr'.size ≤ maxLen) (hto' : tg'.size ≤ maxLen)
    (hbig : 1048576 < fr.size + (tg.size + (kids.len + kids.wt)) ∨ 1048576 < (fr.size + (tg.size + (kids.len + kids.wt))) + (fr'.size + (tg'.size + (kids'.len + kids'.wt)))) :
    Calls Try.prog 7 #[.agg #[.int .i64 k, .string fr, .string tg, .int .i64 ix, sv], .agg #[.int .i64 k', .string fr', .string tg', .int .i64 ix', sv']] w fun e w' => e = .returned (.bool true) ∧ Below w.heap.size w w' := by
  have B0 := (alloc_below w (.cells #[.int .i64 k, .string fr, .string tg, .int .i64 ix, sv] ( /- t -/ 43))).alloc (by simp) (.cells #[.int .i64 k', .string fr', .string tg', .int .i64 ix', sv'] ( /- t -/ 43))
  have BY0 := Box5.now (w.alloc (.cells #[.int .i64 k, .string fr, .string tg, .int .i64 ix, sv] ( /- t -/ 43))) (.int .i64 k') (.string fr') (.string tg') (.int .i64 ix') sv' ( /- t -/ 43)
  rw [show (w.alloc (.cells #[.int .i64 k, .string fr, .string tg, .int .i64 ix, sv] ( /- t -/ 43))).heap.size = w.heap.size + 1 from by simp] at BY0
  have HS := hide (hs.still (Still.of_below B0))
  have HS' := hide (hs'.still (Still.of_below B0))
  have HH := hide (And.intro hfr (And.intro hto (And.intro hfr' (And.intro hto' hbig))))
  have HB0 := hide B0
  have HY0 := hide BY0
  clear hs hs' hfr hto hfr' hto' hbig B0 BY0
  go_enter Try.func7, Try.ntmps7
  go_wp2_with fail
  generalize (w.alloc (.cells #[.int .i64 k, .string fr, .string tg, .int .i64 ix, sv] ( /- t -/ 43))).alloc (.cells #[.int .i64 k', .string fr', .string tg', .int .i64 ix', sv'] ( /- t -/ 43)) = W at *
  refine (sz_calls kids W k ix fr tg sv 1048576 HS.out (by omega) (by omega) HH.out.1 HH.out.2.1).mono ?_
  rintro e w1 ⟨rfl, hb⟩
  have hb1 := HB0.out.trans (hb.mono HB0.out.size)
  have BY1 := HY0.out.below hb
  obtain ⟨y0, y1, y2, y3, y4⟩ := BY1.cells
  have hyl := BY1.lt
  have HS1 := hide (HS'.out.still (Still.of_below hb))
  clear hb BY1
  by_cases hA : 1048576 < fr.size + (tg.size + (kids.len + kids.wt))
  · have hl : left0 1048576 (fr.size + (tg.size + (kids.len + kids.wt))) = -1 := by unfold left0; rw [if_pos (by omega)]
    rw [hl]
    clear hl
    go_wp2_with fail
    go_ret
    exact ⟨rfl, hb1⟩
  · have hl : left0 1048576 (fr.size + (tg.size + (kids.len + kids.wt))) = ((1048576 - (fr.size + (tg.size + (kids.len + kids.wt))) : Nat) : Int) := by unfold left0; rw [if_neg (by omega)]; omega
    rw [hl]
    clear hl
    obtain ⟨r, hr⟩ : ∃ r, r = 1048576 - (fr.size + (tg.size + (kids.len + kids.wt))) := ⟨_, rfl⟩
    rw [← hr]
    have hrl : r ≤ 1048576 := by omega
    have HR := hide hr
    have HA := hide hA
    clear hr hA
    go_wp2_with fail
    refine (sz_calls kids' w1 k' ix' fr' tg' sv' r HS1.out (by omega) (by omega) HH.out.2.2.1 HH.out.2.2.2.1).mono ?_
    rintro e w2 ⟨rfl, hb⟩
    have hb2 := hb1.trans (hb.mono hb1.size)
    have hl : left0 r (fr'.size + (tg'.size + (kids'.len + kids'.wt))) = -1 := by
      have h1 := HR.out
      have h2 := HA.out
      have h3 := HH.out.2.2.2.2
      unfold left0
      rw [if_pos (by omega)]
    rw [hl]
    clear hl hb
    go_wp2_with fail
    go_ret
    exact ⟨rfl, hb2⟩

end Go.Proofs.Ytfppglfajbmapaa.Pc
