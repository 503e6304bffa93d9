/- The law on LocalEqual: the walk. -/
import Derived.Test.YteiegfcdcpoenabLQi
import Derived.Test.YteiegfcdcpoenabLSz
import Derived.Test.YteiegfcdcpoenabLTo
import Derived.Test.YteiegfcdcpoenabLEq
import Derived.StillTailTactics
namespace Go.Proofs.Yteiegfcdcpoenab.Lo
open Go.RowKit

set_option maxHeartbeats 800000 in
/-- LocalEqual of the program, at trees whose memory is the call's own. -/
theorem implSame (w : World) (k ix k' ix' : Int) (fr fr' : ByteArray) (u u' : Value) (f f' : F) (bs bs' : List Nat) (h : Ow w u f bs) (h' : Ow w u' f' bs') (hsz : f.sz ≤ 1048576) :
    Calls Try.prog 30 #[.agg #[.int .i64 k, .string fr, .int .i64 ix, u], .agg #[.int .i64 k', .string fr', .int .i64 ix', u']] w
      fun e w' => e = .returned (.bool (sameN k fr ix f k' fr' ix' f')) ∧ Below w.heap.size w w' := by
  obtain ⟨a, c, rfl⟩ := h.val
  obtain ⟨a', c', rfl⟩ := h'.val
  have hb0 := (alloc_below w (.cells #[.int .i64 k, .string fr, .int .i64 ix, .slice a f.len c] ( /- t -/ 46))).alloc (by simp) (.cells #[.int .i64 k', .string fr', .int .i64 ix', .slice a' f'.len c'] ( /- t -/ 46))
  have HU := hide (h.same (Same.of_below hb0 (fun b hb => h.lt b hb)))
  have HU' := hide (h'.same (Same.of_below hb0 (fun b hb => h'.lt b hb)))
  clear h h'
  go_enter Try.func30, Try.ntmps30
  go_wp2_with fail
  refine (same_walk _ k ix k' ix' fr fr' a a' c c' f f' ⟨⟨_, HU.out⟩, _, HU'.out⟩ hsz).mono ?_
  rintro e w1 ⟨rfl, hb⟩
  have hb2 := hb0.trans (hb.mono hb0.size)
  clear hb0 hb
  go_wp2_with fail
  go_ret
  exact ⟨rfl, hb2⟩

set_option maxHeartbeats 800000 in
theorem geq_big (w : World) (k ix k' ix' : Int) (fr fr' : ByteArray) (sv sv' : Value) (kids kids' : F) (hs : Sl w sv kids) (hs' : Sl w sv' kids') (hfr : fr.size ≤ maxLen) (hfr' : fr'.size ≤ maxLen)
    (hbig : 1048576 < fr.size + (kids.len + kids.wt) ∨ 1048576 < (fr.size + (kids.len + kids.wt)) + (fr'.size + (kids'.len + kids'.wt))) :
    Calls Try.prog 7 #[.agg #[.int .i64 k, .string fr, .int .i64 ix, sv], .agg #[.int .i64 k', .string fr', .int .i64 ix', sv']] w fun e w' => e = .returned (.bool true) ∧ Below w.heap.size w w' := by
  have B0 := (alloc_below w (.cells #[.int .i64 k, .string fr, .int .i64 ix, sv] ( /- t -/ 41))).alloc (by simp) (.cells #[.int .i64 k', .string fr', .int .i64 ix', sv'] ( /- t -/ 41))
  have BY0 := Box4.now (w.alloc (.cells #[.int .i64 k, .string fr, .int .i64 ix, sv] ( /- t -/ 41))) (.int .i64 k') (.string fr') (.int .i64 ix') sv' ( /- t -/ 41)
  rw [show (w.alloc (.cells #[.int .i64 k, .string fr, .int .i64 ix, sv] ( /- t -/ 41))).heap.size = w.heap.size + 1 from by simp] at BY0
  have HS := hide (hs.still (Still.of_below B0))
  have HS' := hide (hs'.still (Still.of_below B0))
  have HH := hide (And.intro hfr (And.intro hfr' hbig))
  have HB0 := hide B0
  have HY0 := hide BY0
  clear hs hs' hfr hfr' hbig B0 BY0
  go_enter Try.func7, Try.ntmps7
  go_wp2_with fail
  generalize (w.alloc (.cells #[.int .i64 k, .string fr, .int .i64 ix, sv] ( /- t -/ 41))).alloc (.cells #[.int .i64 k', .string fr', .int .i64 ix', sv'] ( /- t -/ 41)) = W at *
  refine (sz_calls kids W k ix fr sv 1048576 HS.out (by omega) (by omega) HH.out.1).mono ?_
  rintro e w1 ⟨rfl, hb⟩
  have hb1 := HB0.out.trans (hb.mono HB0.out.size)
  have BY1 := HY0.out.below hb
  obtain ⟨y0, y1, y2, y3⟩ := BY1.cells
  have hyl := BY1.lt
  have HS1 := hide (HS'.out.still (Still.of_below hb))
  clear hb BY1
  by_cases hA : 1048576 < fr.size + (kids.len + kids.wt)
  · have hl : left0 1048576 (fr.size + (kids.len + kids.wt)) = -1 := by unfold left0; rw [if_pos (by omega)]
    rw [hl]
    clear hl
    go_wp2_with fail
    go_ret
    exact ⟨rfl, hb1⟩
  · have hl : left0 1048576 (fr.size + (kids.len + kids.wt)) = ((1048576 - (fr.size + (kids.len + kids.wt)) : Nat) : Int) := by unfold left0; rw [if_neg (by omega)]; omega
    rw [hl]
    clear hl
    obtain ⟨r, hr⟩ : ∃ r, r = 1048576 - (fr.size + (kids.len + kids.wt)) := ⟨_, rfl⟩
    rw [← hr]
    have hrl : r ≤ 1048576 := by omega
    have HR := hide hr
    have HA := hide hA
    clear hr hA
    go_wp2_with fail
    refine (sz_calls kids' w1 k' ix' fr' sv' r HS1.out (by omega) (by omega) HH.out.2.1).mono ?_
    rintro e w2 ⟨rfl, hb⟩
    have hb2 := hb1.trans (hb.mono hb1.size)
    have hl : left0 r (fr'.size + (kids'.len + kids'.wt)) = -1 := by
      have h1 := HR.out
      have h2 := HA.out
      have h3 := HH.out.2.2
      unfold left0
      rw [if_pos (by omega)]
    rw [hl]
    clear hl hb
    go_wp2_with fail
    go_ret
    exact ⟨rfl, hb2⟩

end Go.Proofs.Yteiegfcdcpoenab.Lo
