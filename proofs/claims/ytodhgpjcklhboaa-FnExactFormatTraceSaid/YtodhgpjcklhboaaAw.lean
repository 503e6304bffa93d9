/- The law on FormatTrace: the walk. -/
import Derived.Test.YtodhgpjcklhboaaAi
import Derived.Deep.RegionHeld3
namespace Go.Proofs.Ytodhgpjcklhboaa.Lo.Ne
open Go.RowKit

set_option maxHeartbeats 400000 in
theorem ft_big (w : World) (v : Value) (l : List Act) (hs : SlG elA w v l) (hbig : 1048576 < l.length + wtA l) :
    Calls Try.prog 6 #[v] w fun e w' => e = .returned (.bool true) ∧ Below w.heap.size w w' := by
  have HS := hide hs
  have HB := hide hbig
  obtain ⟨a, cap, rfl, -, -⟩ := hs.at
  clear hs hbig
  go_enter Try.func6, Try.ntmps6
  go_wp2_with fail
  refine (szA l _ _ 1048576 HS.out (by omega) (by omega)).mono ?_
  rintro e w1 ⟨rfl, hb⟩
  rw [show leftA 1048576 (l.length + wtA l) = -1 by unfold leftA; rw [if_pos (by have := HB.out; omega)]]
  go_wp2_with fail
  go_ret
  exact ⟨rfl, hb⟩

set_option maxHeartbeats 1600000 in
set_option maxRecDepth 100000 in
theorem ft_small (w : World) (v : Value) (l : List Act) (hs : SlG elA w v l) (hsm : l.length + wtA l ≤ 1048576) :
    Calls Try.prog 6 #[v] w fun e w' => e = .returned (.bool true) ∧ Below w.heap.size w w' := by
  have HS := hide hs
  have HB := hide hsm
  obtain ⟨a, cap, rfl, -, -⟩ := hs.at
  clear hs hsm
  go_enter Try.func6, Try.ntmps6
  go_wp2_with fail
  refine (szA l _ _ 1048576 HS.out (by omega) (by omega)).mono ?_
  rintro e w1 ⟨rfl, hb⟩
  obtain ⟨r, hr⟩ : ∃ r : Nat, leftA 1048576 (l.length + wtA l) = (r : Int) := ⟨1048576 - (l.length + wtA l), by have := HB.out; unfold leftA; rw [if_neg (by omega)]; omega⟩
  rw [hr]
  have HBL := hide hb
  have HS1 := hide (HS.out.still (Still.of_below hb))
  clear hr hb
  go_wp2_with fail
  refine (toA l _ _ HS1.out (by have := HB.out; omega)).mono ?_
  rintro e w2 ⟨u, bs, rfl, how, -, -, hb⟩
  have HU := hide how.sl
  have HBL := hide (HBL.out.trans (hb.mono HBL.out.size))
  have HS2 := hide (HS1.out.still (Still.of_below hb))
  clear hb how
  go_wp2_with fail
  refine (specFmt w2 u l HU.out).mono ?_
  rintro e w3 ⟨rfl, hb⟩
  have HBL := hide (HBL.out.trans (hb.mono HBL.out.size))
  have HS3 := hide (HS2.out.still (Still.of_below hb))
  generalize hok : textT l = ok
  have HOK := hide hok
  clear hb HU hok
  go_wp2_with fail
  refine (toA l _ _ HS3.out (by have := HB.out; omega)).mono ?_
  rintro e w4 ⟨u2, bs2, rfl, how, -, -, hb⟩
  obtain ⟨ua, uc, rfl⟩ := how.val
  have HU := hide how.sl
  have HBL := hide (HBL.out.trans (hb.mono HBL.out.size))
  have HS4 := hide (HS3.out.still (Still.of_below hb))
  clear hb how
  go_wp2_with fail
  refine (implFmt w4 _ l HU.out).mono ?_
  rintro e w5 ⟨rfl, hb⟩
  rw [HOK.out]
  have HBL := hide (HBL.out.trans (hb.mono HBL.out.size))
  have HS5 := hide (HS4.out.still (Still.of_below hb))
  have HU5 := hide (HU.out.still (Still.of_below hb))
  clear hb
  go_wp2_with fail
  refine (toA l _ _ HS5.out (by have := HB.out; omega)).mono ?_
  rintro e w6 ⟨u3, bs3, rfl, how, -, -, hb⟩
  have HBL := hide (HBL.out.trans (hb.mono HBL.out.size))
  have HU3 := hide how.sl
  have HU6 := hide (HU5.out.still (Still.of_below hb))
  clear hb how
  go_wp2_with fail
  refine (eqA l _ _ _ HU6.out HU3.out).mono ?_
  rintro e w7 ⟨rfl, hb⟩
  have hb9 := HBL.out.trans (hb.mono HBL.out.size)
  clear hb
  go_wp2_with fail
  go_ret
  exact ⟨rfl, hb9⟩

/-- FnExactFormatTrace returns true. -/
theorem ft_walk (w : World) (v : Value) (l : List Act) (hs : SlG elA w v l) :
    Calls Try.prog 6 #[v] w fun e w' => e = .returned (.bool true) ∧ Below w.heap.size w w' := by
  by_cases h : l.length + wtA l ≤ 1048576
  · exact ft_small w v l hs h
  · exact ft_big w v l hs (by omega)
end Go.Proofs.Ytodhgpjcklhboaa.Lo.Ne
