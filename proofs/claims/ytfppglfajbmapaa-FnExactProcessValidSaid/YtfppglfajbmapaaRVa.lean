/- The law on ProcessValid: the walk. -/
import Derived.Test.YtfppglfajbmapaaRCz
import Derived.Test.YtfppglfajbmapaaRSc
import Derived.Test.YtfppglfajbmapaaRSz
import Derived.Test.YtfppglfajbmapaaRTo
import Derived.Test.YtfppglfajbmapaaREq
import Derived.StillTailTactics
import Derived.Deep.RegionHeld3
namespace Go.Proofs.Ytfppglfajbmapaa.Pc
open Go.RowKit

set_option maxHeartbeats 400000 in
theorem valid_big (w : World) (k ix : Int) (fr to : ByteArray) (sv : Value) (kids : F) (hs : Sl w sv kids) (hfr : fr.size ≤ maxLen) (hto : to.size ≤ maxLen) (hbig : 1048576 < fr.size + (to.size + (kids.len + kids.wt))) :
    Calls Try.prog 6 #[.agg #[.int .i64 k, .string fr, .string to, .int .i64 ix, sv]] w fun e w' => e = .returned (.bool true) ∧ Below w.heap.size w w' := by
  have HS := hide hs
  have H1 := hide hfr
  have H2 := hide hto
  have H3 := hide hbig
  clear hs hfr hto hbig
  go_enter Try.func6, Try.ntmps6
  go_wp2_with fail
  refine (sz_calls kids _ k ix fr to sv 1048576 (HS.out.still (Still.of_below (alloc_below _ _))) (by omega) (by omega) H1.out H2.out).mono ?_
  rintro e w1 ⟨rfl, hb⟩
  obtain ⟨-, -, -, -, -, -, hb2⟩ := box5 hb
  clear hb
  have hl : left0 1048576 (fr.size + (to.size + (kids.len + kids.wt))) = -1 := by unfold left0; rw [if_pos (by have := H3.out; omega)]
  rw [hl]
  clear hl
  go_wp2_with fail
  go_ret
  exact ⟨rfl, hb2⟩

set_option maxHeartbeats 800000 in
theorem valid_small (w : World) (k ix : Int) (fr to : ByteArray) (sv : Value) (kids : F) (hs : Sl w sv kids) (hfr : fr.size ≤ maxLen) (hto : to.size ≤ maxLen) (hsm : fr.size + (to.size + (kids.len + kids.wt)) ≤ 1048576) :
    Calls Try.prog 6 #[.agg #[.int .i64 k, .string fr, .string to, .int .i64 ix, sv]] w fun e w' => e = .returned (.bool true) ∧ Below w.heap.size w w' := by
  have HS := hide hs
  have H1 := hide hfr
  have H2 := hide hto
  have H3 := hide hsm
  have hkw : kids.len + kids.wt ≤ 1048576 := by omega
  have hksz : kids.sz ≤ 1048576 := by have := F.sz_le kids; omega
  have H4 := hide hkw
  have H5 := hide hksz
  clear hs hfr hto hsm hkw hksz
  go_enter Try.func6, Try.ntmps6
  go_wp2_with fail
  refine (sz_calls kids _ k ix fr to sv 1048576 (HS.out.still (Still.of_below (alloc_below _ _))) (by omega) (by omega) H1.out H2.out).mono ?_
  rintro e w1 ⟨rfl, hb⟩
  have B1 := (Box5.now w (.int .i64 k) (.string fr) (.string to) (.int .i64 ix) sv ( /- t -/ 43)).below hb
  have hb2 := alloc_then hb
  clear hb
  obtain ⟨r, hr, hr0⟩ : ∃ r, r = left0 1048576 (fr.size + (to.size + (kids.len + kids.wt))) ∧ 0 ≤ r := by
    refine ⟨_, rfl, ?_⟩
    have := H3.out
    unfold left0
    rw [if_neg (by omega)]
    omega
  rw [← hr]
  clear hr
  have HB1 := hide B1
  obtain ⟨c0, c1, c2, c3, c4⟩ := B1.cells
  have hlt1 := B1.lt
  clear B1
  go_wp2_with fail
  refine (to_calls kids w1 k ix fr to sv (HS.out.still (Still.of_below hb2)) H4.out).mono ?_
  rintro e w2 ⟨u, bs, rfl, how, -, -, hb3⟩
  have HU := hide how.sl
  have HB2 := hide (HB1.out.below hb3)
  have hb4 := hb2.trans (hb3.mono hb2.size)
  clear how hb3 HB1 c0 c1 c2 c3 c4 hlt1 hb2
  go_wp2_with fail
  refine (specValid w2 k ix fr to u kids HU.out H5.out).mono ?_
  rintro e w3 ⟨rfl, hb5⟩
  have HB3 := hide (HB2.out.below hb5)
  obtain ⟨c0, c1, c2, c3, c4⟩ := HB3.out.cells
  have hlt1 := HB3.out.lt
  have hb6 := hb4.trans (hb5.mono hb4.size)
  clear hb5 HB2 HU hb4
  generalize hok : okN k fr to ix kids = ok
  have HOK := hide hok
  clear hok
  go_wp2_with fail
  refine (to_calls kids w3 k ix fr to sv (HS.out.still (Still.of_below hb6)) H4.out).mono ?_
  rintro e w4 ⟨u2, bs2, rfl, how, -, -, hb7⟩
  obtain ⟨ua, uc, rfl⟩ := how.val
  have HU := hide how.sl
  have HB4 := hide (HB3.out.below hb7)
  have hb8 := hb6.trans (hb7.mono hb6.size)
  clear how hb7 HB3 c0 c1 c2 c3 c4 hlt1 hb6
  go_wp2_with fail
  have hb9 := hb8.alloc hb8.size (.cells #[.int .i64 k, .string fr, .string to, .int .i64 ix, .slice ua kids.len uc] ( /- t -/ 48))
  have hst := Still.of_below (alloc_below w4 (.cells #[.int .i64 k, .string fr, .string to, .int .i64 ix, .slice ua kids.len uc] ( /- t -/ 48)))
  have BX := Box5.now w4 (.int .i64 k) (.string fr) (.string to) (.int .i64 ix) (.slice ua kids.len uc) ( /- t -/ 48)
  refine (implValid _ k ix fr to _ kids (HU.out.still hst)).mono ?_
  rintro e w5 ⟨rfl, hb10⟩
  rw [HOK.out]
  have HBX := hide (BX.below hb10)
  have HB5 := hide ((HB4.out.below (alloc_below w4 _)).below hb10)
  have HU5 := hide (HU.out.still (hst.trans (Still.of_below hb10)))
  have hb11 := hb9.trans (hb10.mono hb9.size)
  obtain ⟨c0, c1, c2, c3, c4⟩ := HB5.out.cells
  obtain ⟨d0, d1, d2, d3, d4⟩ := HBX.out.cells
  have hlt1 := HB5.out.lt
  have hlt2 := HBX.out.lt
  clear hb10 BX hst hb9 hb8 HB4 HU
  go_wp2_with fail
  have hbd := hb11.drew
  have HSd := hide (HS.out.still (Still.of_below hbd))
  have HBXd := hide HBX.out.drew
  have hsd : Still w5 w5.drew := fun _ _ h => h
  have HUd := hide (HU5.out.still hsd)
  clear hsd
  go_region_held3 (fun w' => w'.cell? ⟨w4.heap.size, 0, none⟩ = some (.int .i64 k) ∧ w'.cell? ⟨w4.heap.size, 1, none⟩ = some (.string fr) ∧ w'.cell? ⟨w4.heap.size, 2, none⟩ = some (.string to) ∧ w'.cell? ⟨w4.heap.size, 3, none⟩ = some (.int .i64 ix) ∧ w'.cell? ⟨w4.heap.size, 4, none⟩ = some (.slice ua kids.len uc) ∧
      w'.cell? ⟨w.heap.size, 0, none⟩ = some (.int .i64 k) ∧ w'.cell? ⟨w.heap.size, 1, none⟩ = some (.string fr) ∧ w'.cell? ⟨w.heap.size, 2, none⟩ = some (.string to) ∧ w'.cell? ⟨w.heap.size, 3, none⟩ = some (.int .i64 ix) ∧ w'.cell? ⟨w.heap.size, 4, none⟩ = some sv)
    (first | exact ⟨d0, d1, d2, d3, d4, c0, c1, c2, c3, c4⟩ | exact ⟨g0, g1, g2, g3, g4, f0, f1, f2, f3, f4⟩ | exact ⟨l0, l1, l2, l3, l4, m0, m1, m2, m3, m4⟩)
    ((first
      | (go_at_call 20; refine (to_calls kids _ k ix fr to sv ?_ H4.out).mono ?_; (exact HSd.out); rintro e w6 ⟨u3, bs3, rfl, how3, -, -, hb12⟩; (obtain ⟨g0, g1, g2, g3, g4⟩ := (HBXd.out.below hb12).cells); (obtain ⟨f0, f1, f2, f3, f4⟩ := (HB5.out.drew.below hb12).cells); have HX6 := hide (HBXd.out.below hb12); have HY6 := hide (HB5.out.drew.below hb12))
      | (go_at_call 22; refine (eq_calls kids _ k ix fr to _ _ ?_ ?_).mono ?_; (exact HUd.out.still (Still.of_below hb12)); (exact how3.sl); rintro e w7 ⟨rfl, hb13⟩; (obtain ⟨l0, l1, l2, l3, l4⟩ := (HX6.out.below hb13).cells); (obtain ⟨m0, m1, m2, m3, m4⟩ := (HY6.out.below hb13).cells))))
  have hb14 := (hbd.trans (hb12.mono hbd.size)).trans (hb13.mono (hbd.trans (hb12.mono hbd.size)).size)
  go_wp2_with fail
  go_ret
  exact ⟨rfl, hb14⟩

/-- FnExactProcessValid returns true. -/
theorem valid_walk (w : World) (k ix : Int) (fr to : ByteArray) (sv : Value) (kids : F) (hs : Sl w sv kids) (hfr : fr.size ≤ maxLen) (hto : to.size ≤ maxLen) :
    Calls Try.prog 6 #[.agg #[.int .i64 k, .string fr, .string to, .int .i64 ix, sv]] w fun e w' => e = .returned (.bool true) ∧ Below w.heap.size w w' := by
  by_cases h : fr.size + (to.size + (kids.len + kids.wt)) ≤ 1048576
  · exact valid_small w k ix fr to sv kids hs hfr hto h
  · exact valid_big w k ix fr to sv kids hs hfr hto (by omega)

end Go.Proofs.Ytfppglfajbmapaa.Pc
