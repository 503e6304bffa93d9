/- The law on ProcessEqual: the walk at arguments that the law tries. -/
import Derived.Test.YtfppglfajbmapaaRQa
namespace Go.Proofs.Ytfppglfajbmapaa.Pc
open Go.RowKit

set_option maxHeartbeats 2000000 in
set_option maxRecDepth 100000 in
theorem geq_small (w : World) (k ix k' ix' : Int) (fr tg fr' tg' : ByteArray) (sv sv' : Value) (kids kids' : F) (hs : Sl w sv kids) (hs' : Sl w sv' kids') (hfr : fr.size ≤ maxLen) (hto : tg.size ≤ maxLen) (hfr' : fr'.size ≤ maxLen) (hto' : tg'.size ≤ maxLen)
    (hsm : (fr.size + (tg.size + (kids.len + kids.wt))) + (fr'.size + (tg'.size + (kids'.len + kids'.wt))) ≤ 1048576) :
    Calls Try.prog 7 #[.agg #[.int .i64 k, .string fr, .string tg, .int .i64 ix, sv], .agg #[.int .i64 k', .string fr', .string tg', .int .i64 ix', sv']] w fun e w' => e = .returned (.bool true) ∧ Below w.heap.size w w' := by
  have B0 := (alloc_below w (.cells #[.int .i64 k, .string fr, .string tg, .int .i64 ix, sv] ( /- t -/ 43))).alloc (by simp) (.cells #[.int .i64 k', .string fr', .string tg', .int .i64 ix', sv'] ( /- t -/ 43))
  have BX0 := (Box5.now w (.int .i64 k) (.string fr) (.string tg) (.int .i64 ix) sv ( /- t -/ 43)).below (alloc_below _ (.cells #[.int .i64 k', .string fr', .string tg', .int .i64 ix', sv'] ( /- t -/ 43)))
  have BY0 := Box5.now (w.alloc (.cells #[.int .i64 k, .string fr, .string tg, .int .i64 ix, sv] ( /- t -/ 43))) (.int .i64 k') (.string fr') (.string tg') (.int .i64 ix') sv' ( /- t -/ 43)
  rw [show (w.alloc (.cells #[.int .i64 k, .string fr, .string tg, .int .i64 ix, sv] ( /- t -/ 43))).heap.size = w.heap.size + 1 from by simp] at BY0
  have hw1 : kids.len + kids.wt ≤ 1048576 := by omega
  have hw2 : kids'.len + kids'.wt ≤ 1048576 := by omega
  have hz1 : kids.sz ≤ 1048576 := by have := F.sz_le kids; omega
  have HS := hide (hs.still (Still.of_below B0))
  have HS' := hide (hs'.still (Still.of_below B0))
  have HH := hide (And.intro hfr (And.intro hto (And.intro hfr' (And.intro hto' (And.intro hsm (And.intro hw1 (And.intro hw2 hz1)))))))
  have HB := hide B0
  have HX := hide BX0
  have HY := hide BY0
  clear hs hs' hfr hto hfr' hto' hsm B0 BX0 BY0 hw1 hw2 hz1
  go_enter Try.func7, Try.ntmps7
  go_wp2_with fail
  generalize (w.alloc (.cells #[.int .i64 k, .string fr, .string tg, .int .i64 ix, sv] ( /- t -/ 43))).alloc (.cells #[.int .i64 k', .string fr', .string tg', .int .i64 ix', sv'] ( /- t -/ 43)) = W at *
  refine (sz_calls kids W k ix fr tg sv 1048576 HS.out (by omega) (by omega) HH.out.1 HH.out.2.1).mono ?_
  rintro e w1 ⟨rfl, hb⟩
  have HB1 := hide (HB.out.trans (hb.mono HB.out.size))
  have HX1 := hide (HX.out.below hb)
  have HY1 := hide (HY.out.below hb)
  have HSA := hide (HS.out.still (Still.of_below hb))
  have HSB := hide (HS'.out.still (Still.of_below hb))
  obtain ⟨y0, y1, y2, y3, y4⟩ := HY1.out.cells
  have hyl := HY1.out.lt
  clear hb HB HX HY HS HS'
  have hl : left0 1048576 (fr.size + (tg.size + (kids.len + kids.wt))) = ((1048576 - (fr.size + (tg.size + (kids.len + kids.wt))) : Nat) : Int) := by
    have := HH.out.2.2.2.2.1
    unfold left0; rw [if_neg (by omega)]; omega
  rw [hl]
  clear hl
  obtain ⟨r, hr⟩ : ∃ r, r = 1048576 - (fr.size + (tg.size + (kids.len + kids.wt))) := ⟨_, rfl⟩
  rw [← hr]
  have hrl : r ≤ 1048576 := by omega
  have HR := hide hr
  clear hr
  go_wp2_with fail
  refine (sz_calls kids' w1 k' ix' fr' tg' sv' r HSB.out (by omega) (by omega) HH.out.2.2.1 HH.out.2.2.2.1).mono ?_
  rintro e w2 ⟨rfl, hb⟩
  have HB2 := hide (HB1.out.trans (hb.mono HB1.out.size))
  have HX2 := hide (HX1.out.below hb)
  have HY2 := hide (HY1.out.below hb)
  have HSA2 := hide (HSA.out.still (Still.of_below hb))
  have HSB2 := hide (HSB.out.still (Still.of_below hb))
  have hl : left0 r (fr'.size + (tg'.size + (kids'.len + kids'.wt))) = ((r - (fr'.size + (tg'.size + (kids'.len + kids'.wt))) : Nat) : Int) := by
    have h1 := HH.out.2.2.2.2.1
    have h2 := HR.out
    unfold left0; rw [if_neg (by omega)]; omega
  rw [hl]
  clear hl y0 y1 y2 y3 y4 hyl hb HB1 HX1 HY1 HSA HSB
  obtain ⟨x0, x1, x2, x3, x4⟩ := HX2.out.cells
  obtain ⟨y0, y1, y2, y3, y4⟩ := HY2.out.cells
  have hxl := HX2.out.lt
  have hyl := HY2.out.lt
  generalize (r - (fr'.size + (tg'.size + (kids'.len + kids'.wt))) : Nat) = r2
  go_wp2_with fail
  have hbc : Below w.heap.size w w2.drew := HB2.out.drew
  have HXc := hide HX2.out.drew
  have HYc := hide HY2.out.drew
  have hst : Still w2 w2.drew := fun _ _ h => h
  have HSAc : Hid (Sl w2.drew sv kids) := hide (HSA2.out.still hst)
  have HSBc : Hid (Sl w2.drew sv' kids') := hide (HSB2.out.still hst)
  clear hst
  go_region_held3 (fun w' => w'.cell? ⟨w.heap.size, 0, none⟩ = some (.int .i64 k) ∧ w'.cell? ⟨w.heap.size, 1, none⟩ = some (.string fr) ∧ w'.cell? ⟨w.heap.size, 2, none⟩ = some (.string tg) ∧ w'.cell? ⟨w.heap.size, 3, none⟩ = some (.int .i64 ix) ∧ w'.cell? ⟨w.heap.size, 4, none⟩ = some sv ∧
      w'.cell? ⟨w.heap.size + 1, 0, none⟩ = some (.int .i64 k') ∧ w'.cell? ⟨w.heap.size + 1, 1, none⟩ = some (.string fr') ∧ w'.cell? ⟨w.heap.size + 1, 2, none⟩ = some (.string tg') ∧ w'.cell? ⟨w.heap.size + 1, 3, none⟩ = some (.int .i64 ix') ∧ w'.cell? ⟨w.heap.size + 1, 4, none⟩ = some sv')
    (first | exact ⟨x0, x1, x2, x3, x4, y0, y1, y2, y3, y4⟩)
    ((first
      | (go_at_call 20; (with_reducible refine (to_calls kids _ k ix fr tg sv ?_ HH.out.2.2.2.2.2.1).mono ?_); (exact HSAc.out); rintro e wA ⟨uA, bsA, rfl, howA, -, -, hbA⟩; (have hbc := hbc.trans (hbA.mono hbc.size)); (have HXc := hide (HXc.out.below hbA)); (have HYc := hide (HYc.out.below hbA)); (have HSAc := hide (HSAc.out.still (Still.of_below hbA))); (have HSBc := hide (HSBc.out.still (Still.of_below hbA))); (have HUA := hide howA.sl); (try have HUB := hide (HUB.out.still (Still.of_below hbA))); (obtain ⟨x0, x1, x2, x3, x4⟩ := HXc.out.cells); (obtain ⟨y0, y1, y2, y3, y4⟩ := HYc.out.cells))
      | (go_at_call 20; (with_reducible refine (to_calls kids' _ k' ix' fr' tg' sv' ?_ HH.out.2.2.2.2.2.2.1).mono ?_); (exact HSBc.out); rintro e wB ⟨uB, bsB, rfl, howB, -, -, hbB⟩; (have hbc := hbc.trans (hbB.mono hbc.size)); (have HXc := hide (HXc.out.below hbB)); (have HYc := hide (HYc.out.below hbB)); (have HSAc := hide (HSAc.out.still (Still.of_below hbB))); (have HSBc := hide (HSBc.out.still (Still.of_below hbB))); (have HUB := hide howB.sl); (try have HUA := hide (HUA.out.still (Still.of_below hbB))); (obtain ⟨x0, x1, x2, x3, x4⟩ := HXc.out.cells); (obtain ⟨y0, y1, y2, y3, y4⟩ := HYc.out.cells))
      | (go_at_call 23; refine (ge_calls _ k ix k' ix' fr tg fr' tg' uA uB kids kids' HUA.out HUB.out).mono ?_; rintro e wC ⟨rfl, hbC⟩; (have hbc := hbc.trans (hbC.mono hbc.size)); (have HXc := hide (HXc.out.below hbC)); (have HYc := hide (HYc.out.below hbC)); (have HSAc := hide (HSAc.out.still (Still.of_below hbC))); (have HSBc := hide (HSBc.out.still (Still.of_below hbC))); (obtain ⟨x0, x1, x2, x3, x4⟩ := HXc.out.cells); (obtain ⟨y0, y1, y2, y3, y4⟩ := HYc.out.cells))))
  generalize hok : sameN k fr tg ix kids k' fr' tg' ix' kids' = ok
  have HOK := hide hok
  have HC := hide hbc
  have hxl := HXc.out.lt
  have hyl := HYc.out.lt
  clear hok hbc hbA hbB hbC howA howB HUA HUB HX2 HY2 HSA2 HSB2 HB2
  go_wp2_with fail
  refine (to_calls kids _ k ix fr tg sv HSAc.out HH.out.2.2.2.2.2.1).mono ?_
  rintro e w4 ⟨u1, bs1, rfl, how1, -, -, hb4⟩
  obtain ⟨ua, uc, rfl⟩ := how1.val
  have hb5 : Below w4.heap.size w4 (w4.alloc (.cells #[.int .i64 k, .string fr, .string tg, .int .i64 ix, .slice ua kids.len uc] ( /- t -/ 48))) := alloc_below w4 _
  have HXc := hide ((HXc.out.below hb4).below hb5)
  have HYc := hide ((HYc.out.below hb4).below hb5)
  have HSAc := hide ((HSAc.out.still (Still.of_below hb4)).still (Still.of_below hb5))
  have HSBc := hide ((HSBc.out.still (Still.of_below hb4)).still (Still.of_below hb5))
  have HP := hide (Box5.now w4 (.int .i64 k) (.string fr) (.string tg) (.int .i64 ix) (.slice ua kids.len uc) ( /- t -/ 48))
  have HOA := hide (how1.same (Same.of_below hb5 how1.lt))
  have hbc := HC.out.trans (hb4.mono HC.out.size)
  have HC := hide (hbc.trans (hb5.mono hbc.size))
  obtain ⟨y0, y1, y2, y3, y4⟩ := HYc.out.cells
  have hyl := HYc.out.lt
  clear hb4 hb5 hbc how1 x0 x1 x2 x3 x4
  go_wp2_with fail
  refine (to_calls kids' _ k' ix' fr' tg' sv' HSBc.out HH.out.2.2.2.2.2.2.1).mono ?_
  rintro e w6 ⟨u2, bs2, rfl, how2, -, -, hb6⟩
  obtain ⟨va, vc, rfl⟩ := how2.val
  have hb7 : Below w6.heap.size w6 (w6.alloc (.cells #[.int .i64 k', .string fr', .string tg', .int .i64 ix', .slice va kids'.len vc] ( /- t -/ 48))) := alloc_below w6 _
  have HXc := hide ((HXc.out.below hb6).below hb7)
  have HYc := hide ((HYc.out.below hb6).below hb7)
  have HP := hide ((HP.out.below hb6).below hb7)
  have HSAc := hide ((HSAc.out.still (Still.of_below hb6)).still (Still.of_below hb7))
  have HSBc := hide ((HSBc.out.still (Still.of_below hb6)).still (Still.of_below hb7))
  have HOA1 := HOA.out.same (Same.of_below hb6 HOA.out.lt)
  have HOA := hide (HOA1.same (Same.of_below hb7 HOA1.lt))
  have HOB := hide (how2.same (Same.of_below hb7 how2.lt))
  have HQ := hide (Box5.now w6 (.int .i64 k') (.string fr') (.string tg') (.int .i64 ix') (.slice va kids'.len vc) ( /- t -/ 48))
  have hbc := HC.out.trans (hb6.mono HC.out.size)
  have HC := hide (hbc.trans (hb7.mono hbc.size))
  obtain ⟨p0, p1, p2, p3, p4⟩ := HP.out.cells
  have hpl := HP.out.lt
  clear hb6 hb7 hbc how2 HOA1 y0 y1 y2 y3 y4
  go_wp2_with fail
  refine (implSame _ k ix k' ix' fr tg fr' tg' (.slice ua kids.len uc) (.slice va kids'.len vc) kids kids' bs1 bs2 HOA.out HOB.out HH.out.2.2.2.2.2.2.2).mono ?_
  rintro e w8 ⟨rfl, hb8⟩
  rw [HOK.out]
  have HUA := hide (HOA.out.sl.still (Still.of_below hb8))
  have HUB := hide (HOB.out.sl.still (Still.of_below hb8))
  have HXc := hide (HXc.out.below hb8)
  have HYc := hide (HYc.out.below hb8)
  have HP := hide (HP.out.below hb8)
  have HQ := hide (HQ.out.below hb8)
  have HSAc := hide (HSAc.out.still (Still.of_below hb8))
  have HSBc := hide (HSBc.out.still (Still.of_below hb8))
  have HC := hide (HC.out.trans (hb8.mono HC.out.size))
  clear hb8 HOA HOB p0 p1 p2 p3 p4 hpl
  obtain ⟨p0, p1, p2, p3, p4⟩ := HP.out.cells
  obtain ⟨x0, x1, x2, x3, x4⟩ := HXc.out.cells
  have hpl := HP.out.lt
  have hxl := HXc.out.lt
  go_wp2_with fail
  have hbc := HC.out.drew
  have HP := hide HP.out.drew
  have HQ := hide HQ.out.drew
  have HXc := hide HXc.out.drew
  have HYc := hide HYc.out.drew
  have hst : Still w8 w8.drew := fun _ _ h => h
  have HSAc : Hid (Sl w8.drew sv kids) := hide (HSAc.out.still hst)
  have HSBc : Hid (Sl w8.drew sv' kids') := hide (HSBc.out.still hst)
  have HUA : Hid (Sl w8.drew (.slice ua kids.len uc) kids) := hide (HUA.out.still hst)
  have HUB : Hid (Sl w8.drew (.slice va kids'.len vc) kids') := hide (HUB.out.still hst)
  clear hst HC
  go_region_held3 (fun w' => w'.cell? ⟨w4.heap.size, 0, none⟩ = some (.int .i64 k) ∧ w'.cell? ⟨w4.heap.size, 1, none⟩ = some (.string fr) ∧ w'.cell? ⟨w4.heap.size, 2, none⟩ = some (.string tg) ∧ w'.cell? ⟨w4.heap.size, 3, none⟩ = some (.int .i64 ix) ∧ w'.cell? ⟨w4.heap.size, 4, none⟩ = some (.slice ua kids.len uc) ∧ w'.cell? ⟨w.heap.size, 0, none⟩ = some (.int .i64 k) ∧ w'.cell? ⟨w.heap.size, 1, none⟩ = some (.string fr) ∧ w'.cell? ⟨w.heap.size, 2, none⟩ = some (.string tg) ∧ w'.cell? ⟨w.heap.size, 3, none⟩ = some (.int .i64 ix) ∧ w'.cell? ⟨w.heap.size, 4, none⟩ = some sv)
    (first | exact ⟨p0, p1, p2, p3, p4, x0, x1, x2, x3, x4⟩)
    ((first
      | (go_at_call 20; refine (to_calls kids _ k ix fr tg sv ?_ HH.out.2.2.2.2.2.1).mono ?_; (exact HSAc.out); rintro e wA ⟨u3, bs3, rfl, how3, -, -, hbA⟩; (have hbc := hbc.trans (hbA.mono hbc.size)); (have HP := hide (HP.out.below hbA)); (have HQ := hide (HQ.out.below hbA)); (have HXc := hide (HXc.out.below hbA)); (have HYc := hide (HYc.out.below hbA)); (have HSAc := hide (HSAc.out.still (Still.of_below hbA))); (have HSBc := hide (HSBc.out.still (Still.of_below hbA))); (have HUA := hide (HUA.out.still (Still.of_below hbA))); (have HUB := hide (HUB.out.still (Still.of_below hbA))); (obtain ⟨p0, p1, p2, p3, p4⟩ := HP.out.cells); (obtain ⟨x0, x1, x2, x3, x4⟩ := HXc.out.cells); (have H3 := hide how3.sl))
      | (go_at_call 22; refine (eq_calls kids _ k ix fr tg _ _ ?_ ?_).mono ?_; (exact HUA.out); (exact H3.out); rintro e wD ⟨rfl, hbD⟩; (have hbc := hbc.trans (hbD.mono hbc.size)); (have HP := hide (HP.out.below hbD)); (have HQ := hide (HQ.out.below hbD)); (have HXc := hide (HXc.out.below hbD)); (have HYc := hide (HYc.out.below hbD)); (have HSAc := hide (HSAc.out.still (Still.of_below hbD))); (have HSBc := hide (HSBc.out.still (Still.of_below hbD))); (have HUA := hide (HUA.out.still (Still.of_below hbD))); (have HUB := hide (HUB.out.still (Still.of_below hbD))); (obtain ⟨p0, p1, p2, p3, p4⟩ := HP.out.cells); (obtain ⟨x0, x1, x2, x3, x4⟩ := HXc.out.cells); (have HC := hide hbc))))
  clear hbA hbD H3 how3 p0 p1 p2 p3 p4 x0 x1 x2 x3 x4 hbc hpl hxl
  obtain ⟨p0, p1, p2, p3, p4⟩ := HQ.out.cells
  obtain ⟨x0, x1, x2, x3, x4⟩ := HYc.out.cells
  have hpl := HQ.out.lt
  have hxl := HYc.out.lt
  go_wp2_with fail
  have hbc := HC.out.drew
  have HP := hide HP.out.drew
  have HQ := hide HQ.out.drew
  have HXc := hide HXc.out.drew
  have HYc := hide HYc.out.drew
  have hst : Still wD wD.drew := fun _ _ h => h
  have HSAc : Hid (Sl wD.drew sv kids) := hide (HSAc.out.still hst)
  have HSBc : Hid (Sl wD.drew sv' kids') := hide (HSBc.out.still hst)
  have HUA : Hid (Sl wD.drew (.slice ua kids.len uc) kids) := hide (HUA.out.still hst)
  have HUB : Hid (Sl wD.drew (.slice va kids'.len vc) kids') := hide (HUB.out.still hst)
  clear hst HC
  go_region_held3 (fun w' => w'.cell? ⟨w6.heap.size, 0, none⟩ = some (.int .i64 k') ∧ w'.cell? ⟨w6.heap.size, 1, none⟩ = some (.string fr') ∧ w'.cell? ⟨w6.heap.size, 2, none⟩ = some (.string tg') ∧ w'.cell? ⟨w6.heap.size, 3, none⟩ = some (.int .i64 ix') ∧ w'.cell? ⟨w6.heap.size, 4, none⟩ = some (.slice va kids'.len vc) ∧ w'.cell? ⟨w.heap.size + 1, 0, none⟩ = some (.int .i64 k') ∧ w'.cell? ⟨w.heap.size + 1, 1, none⟩ = some (.string fr') ∧ w'.cell? ⟨w.heap.size + 1, 2, none⟩ = some (.string tg') ∧ w'.cell? ⟨w.heap.size + 1, 3, none⟩ = some (.int .i64 ix') ∧ w'.cell? ⟨w.heap.size + 1, 4, none⟩ = some sv')
    (first | exact ⟨p0, p1, p2, p3, p4, x0, x1, x2, x3, x4⟩)
    ((first
      | (go_at_call 20; refine (to_calls kids' _ k' ix' fr' tg' sv' ?_ HH.out.2.2.2.2.2.2.1).mono ?_; (exact HSBc.out); rintro e wA ⟨u3, bs3, rfl, how3, -, -, hbA⟩; (have hbc := hbc.trans (hbA.mono hbc.size)); (have HP := hide (HP.out.below hbA)); (have HQ := hide (HQ.out.below hbA)); (have HXc := hide (HXc.out.below hbA)); (have HYc := hide (HYc.out.below hbA)); (have HSAc := hide (HSAc.out.still (Still.of_below hbA))); (have HSBc := hide (HSBc.out.still (Still.of_below hbA))); (have HUA := hide (HUA.out.still (Still.of_below hbA))); (have HUB := hide (HUB.out.still (Still.of_below hbA))); (obtain ⟨p0, p1, p2, p3, p4⟩ := HQ.out.cells); (obtain ⟨x0, x1, x2, x3, x4⟩ := HYc.out.cells); (have H3 := hide how3.sl))
      | (go_at_call 22; refine (eq_calls kids' _ k' ix' fr' tg' _ _ ?_ ?_).mono ?_; (exact HUB.out); (exact H3.out); rintro e wD ⟨rfl, hbD⟩; (have hbc := hbc.trans (hbD.mono hbc.size)); (have HP := hide (HP.out.below hbD)); (have HQ := hide (HQ.out.below hbD)); (have HXc := hide (HXc.out.below hbD)); (have HYc := hide (HYc.out.below hbD)); (have HSAc := hide (HSAc.out.still (Still.of_below hbD))); (have HSBc := hide (HSBc.out.still (Still.of_below hbD))); (have HUA := hide (HUA.out.still (Still.of_below hbD))); (have HUB := hide (HUB.out.still (Still.of_below hbD))); (obtain ⟨p0, p1, p2, p3, p4⟩ := HQ.out.cells); (obtain ⟨x0, x1, x2, x3, x4⟩ := HYc.out.cells); (have HC := hide hbc))))
  go_wp2_with fail
  go_ret
  exact ⟨rfl, HC.out⟩

/-- FnExactProcessEqual returns true. -/
theorem geq_walk (w : World) (k ix k' ix' : Int) (fr tg fr' tg' : ByteArray) (sv sv' : Value) (kids kids' : F) (hs : Sl w sv kids) (hs' : Sl w sv' kids') (hfr : fr.size ≤ maxLen) (hto : tg.size ≤ maxLen) (hfr' : fr'.size ≤ maxLen) (hto' : tg'.size ≤ maxLen) :
    Calls Try.prog 7 #[.agg #[.int .i64 k, .string fr, .string tg, .int .i64 ix, sv], .agg #[.int .i64 k', .string fr', .string tg', .int .i64 ix', sv']] w fun e w' => e = .returned (.bool true) ∧ Below w.heap.size w w' := by
  by_cases h : (fr.size + (tg.size + (kids.len + kids.wt))) + (fr'.size + (tg'.size + (kids'.len + kids'.wt))) ≤ 1048576
  · exact geq_small w k ix k' ix' fr tg fr' tg' sv sv' kids kids' hs hs' hfr hto hfr' hto' h
  · exact geq_big w k ix k' ix' fr tg fr' tg' sv sv' kids kids' hs hs' hfr hto hfr' hto' (Or.inr (by omega))

end Go.Proofs.Ytfppglfajbmapaa.Pc
