/- The law on RestrictTrace: the walk. -/
import Derived.Test.YtbonmdkfmgahbaaRy
import Derived.Test.YtbonmdkfmgahbaaTm
namespace Go.Proofs.Ytbonmdkfmgahbaa.Lo.Ne
open Go.RowKit

/-- A list of one's own, its blocks between two numbers. -/
structure OtS (wi : World) (L : List Act) (v : Value) (lo hi : Nat) (bs : List Nat) : Prop where
  ho : OwG elA wi v L bs
  hl : ∀ x, x ∈ bs → lo ≤ x ∧ x < hi
  hn : bs.Nodup
theorem OtS.now {w1 : World} {L : List Act} {v : Value} {lo : Nat} {bs : List Nat} (ho : OwG elA w1 v L bs) (hl : ∀ x, x ∈ bs → lo ≤ x) (hn : bs.Nodup) : OtS w1 L v lo w1.heap.size bs := ⟨ho, fun x hx => ⟨hl x hx, ho.lt x hx⟩, hn⟩
theorem OtS.below {wi wj : World} {L : List Act} {v : Value} {lo hi : Nat} {bs : List Nat} (h : OtS wi L v lo hi bs) (hb : Below wi.heap.size wi wj) : OtS wj L v lo hi bs := ⟨h.ho.same elA_flat (Same.of_below hb h.ho.lt), h.hl, h.hn⟩
theorem OtS.wr {wi wj : World} {L : List Act} {v : Value} {lo hi : Nat} {bs cs : List Nat} (h : OtS wi L v lo hi bs) (hw : Wa cs wi wj) (hc : ∀ x, x ∈ cs → x < lo ∨ hi ≤ x) : OtS wj L v lo hi bs :=
  ⟨h.ho.same elA_flat (fun x hx => hw.block x (h.ho.lt x hx) (fun hm => by have := hc _ hm; have := h.hl x hx; omega)), h.hl, h.hn⟩
theorem OtS.marked {wi wj : World} {L L' : List Act} {v : Value} {lo hi : Nat} {bs : List Nat} (h : OtS wi L v lo hi bs) (ho : OwG elA wj v L' bs) : OtS wj L' v lo hi bs := ⟨ho, h.hl, h.hn⟩

set_option maxHeartbeats 400000 in
theorem rt_role (w : World) (v : Value) (r : ByteArray) (hr : (1048576 : Int) < r.size) :
    Calls Try.prog 4 #[v, .string r] w fun e w' => e = .returned (.bool true) ∧ Below w.heap.size w w' := by
  go_enter Try.func4, Try.ntmps4
  go_wp2_with fail
  go_ret
  exact ⟨rfl, Below.refl _ _⟩

set_option maxHeartbeats 400000 in
theorem rt_big (w : World) (v : Value) (l : List Act) (r : ByteArray) (hr : ¬ (1048576 : Int) < r.size) (hs : SlG elA w v l) (hbig : 1048576 < l.length + wtA l) :
    Calls Try.prog 4 #[v, .string r] w fun e w' => e = .returned (.bool true) ∧ Below w.heap.size w w' := by
  have HS := hide hs
  have HB := hide hbig
  obtain ⟨a, cap, rfl, -, -⟩ := hs.at
  clear hs hbig
  go_enter Try.func4, Try.ntmps4
  go_wp2_with fail
  refine (szA l _ _ 1048576 HS.out (by omega) (by omega)).mono ?_
  rintro e w1 ⟨rfl, hb⟩
  rw [show leftA 1048576 (l.length + wtA l) = -1 by unfold leftA; rw [if_pos (by have := HB.out; omega)]]
  go_wp2_with fail
  go_ret
  exact ⟨rfl, hb⟩

set_option maxHeartbeats 4000000 in
set_option maxRecDepth 100000 in
theorem rt_small (w : World) (v : Value) (l : List Act) (r : ByteArray) (hr : ¬ (1048576 : Int) < r.size) (hs : SlG elA w v l) (hsm : l.length + wtA l ≤ 1048576) :
    Calls Try.prog 4 #[v, .string r] w fun e w' => e = .returned (.bool true) ∧ Below w.heap.size w w' := by
  have HS := hide hs
  have HSM := hide hsm
  have hll : l.length ≤ 1048576 := by omega
  have hLl := ofR_le r l
  obtain ⟨a, cap, rfl, -, -⟩ := hs.at
  obtain ⟨L, hL⟩ : ∃ L, L = ofR r l := ⟨_, rfl⟩
  rw [← hL] at hLl
  have HL := hide hL
  clear hs hsm hL
  go_enter Try.func4, Try.ntmps4
  go_wp2_with fail
  refine (szA l _ _ 1048576 HS.out (by omega) (by omega)).mono ?_
  rintro e w1 ⟨rfl, hb⟩
  obtain ⟨z, hz⟩ : ∃ z : Nat, leftA 1048576 (l.length + wtA l) = (z : Int) := ⟨1048576 - (l.length + wtA l), by have := HSM.out; unfold leftA; rw [if_neg (by omega)]; omega⟩
  rw [hz]
  have HB := hide hb
  clear hz hb
  go_wp2_with fail
  refine (toA l _ _ (HS.out.still (Still.of_below HB.out)) hll).mono ?_
  rintro e w2 ⟨u, bs, rfl, how, -, -, hb⟩
  have HU := hide how.sl
  have HB := hide (HB.out.trans (hb.mono HB.out.size))
  clear hb how
  go_wp2_with fail
  refine (specRestrict w2 u l r HU.out hll).mono ?_
  rw [← HL.out]
  rintro e w3 ⟨wv, wbs, rfl, how, hge, hnd, hb⟩
  obtain ⟨wa, wc, rfl⟩ := how.val
  have h2w := HB.out.size
  have HB := hide (HB.out.trans (hb.mono HB.out.size))
  have HW := hide (OtS.now how hge hnd)
  have h32 := hb.size
  clear hb how hge hnd HU
  go_wp2_with fail
  refine (toA l _ _ (HS.out.still (Still.of_below HB.out)) hll).mono ?_
  rintro e w4 ⟨xv, xbs, rfl, how, hge, hnd, hb⟩
  obtain ⟨xa, xc, rfl⟩ := how.val
  have h3w := HB.out.size
  have HB := hide (HB.out.trans (hb.mono HB.out.size))
  have HW := hide (HW.out.below hb)
  have HX := hide (OtS.now how hge hnd)
  have h43 := hb.size
  clear hb how hge hnd
  go_wp2_with fail
  refine (implRestrict w4 _ l r HX.out.ho.sl hll).mono ?_
  rw [← HL.out]
  rintro e w5 ⟨gv, gbs, rfl, how, hge, hnd, hb⟩
  obtain ⟨ga, gc, rfl⟩ := how.val
  have HB := hide (HB.out.trans (hb.mono HB.out.size))
  have HW := hide (HW.out.below hb)
  have HX := hide (HX.out.below hb)
  have HG := hide (OtS.now how hge hnd)
  have h54 := hb.size
  clear hb how hge hnd
  go_wp2_with fail
  refine (eqA L w5 _ _ HG.out.ho.sl HW.out.ho.sl).mono ?_
  rintro e w6 ⟨rfl, hb⟩
  have HB := hide (HB.out.trans (hb.mono HB.out.size))
  have HW := hide (HW.out.below hb)
  have HX := hide (HX.out.below hb)
  have HG := hide (HG.out.below hb)
  have h65 := hb.size
  clear hb
  go_wp2_with fail
  refine (toA l _ _ (HS.out.still (Still.of_below HB.out)) hll).mono ?_
  rintro e w7 ⟨yv, ybs, rfl, how, -, -, hb⟩
  have HB := hide (HB.out.trans (hb.mono HB.out.size))
  have HW := hide (HW.out.below hb)
  have HX := hide (HX.out.below hb)
  have HG := hide (HG.out.below hb)
  have HY := hide how.sl
  have h76 := hb.size
  clear hb how
  go_wp2_with fail
  refine (eqA l w7 _ _ HX.out.ho.sl HY.out).mono ?_
  rintro e w8 ⟨rfl, hb⟩
  have HB := hide (HB.out.trans (hb.mono HB.out.size))
  have HW := hide (HW.out.below hb)
  have HX := hide (HX.out.below hb)
  have HG := hide (HG.out.below hb)
  have h87 := hb.size
  clear hb HY
  go_wp2_with fail
  refine (markA l w8 _ xbs 1 HX.out.ho (by omega) (by omega)).mono ?_
  rintro e w9 ⟨rfl, -, hw⟩
  have hxl := HX.out.hl
  have HB := hide (HB.out.trans (hw.to_below (fun x hx => by have := hxl x hx; omega) (by omega)))
  have HW := hide (HW.out.wr hw (fun x hx => by have := hxl x hx; omega))
  have HG := hide (HG.out.wr hw (fun x hx => by have := hxl x hx; omega))
  have h98 := hw.size
  clear hw hxl HX
  obtain ⟨K, hK⟩ : ∃ K : Int, K = ((1 + 4 * l.length : Nat) : Int) := ⟨_, rfl⟩
  have hK0 : 0 ≤ K := by omega
  rw [← hK]
  clear hK
  go_wp2_with fail
  refine (eqA L w9 _ _ HG.out.ho.sl HW.out.ho.sl).mono ?_
  rintro e w10 ⟨rfl, hb⟩
  have HB := hide (HB.out.trans (hb.mono HB.out.size))
  have HW := hide (HW.out.below hb)
  have HG := hide (HG.out.below hb)
  have h109 := hb.size
  clear hb
  go_wp2_with fail
  refine (markA L w10 _ gbs 1 HG.out.ho (by omega) (by omega)).mono ?_
  rintro e w11 ⟨rfl, hog, hw⟩
  have hgl := HG.out.hl
  have HB := hide (HB.out.trans (hw.to_below (fun x hx => by have := hgl x hx; omega) (by omega)))
  have HW := hide (HW.out.wr hw (fun x hx => by have := hgl x hx; omega))
  have HM := hide (HG.out.marked hog)
  have h1110 := hw.size
  clear hw hgl hog HG
  obtain ⟨M, hM⟩ : ∃ M : Int, M = ((1 + 4 * L.length : Nat) : Int) := ⟨_, rfl⟩
  have hM0 : 0 ≤ M := by omega
  have HMM := hide hM
  rw [← hM]
  clear hM
  go_wp2_with fail
  refine (heldA L w11 _ 1 (by simpa [mkAs_len] using HM.out.ho.sl) (by omega) (by omega)).mono ?_
  rw [← HMM.out]
  rintro e w12 ⟨rfl, hb⟩
  have HB := hide (HB.out.trans (hb.mono HB.out.size))
  have HW := hide (HW.out.below hb)
  have HM := hide (HM.out.below hb)
  have h1211 := hb.size
  clear hb
  go_wp2_with fail
  refine (toA l _ _ (HS.out.still (Still.of_below HB.out)) hll).mono ?_
  rintro e w13 ⟨yv, ybs, rfl, how, -, -, hb⟩
  have HB := hide (HB.out.trans (hb.mono HB.out.size))
  have HW := hide (HW.out.below hb)
  have HM := hide (HM.out.below hb)
  have HY := hide how.sl
  clear hb how
  go_wp2_with fail
  refine (implRestrict w13 _ l r HY.out hll).mono ?_
  rw [← HL.out]
  rintro e w14 ⟨hv, hbs, rfl, how, -, -, hb⟩
  obtain ⟨ha, hc, rfl⟩ := how.val
  have HB := hide (HB.out.trans (hb.mono HB.out.size))
  have HW := hide (HW.out.below hb)
  have HM := hide (HM.out.below hb)
  have HH := hide how.sl
  clear hb how HY
  go_wp2_with fail
  refine (eqA L w14 _ _ HH.out HW.out.ho.sl).mono ?_
  rintro e w15 ⟨rfl, hb⟩
  have HB := hide (HB.out.trans (hb.mono HB.out.size))
  have HM := hide (HM.out.below hb)
  clear hb HH HW
  go_wp2_with fail
  refine (heldA L w15 _ 1 (by simpa [mkAs_len] using HM.out.ho.sl) (by omega) (by omega)).mono ?_
  rw [← HMM.out]
  rintro e w16 ⟨rfl, hb⟩
  have HB := hide (HB.out.trans (hb.mono HB.out.size))
  clear hb
  go_wp2_with fail
  go_ret
  exact ⟨rfl, HB.out⟩

/-- FnExactRestrictTrace returns true. -/
theorem rt_walk (w : World) (v : Value) (l : List Act) (r : ByteArray) (hs : SlG elA w v l) :
    Calls Try.prog 4 #[v, .string r] w fun e w' => e = .returned (.bool true) ∧ Below w.heap.size w w' := by
  by_cases hr : (1048576 : Int) < r.size
  · exact rt_role w v r hr
  by_cases h : l.length + wtA l ≤ 1048576
  · exact rt_small w v l r hr hs h
  · exact rt_big w v l r hr hs (by omega)
end Go.Proofs.Ytbonmdkfmgahbaa.Lo.Ne
