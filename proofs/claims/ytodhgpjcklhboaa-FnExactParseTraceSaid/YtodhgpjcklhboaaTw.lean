/- The law on ParseTrace: the walk. -/
import Derived.Test.YtodhgpjcklhboaaTp
import Derived.Test.YtodhgpjcklhboaaTm
namespace Go.Proofs.Ytodhgpjcklhboaa.Lo.Ne
open Go.RowKit

theorem res_len (s : List UInt8) : ((resT s).getD []).length ≤ 24 := by
  unfold resT
  split
  · split
    · assumption
    · simp
  · simp

set_option maxHeartbeats 400000 in
theorem pt_big (w : World) (s : ByteArray) (hbig : (1048576 : Int) < s.size) :
    Calls Try.prog 7 #[.string s] w fun e w' => e = .returned (.bool true) ∧ Below w.heap.size w w' := by
  go_enter Try.func7, Try.ntmps7
  go_wp2_with fail
  go_ret
  exact ⟨rfl, Below.refl _ _⟩

theorem pt_form {s : List UInt8} {w w' : World} {e : Ending} (h : PtPost s w e w') {L : List Act} {ok : Bool} (hL : (resT s).getD [] = L) (hok : (resT s).isSome = ok) :
    ∃ v bs, e = .returned (.tuple #[v, .bool ok]) ∧ OwG elA w' v L bs ∧ (∀ x, x ∈ bs → w.heap.size ≤ x) ∧ Below w.heap.size w w' ∧ w.heap.size ≤ w'.heap.size := by
  obtain ⟨v, bs, h1, h2, h3, _, h5, h6⟩ := h
  subst hL hok
  exact ⟨v, bs, h1, h2, h3, h5, h6⟩

set_option maxHeartbeats 1600000 in
set_option maxRecDepth 100000 in
theorem pt_small (w : World) (s : List UInt8) (hs : s.length ≤ 1048576) :
    Calls Try.prog 7 #[.string (bs s)] w fun e w' => e = .returned (.bool true) ∧ Below w.heap.size w w' := by
  have hsz : (bs s).size = s.length := bs_size s
  have hsm : ¬ ((1048576 : Int) < (s.length : Int)) := by omega
  obtain ⟨L, hL⟩ : ∃ L, (resT s).getD [] = L := ⟨_, rfl⟩
  obtain ⟨ok, hok⟩ : ∃ ok, (resT s).isSome = ok := ⟨_, rfl⟩
  have hl := res_len s
  rw [hL] at hl
  have HL := hide hL
  have HOK := hide hok
  clear hL hok
  go_enter Try.func7, Try.ntmps7
  go_wp2_with fail
  refine (specParse w s hs).mono ?_
  intro e w1 hp
  obtain ⟨v0, b0, rfl, ho0, -, hb, hz1⟩ := pt_form hp HL.out HOK.out
  obtain ⟨a0, c0, rfl⟩ := ho0.val
  have HO0 := hide ho0
  have HB1 := hide hb
  clear ho0 hb hp
  go_wp2_with fail
  refine (implParse w1 s hs).mono ?_
  intro e w2 hp
  obtain ⟨v1, b1, rfl, ho1, hge1, hb, hz2⟩ := pt_form hp HL.out HOK.out
  obtain ⟨a1, c1, rfl⟩ := ho1.val
  have HO1 := hide ho1
  have HG1 := hide hge1
  have HO0b := hide (HO0.out.same elA_flat (Same.of_below hb HO0.out.lt))
  have HLT0 : Hid (∀ x, x ∈ b0 → x < w1.heap.size) := hide HO0.out.lt
  have HB2 := hide (HB1.out.trans (hb.mono hz1))
  clear ho1 hge1 hb hp HO0
  go_wp2_with fail
  refine (eqA L w2 _ _ HO1.out.sl HO0b.out.sl).mono ?_
  rintro e w3 ⟨rfl, hb⟩
  have HO1c := hide (HO1.out.same elA_flat (Same.of_below hb HO1.out.lt))
  have HO0c := hide (HO0b.out.same elA_flat (Same.of_below hb HO0b.out.lt))
  have HB3 := hide (HB2.out.trans (hb.mono (by omega)))
  have hz3 := hb.size
  clear hb HO1 HO0b
  go_wp2_with fail
  refine (markA L w3 _ b1 1 HO1c.out (by omega) (by omega)).mono ?_
  rintro e w4 ⟨rfl, ho1, hw⟩
  have HM := hide ho1
  have HO0d := hide (HO0c.out.same elA_flat (fun x hx => hw.block x (HO0c.out.lt x hx) (fun hm => by have := HG1.out x hm; have := HLT0.out x hx; omega)))
  have HB4 := hide (HB3.out.trans (hw.to_below (fun x hx => by have := HG1.out x hx; omega) (by omega)))
  have hz4 := hw.size
  clear ho1 hw HO1c HO0c
  go_wp2_with fail
  refine (heldA L w4 _ 1 (by simpa [mkAs_len] using HM.out.sl) (by omega) (by omega)).mono ?_
  rintro e w5 ⟨rfl, hb⟩
  have HM5 := hide (HM.out.same elA_flat (Same.of_below hb HM.out.lt))
  have HO0e := hide (HO0d.out.same elA_flat (Same.of_below hb HO0d.out.lt))
  have HB5 := hide (HB4.out.trans (hb.mono (by omega)))
  have hz5 := hb.size
  clear hb HM HO0d
  go_wp2_with fail
  refine (implParse w5 s hs).mono ?_
  intro e w6 hp
  obtain ⟨v2, b2, rfl, ho2, hge2, hb, hz6⟩ := pt_form hp HL.out HOK.out
  obtain ⟨a2, c2, rfl⟩ := ho2.val
  have HO2 := hide ho2
  have HM6 := hide (HM5.out.same elA_flat (Same.of_below hb HM5.out.lt))
  have HO0f := hide (HO0e.out.same elA_flat (Same.of_below hb HO0e.out.lt))
  have HB6 := hide (HB5.out.trans (hb.mono (by omega)))
  clear hb hp ho2 hge2 HM5 HO0e
  go_wp2_with fail
  refine (eqA L w6 _ _ HO2.out.sl HO0f.out.sl).mono ?_
  rintro e w7 ⟨rfl, hb⟩
  have HM7 := hide (HM6.out.same elA_flat (Same.of_below hb HM6.out.lt))
  have HB7 := hide (HB6.out.trans (hb.mono (by omega)))
  have hz7 := hb.size
  clear hb HM6 HO0f HO2
  go_wp2_with fail
  refine (heldA L w7 _ 1 (by simpa [mkAs_len] using HM7.out.sl) (by omega) (by omega)).mono ?_
  rintro e w8 ⟨rfl, hb⟩
  have HB8 := hide (HB7.out.trans (hb.mono (by omega)))
  clear hb
  go_wp2_with fail
  go_ret
  exact ⟨rfl, HB8.out⟩

/-- FnExactParseTrace returns true. -/
theorem pt_walk (w : World) (s : ByteArray) : Calls Try.prog 7 #[.string s] w fun e w' => e = .returned (.bool true) ∧ Below w.heap.size w w' := by
  by_cases h : s.size ≤ 1048576
  · rw [← bs_list s]
    exact pt_small w _ (by have := bs_size s.data.toList; rw [bs_list] at this; omega)
  · exact pt_big w s (by omega)
end Go.Proofs.Ytodhgpjcklhboaa.Lo.Ne
