/- The law on ParseLocal: the walk. -/
import Derived.Test.YtbonmdkfmgahbaaPr
import Derived.Test.YtbonmdkfmgahbaaOb
import Derived.Test.YtbonmdkfmgahbaaLEq
import Derived.Test.YtbonmdkfmgahbaaLHe
namespace Go.Proofs.Ytbonmdkfmgahbaa.Lo.Ne
open Go.RowKit

theorem outL_sz (s : List UInt8) : (outL s).kids.sz ≤ 400 := by
  unfold outL
  cases h : resL s with
  | none => exact Nat.zero_le _
  | some N =>
    have hk := ((resL_iff s N).1 h).1
    unfold okN at hk
    simp only [Bool.and_eq_true, decide_eq_true_eq] at hk
    have := hk.2
    show N.kids.sz ≤ 400
    omega
theorem pl_form {s : List UInt8} {w w' : World} {e : Ending} (h : PlPost s w e w') {R : Nd} {ok : Bool} (hR : R = outL s) (hok : ok = (resL s).isSome) :
    ∃ u bs, e = .returned (.tuple #[.agg #[.int .i64 R.k, .string R.fr, .int .i64 R.ix, u], .bool ok]) ∧ Ow w' u R.kids bs ∧ (∀ b, b ∈ bs → w.heap.size ≤ b) ∧ bs.Nodup ∧ Below w.heap.size w w' := by
  subst hR hok
  exact h

set_option maxHeartbeats 400000 in
theorem pl_big (w : World) (s : ByteArray) (hbig : (1048576 : Int) < s.size) :
    Calls Try.prog 3 #[.string s] w fun e w' => e = .returned (.bool true) ∧ Below w.heap.size w w' := by
  go_enter Try.func3, Try.ntmps3
  go_wp2_with fail
  go_ret
  exact ⟨rfl, Below.refl _ _⟩

set_option maxHeartbeats 4000000 in
set_option maxRecDepth 100000 in
theorem pl_small (w : World) (s : List UInt8) (hs : s.length ≤ 1048576) :
    Calls Try.prog 3 #[.string (bs s)] w fun e w' => e = .returned (.bool true) ∧ Below w.heap.size w w' := by
  have hsz : (bs s).size = s.length := bs_size s
  have hsm : ¬ ((1048576 : Int) < (s.length : Int)) := by omega
  obtain ⟨R, hR⟩ : ∃ R, R = outL s := ⟨_, rfl⟩
  obtain ⟨ok, hok⟩ : ∃ ok, ok = (resL s).isSome := ⟨_, rfl⟩
  have HSZ := hide (show R.kids.sz ≤ 400 by rw [hR]; exact outL_sz s)
  have HR := hide hR
  have HOK := hide hok
  clear hR hok
  go_enter Try.func3, Try.ntmps3
  go_wp2_with fail
  refine (specParseL w s hs).mono ?_
  intro e w1 hp
  obtain ⟨wu, wbs, rfl, how, hge, hnd, hb⟩ := pl_form hp HR.out HOK.out
  obtain ⟨wa, wc, rfl⟩ := how.val
  have hbA := alloc_below w1 (.cells #[.int .i64 R.k, .string R.fr, .int .i64 R.ix, .slice wa R.kids.len wc] ( /- t -/ 24))
  have HB1 := hide (hb.trans (hbA.mono hb.size))
  have HT4 := hide (LtS.now (t := ( /- t -/ 24)) how (lo := w.heap.size) hge hnd hb.size)
  have h10 := hb.size
  clear hp hb hbA how hge hnd
  obtain ⟨N4, hN4⟩ : ∃ N4, N4 = w1.heap.size := ⟨_, rfl⟩
  go_wp2_with fail
  rw [← hN4] at HT4 ⊢
  generalize hV3 : w1.alloc (.cells #[.int .i64 R.k, .string R.fr, .int .i64 R.ix, .slice wa R.kids.len wc] ( /- t -/ 24)) = V3 at *
  have hs3 : V3.heap.size = N4 + 1 := by rw [← hV3, hN4]; simp
  have h1w : w.heap.size ≤ N4 := by omega
  clear hV3 hN4 h10
  refine (implParseL V3 s hs).mono ?_
  intro e w4 hp
  obtain ⟨gu, gbs, rfl, how, hge, hnd, hb⟩ := pl_form hp HR.out HOK.out
  obtain ⟨ga, gc, rfl⟩ := how.val
  have hbA := alloc_below w4 (.cells #[.int .i64 R.k, .string R.fr, .int .i64 R.ix, .slice ga R.kids.len gc] ( /- t -/ 24))
  have HT4 := hide ((HT4.out.below hb).below hbA)
  have HB2 := hide (HB1.out.trans ((hb.trans (hbA.mono hb.size)).mono (by omega)))
  have HT7 := hide (LtS.now (t := ( /- t -/ 24)) how (lo := V3.heap.size) hge hnd hb.size)
  have h43 := hb.size
  clear hp hb hbA how hge hnd HB1
  obtain ⟨N7, hN7⟩ : ∃ N7, N7 = w4.heap.size := ⟨_, rfl⟩
  obtain ⟨y0, y1, y2, y3⟩ := HT4.out.hx.cells
  have yl := HT4.out.hx.lt
  obtain ⟨v0, v1, v2, v3⟩ := HT7.out.hx.cells
  have vl := HT7.out.hx.lt
  go_wp2_with fail
  rw [← hN7] at HT7 ⊢
  clear y0 y1 y2 y3 yl v0 v1 v2 v3 vl
  rw [hs3] at HT7
  generalize hV7 : w4.alloc (.cells #[.int .i64 R.k, .string R.fr, .int .i64 R.ix, .slice ga R.kids.len gc] ( /- t -/ 24)) = V7 at *
  have hs7 : V7.heap.size = N7 + 1 := by rw [← hV7, hN7]; simp
  have hN47 : N4 < N7 := by omega
  clear hV7 hN7 hs3 h43
  refine (eq_calls R.kids V7 R.k R.ix R.fr _ _ HT7.out.ho.sl HT4.out.ho.sl).mono ?_
  rintro e w8 ⟨rfl, hb⟩
  have HB3 := hide (HB2.out.trans (hb.mono (by omega)))
  have h87 := hb.size
  have HT4 := hide (HT4.out.below hb)
  have HT7 := hide (HT7.out.below hb)
  clear hb HB2
  obtain ⟨y0, y1, y2, y3⟩ := HT4.out.hx.cells
  have yl := HT4.out.hx.lt
  obtain ⟨v0, v1, v2, v3⟩ := HT7.out.hx.cells
  have vl := HT7.out.hx.lt
  go_wp2_with fail
  clear y0 y1 y2 y3 yl v0 v1 v2 v3 vl
  have hsz2 : 1 + 4 * R.kids.sz ≤ 16777216 := by have := HSZ.out; omega
  refine (mark_calls R.kids w8 _ gbs R.k R.ix R.fr 1 HT7.out.ho HT7.out.hn (Nat.le_refl _) hsz2).mono ?_
  rintro e w11 ⟨rfl, hog, hwr⟩
  have h7l := HT7.out.hl
  have HB4 := hide (HB3.out.trans (hwr.to_below (fun x hx => by have := h7l x hx; omega) (by omega)))
  have h118 := hwr.size
  have HT4 := hide (HT4.out.wr hwr (fun x hx => by have := h7l x hx; omega))
  have HT7 := hide (HT7.out.marked hwr hog)
  clear hwr h7l hog HB3
  obtain ⟨M, hM⟩ : ∃ M : Int, M = ((1 + 4 * R.kids.sz : Nat) : Int) := ⟨_, rfl⟩
  have hM0 : 0 ≤ M := by omega
  have HM := hide hM
  rw [← hM]
  clear hM
  obtain ⟨y0, y1, y2, y3⟩ := HT4.out.hx.cells
  have yl := HT4.out.hx.lt
  obtain ⟨v0, v1, v2, v3⟩ := HT7.out.hx.cells
  have vl := HT7.out.hx.lt
  go_wp2_with fail
  clear y0 y1 y2 y3 yl v0 v1 v2 v3 vl
  refine (held_calls R.kids w11 _ R.k R.ix R.fr 1 HT7.out.ho.sl (Nat.le_refl _) hsz2).mono ?_
  rw [← HM.out]
  rintro e w12 ⟨rfl, hb⟩
  have HB5 := hide (HB4.out.trans (hb.mono (by omega)))
  have h1211 := hb.size
  have HT4 := hide (HT4.out.below hb)
  have HT7 := hide (HT7.out.below hb)
  clear hb HB4
  obtain ⟨y0, y1, y2, y3⟩ := HT4.out.hx.cells
  have yl := HT4.out.hx.lt
  obtain ⟨v0, v1, v2, v3⟩ := HT7.out.hx.cells
  have vl := HT7.out.hx.lt
  go_wp2_with fail
  clear y0 y1 y2 y3 yl v0 v1 v2 v3 vl
  refine (implParseL w12 s hs).mono ?_
  intro e w14 hp
  obtain ⟨hu, hbs, rfl, how, hge, hnd, hb⟩ := pl_form hp HR.out HOK.out
  obtain ⟨ha, hc, rfl⟩ := how.val
  have hbA := alloc_below w14 (.cells #[.int .i64 R.k, .string R.fr, .int .i64 R.ix, .slice ha R.kids.len hc] ( /- t -/ 24))
  have HT4 := hide ((HT4.out.below hb).below hbA)
  have HT7 := hide ((HT7.out.below hb).below hbA)
  have HB6 := hide (HB5.out.trans ((hb.trans (hbA.mono hb.size)).mono (by omega)))
  have HT8 := hide (LtS.now (t := ( /- t -/ 24)) how (lo := w12.heap.size) hge hnd hb.size)
  have h1412 := hb.size
  clear hp hb hbA how hge hnd HB5
  obtain ⟨s0, s1, s2, s3⟩ := HT8.out.hx.cells
  have sl := HT8.out.hx.lt
  obtain ⟨y0, y1, y2, y3⟩ := HT4.out.hx.cells
  have yl := HT4.out.hx.lt
  obtain ⟨v0, v1, v2, v3⟩ := HT7.out.hx.cells
  have vl := HT7.out.hx.lt
  go_wp2_with fail
  clear y0 y1 y2 y3 yl v0 v1 v2 v3 vl s0 s1 s2 s3 sl
  refine (eq_calls R.kids _ R.k R.ix R.fr _ _ HT8.out.ho.sl HT4.out.ho.sl).mono ?_
  rintro e w15 ⟨rfl, hb⟩
  have HB7 := hide (HB6.out.trans (hb.mono (by simp; omega)))
  have h1514 := hb.size
  simp at h1514
  have HT4 := hide (HT4.out.below hb)
  have HT7 := hide (HT7.out.below hb)
  clear hb HT8 HB6
  obtain ⟨y0, y1, y2, y3⟩ := HT4.out.hx.cells
  have yl := HT4.out.hx.lt
  obtain ⟨v0, v1, v2, v3⟩ := HT7.out.hx.cells
  have vl := HT7.out.hx.lt
  go_wp2_with fail
  clear y0 y1 y2 y3 yl v0 v1 v2 v3 vl
  refine (held_calls R.kids w15 _ R.k R.ix R.fr 1 HT7.out.ho.sl (Nat.le_refl _) hsz2).mono ?_
  rw [← HM.out]
  rintro e w16 ⟨rfl, hb⟩
  have HB8 := hide (HB7.out.trans (hb.mono (by omega)))
  have HT4 := hide (HT4.out.below hb)
  have HT7 := hide (HT7.out.below hb)
  clear hb HB7
  obtain ⟨y0, y1, y2, y3⟩ := HT4.out.hx.cells
  have yl := HT4.out.hx.lt
  obtain ⟨v0, v1, v2, v3⟩ := HT7.out.hx.cells
  have vl := HT7.out.hx.lt
  go_wp2_with fail
  clear y0 y1 y2 y3 yl v0 v1 v2 v3 vl
  go_ret
  exact ⟨rfl, HB8.out⟩

/-- FnExactParseLocal returns true. -/
theorem pl_walk (w : World) (s : ByteArray) : Calls Try.prog 3 #[.string s] w fun e w' => e = .returned (.bool true) ∧ Below w.heap.size w w' := by
  by_cases h : s.size ≤ 1048576
  · rw [← bs_list s]
    exact pl_small w _ (by have := bs_size s.data.toList; rw [bs_list] at this; omega)
  · exact pl_big w s (by omega)
end Go.Proofs.Ytbonmdkfmgahbaa.Lo.Ne
