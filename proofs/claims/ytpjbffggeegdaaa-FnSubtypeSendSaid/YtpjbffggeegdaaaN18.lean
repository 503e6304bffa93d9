/- LGs -/
import Derived.Test.YtpjbffggeegdaaaM17
import Derived.Deep.Cut
/- The law FnSubtypeSend: its walk. -/
namespace Go.Proofs.Ytpjbffggeegdaaa.Lo
open Go.RowKit

theorem Sl.less {w : World} {v : Value} {lab : ByteArray} {k : Int} {fr : ByteArray} {ix : Int} {kids rest : F} (h : Sl w v (.cons lab k fr ix kids rest)) :
    ∃ b o c, v = .slice (some ⟨b, o, none⟩) (rest.len + 1) c ∧ rest.len + 1 ≤ c ∧ c ≤ maxLen ∧ Sl w (.slice (some ⟨b, o + 5, none⟩) rest.len (c - 1)) rest := by
  obtain ⟨a, cap, rfl, h1, h2, h3⟩ := h
  rcases h3 with h3 | ⟨b, o, rfl, h3⟩
  · cases h3
  · obtain ⟨-, -, -, -, -, -, -, -, -, h4⟩ := h3
    simp only [F.len] at h1
    refine ⟨b, o, cap, rfl, h1, h2, _, cap - 1, rfl, by omega, by omega, ?_⟩
    cases rest with
    | nil => exact Or.inl rfl
    | cons => exact Or.inr ⟨b, o + 5, rfl, h4⟩

set_option maxHeartbeats 400000 in
theorem subs_big (w : World) (a : Option Addr) (n c : Nat) (hn : (1048576 : Int) < (n : Int)) :
    Calls Try.prog 3 #[.slice a n c] w fun e w' => e = .returned (.bool true) ∧ Below w.heap.size w w' := by
  go_enter Try.func3, Try.ntmps3
  go_wp2_with fail
  go_ret
  exact ⟨rfl, Below.refl _ _⟩

set_option maxHeartbeats 4000000 in
set_option maxRecDepth 100000 in
theorem subs_small (w : World) (a : Option Addr) (c : Nat) (l : List Nat) (hs : SlG elY w (.slice a l.length c) l) (hl : l.length ≤ 1048576) :
    Calls Try.prog 3 #[.slice a l.length c] w fun e w' => e = .returned (.bool true) ∧ Below w.heap.size w w' := by
  have hl2 : ¬ (1048576 : Int) < (l.length : Int) := by omega
  have HSV := hide hs
  clear hs
  go_enter Try.func3, Try.ntmps3
  go_wp2_with fail
  refine (drawU_calls w _ l HSV.out).mono ?_
  rintro e w1 ⟨g, u, bs, rfl, how, -, -, hb1, hf, hsz, -⟩
  obtain ⟨ga, gc, rfl⟩ := how.val
  have HN1 := hide (Nv.now how ( /- t -/ 25))
  have HB1 := hide (hb1.alloc hb1.size (.cells #[.int .i64 g.k, .string g.fr, .int .i64 g.ix, .slice ga g.kids.len gc] ( /- t -/ 25)))
  have HF := hide hf
  have HSZ := hide hsz
  clear how hb1 hf hsz HSV
  go_upto_region 4 with fail
  generalize w1.alloc (.cells #[.int .i64 g.k, .string g.fr, .int .i64 g.ix, .slice ga g.kids.len gc] ( /- t -/ 25)) = W1 at *
  generalize w1.heap.size = b1 at *
  obtain ⟨x0, x1, x2, x3⟩ := HN1.out.box.cells
  have lx := HN1.out.lt
  go_wp2_with fail
  refine (implUnf W1 g _ HN1.out.sl).mono ?_
  rintro e w_2 ⟨v, vbs, rfl, vhow, -, -, vhb⟩
  obtain ⟨va, vc, rfl⟩ := vhow.val
  have HNv := hide (Nv.now vhow ( /- t -/ 25))
  have HB2 := hide ((HB1.out.trans (vhb.mono HB1.out.size)).alloc (Nat.le_trans HB1.out.size vhb.size) (.cells #[.int .i64 (unfR g).k, .string (unfR g).fr, .int .i64 (unfR g).ix, .slice va (unfR g).kids.len vc] ( /- t -/ 25)))
  have HN1x := hide ((HN1.out.below vhb).below (alloc_below w_2 (.cells #[.int .i64 (unfR g).k, .string (unfR g).fr, .int .i64 (unfR g).ix, .slice va (unfR g).kids.len vc] ( /- t -/ 25))))
  clear HN1
  have HN1 := HN1x
  clear HN1x
  clear vhow vhb
  clear x0 x1 x2 x3 lx HB1
  go_upto_region 5 with fail
  generalize w_2.alloc (.cells #[.int .i64 (unfR g).k, .string (unfR g).fr, .int .i64 (unfR g).ix, .slice va (unfR g).kids.len vc] ( /- t -/ 25)) = W2 at *
  generalize w_2.heap.size = b2 at *
  obtain ⟨x0, x1, x2, x3⟩ := HN1.out.box.cells
  have lx := HN1.out.lt
  go_wp2_with fail
  refine (specUnf W2 g _ HN1.out.sl HF.out (by have := HSZ.out; omega)).mono ?_
  rintro e w_3 ⟨y, ybs, rfl, yhow, -, -, yhb⟩
  obtain ⟨ya, yc, rfl⟩ := yhow.val
  have HNy := hide (Nv.now yhow ( /- t -/ 25))
  have HB3 := hide ((HB2.out.trans (yhb.mono HB2.out.size)).alloc (Nat.le_trans HB2.out.size yhb.size) (.cells #[.int .i64 (unfR g).k, .string (unfR g).fr, .int .i64 (unfR g).ix, .slice ya (unfR g).kids.len yc] ( /- t -/ 25)))
  have HN1x := hide ((HN1.out.below yhb).below (alloc_below w_3 (.cells #[.int .i64 (unfR g).k, .string (unfR g).fr, .int .i64 (unfR g).ix, .slice ya (unfR g).kids.len yc] ( /- t -/ 25))))
  clear HN1
  have HN1 := HN1x
  clear HN1x
  have HNvx := hide ((HNv.out.below yhb).below (alloc_below w_3 (.cells #[.int .i64 (unfR g).k, .string (unfR g).fr, .int .i64 (unfR g).ix, .slice ya (unfR g).kids.len yc] ( /- t -/ 25))))
  clear HNv
  have HNv := HNvx
  clear HNvx
  clear yhow yhb
  clear x0 x1 x2 x3 lx HB2
  go_upto_region 6 with fail
  generalize w_3.alloc (.cells #[.int .i64 (unfR g).k, .string (unfR g).fr, .int .i64 (unfR g).ix, .slice ya (unfR g).kids.len yc] ( /- t -/ 25)) = W3 at *
  generalize w_3.heap.size = b3 at *
  have hSLR := HNv.out.sl
  cases hok : unfOk g with
  | false =>
    go_wp2_with fail
    go_ret
    exact ⟨rfl, HB3.out⟩
  | true =>
    have hR : unfR g = unf g := by unfold unfR; rw [if_pos hok]
    have hoo : okG g = true ∧ okG (unf g) = true := by unfold unfOk at hok; simpa using hok
    have HOO : Hid (okG g = true ∧ okG (unfR g) = true ∧ unf g = unfR g) := hide ⟨hoo.1, by rw [hR]; exact hoo.2, hR.symm⟩
    clear hR hoo
    generalize unfR g = R at *
    obtain ⟨v0, v1, v2, v3⟩ := HNv.out.box.cells
    have lv := HNv.out.lt
    by_cases k2 : R.k = 2
    · have k2b : (R.k != 2) = false := by simp [k2]
      cases hkk : R.kids with
      | nil =>
        rw [hkk] at hSLR v3
        obtain ⟨a0, c0, hv0, -, -, -⟩ := hSLR
        cases hv0
        simp only [F.len] at v3
        go_wp2_with fail
        go_ret
        exact ⟨rfl, HB3.out⟩
      | cons lab k1 fr1 ix1 kd1 rest =>
        rw [hkk] at hSLR v3
        obtain ⟨vb, vo, c, hv, hc1, hc2, hsl⟩ := hSLR.less
        rw [hv] at v3
        by_cases hr : 1 ≤ rest.len
        · obtain ⟨hL1, hL2, hL3⟩ := HOO.out
          have hL := less_facts hL1 hL3 hL2 (by omega) hkk hr
          obtain ⟨hA1, hA2⟩ := hL.2.1 k2
          have hA3 := hL.2.2.2
          obtain ⟨n, hn⟩ : ∃ n, n = rest.len + 1 := ⟨_, rfl⟩
          have hsl2 : Sl W3 (.slice (some ⟨vb, vo + 5, none⟩) (n - 1) (c - 1)) rest := by rw [hn]; exact hsl
          rw [← hn] at v3 hc1
          have hn2 : 2 ≤ n := by omega
          clear hsl hn
          have hsl := hsl2
          clear hsl2 hL hL1 hL2 hL3 hv hSLR
          have hdone : decide (n < 2) = false := decide_eq_false (by omega)
          have HC1 : Hid (∀ (W : World) (sa sb : Value), Sl W sa rest → Sl W sb g.kids → Calls Try.prog 8 #[.agg #[.int .i64 2, .string R.fr, .int .i64 R.ix, sa], .agg #[.int .i64 g.k, .string g.fr, .int .i64 g.ix, sb]] W fun e w' => e = .returned (.bool true) ∧ Below W.heap.size W w') := hide (fun W sa sb h1 h2 => by
            have h := implSub W (⟨R.k, R.fr, R.ix, rest⟩ : Nd) g sa sb h1 h2
            rw [hA1] at h
            rw [← k2]
            exact h)
          have HC2 : Hid (∀ (W : World) (sa sb : Value), Sl W sa g.kids → Sl W sb rest → Calls Try.prog 8 #[.agg #[.int .i64 g.k, .string g.fr, .int .i64 g.ix, sa], .agg #[.int .i64 2, .string R.fr, .int .i64 R.ix, sb]] W fun e w' => e = .returned (.bool false) ∧ Below W.heap.size W w') := hide (fun W sa sb h1 h2 => by
            have h := implSub W g (⟨R.k, R.fr, R.ix, rest⟩ : Nd) sa sb h1 h2
            rw [hA2] at h
            rw [← k2]
            exact h)
          have HC3 : Hid (∀ (W : World) (sa sb : Value), Sl W sa g.kids → Sl W sb rest → Calls Try.prog 9 #[.agg #[.int .i64 g.k, .string g.fr, .int .i64 g.ix, sa], .agg #[.int .i64 2, .string R.fr, .int .i64 R.ix, sb]] W fun e w' => e = .returned (.bool false) ∧ Below W.heap.size W w') := hide (fun W sa sb h1 h2 => by
            have h := implEquiv W g (⟨R.k, R.fr, R.ix, rest⟩ : Nd) sa sb h1 h2
            rw [hA3] at h
            rw [← k2]
            exact h)
          have HSL := hide hsl
          clear hA1 hA2 hA3 hsl
          go_upto_region 8 with fail
          go_upto_region 10 with fail
          have hbA := alloc_below W3 (.cells #[.int .i64 2, .string R.fr, .int .i64 R.ix, .slice (some ⟨vb, vo + 5, none⟩) (n - 1) (c - 1)] ( /- t -/ 25))
          have hfx := Box4.now W3 (.int .i64 2) (.string R.fr) (.int .i64 R.ix) (.slice (some ⟨vb, vo + 5, none⟩) (n - 1) (c - 1)) ( /- t -/ 25)
          have HSF := hide (And.intro (HSL.out.still (Still.of_below hbA)) hfx)
          have HN1n := hide (HN1.out.below hbA)
          have HB9 := hide (HB3.out.trans (hbA.mono HB3.out.size))
          clear HN1 HB3 HSL HNv HNy hbA hfx v0 v1 v2 v3 lv
          have HN1 := HN1n
          clear HN1n
          generalize W3.alloc (.cells #[.int .i64 2, .string R.fr, .int .i64 R.ix, .slice (some ⟨vb, vo + 5, none⟩) (n - 1) (c - 1)] ( /- t -/ 25)) = W4 at *
          generalize W3.heap.size = b4 at *
          obtain ⟨f0, f1, f2, f3⟩ := HSF.out.2.cells
          have lf := HSF.out.2.lt
          obtain ⟨x0, x1, x2, x3⟩ := HN1.out.box.cells
          have lx := HN1.out.lt
          go_wp2_with fail
          refine (HC1.out _ _ _ HSF.out.1 HN1.out.sl).mono ?_
          rintro e u5 ⟨rfl, hb⟩
          have HSFn := hide (And.intro (HSF.out.1.still (Still.of_below hb)) (HSF.out.2.below hb))
          have HN1n := hide (HN1.out.below hb)
          have HBn := hide (HB9.out.trans (hb.mono HB9.out.size))
          clear HSF HN1 HB9 f0 f1 f2 f3 lf x0 x1 x2 x3 lx hb
          have HSF := HSFn
          have HN1 := HN1n
          have HB9 := HBn
          clear HSFn HN1n HBn
          obtain ⟨f0, f1, f2, f3⟩ := HSF.out.2.cells
          have lf := HSF.out.2.lt
          obtain ⟨x0, x1, x2, x3⟩ := HN1.out.box.cells
          have lx := HN1.out.lt
          go_wp2_with fail
          refine (HC2.out _ _ _ HN1.out.sl HSF.out.1).mono ?_
          rintro e u6 ⟨rfl, hb⟩
          have HSFn := hide (And.intro (HSF.out.1.still (Still.of_below hb)) (HSF.out.2.below hb))
          have HN1n := hide (HN1.out.below hb)
          have HBn := hide (HB9.out.trans (hb.mono HB9.out.size))
          clear HSF HN1 HB9 f0 f1 f2 f3 lf x0 x1 x2 x3 lx hb
          have HSF := HSFn
          have HN1 := HN1n
          have HB9 := HBn
          clear HSFn HN1n HBn
          obtain ⟨f0, f1, f2, f3⟩ := HSF.out.2.cells
          have lf := HSF.out.2.lt
          obtain ⟨x0, x1, x2, x3⟩ := HN1.out.box.cells
          have lx := HN1.out.lt
          go_wp2_with fail
          refine (HC3.out _ _ _ HN1.out.sl HSF.out.1).mono ?_
          rintro e u7 ⟨rfl, hb⟩
          have HSFn := hide (And.intro (HSF.out.1.still (Still.of_below hb)) (HSF.out.2.below hb))
          have HN1n := hide (HN1.out.below hb)
          have HBn := hide (HB9.out.trans (hb.mono HB9.out.size))
          clear HSF HN1 HB9 f0 f1 f2 f3 lf x0 x1 x2 x3 lx hb
          have HSF := HSFn
          have HN1 := HN1n
          have HB9 := HBn
          clear HSFn HN1n HBn
          obtain ⟨f0, f1, f2, f3⟩ := HSF.out.2.cells
          have lf := HSF.out.2.lt
          obtain ⟨x0, x1, x2, x3⟩ := HN1.out.box.cells
          have lx := HN1.out.lt
          go_wp2_with fail
          go_ret
          exact ⟨rfl, HB9.out⟩
        · have h1 : rest.len = 0 := by omega
          rw [h1] at v3
          clear hsl hv hSLR
          go_wp2_with fail
          go_ret
          exact ⟨rfl, HB3.out⟩
    · have k2b : (R.k != 2) = true := by simp [k2]
      go_wp2_with fail
      go_ret
      exact ⟨rfl, HB3.out⟩

theorem subs_walk (w : World) (sv : Value) (l : List Nat) (hs : SlG elY w sv l) : Calls Try.prog 3 #[sv] w fun e w' => e = .returned (.bool true) ∧ Below w.heap.size w w' := by
  obtain ⟨a, c, rfl, h1, h2, h3⟩ := hs
  by_cases h : l.length ≤ 1048576
  · exact subs_small w a c l ⟨a, c, rfl, h1, h2, h3⟩ h
  · exact subs_big w a l.length c (by omega)
end Go.Proofs.Ytpjbffggeegdaaa.Lo
