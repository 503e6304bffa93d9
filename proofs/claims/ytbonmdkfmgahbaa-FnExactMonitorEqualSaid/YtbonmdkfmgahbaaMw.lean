/- The law on MonitorEqual: the walk. -/
import Derived.Test.YtbonmdkfmgahbaaMq
import Derived.Test.YtbonmdkfmgahbaaMz
import Derived.Test.YtbonmdkfmgahbaaMo
import Derived.Test.YtbonmdkfmgahbaaMe
import Derived.StillTailTactics
import Derived.Deep.RegionHeld3
namespace Go.Proofs.Ytbonmdkfmgahbaa.Lo.Ne
open Go.RowKit

theorem two_mons (w : World) (m m' : Mon) (sv sv' : Value) (t : TypeId) (h1 : Sl w sv m.kids) (h2 : Sl w sv' m'.kids) :
    MA w.heap.size m sv ((w.alloc (.cells #[.string m.ro, .int .i64 m.k, .string m.fr, .int .i64 m.ix, sv] t)).alloc (.cells #[.string m'.ro, .int .i64 m'.k, .string m'.fr, .int .i64 m'.ix, sv'] t)) ∧ MA (w.heap.size + 1) m' sv' ((w.alloc (.cells #[.string m.ro, .int .i64 m.k, .string m.fr, .int .i64 m.ix, sv] t)).alloc (.cells #[.string m'.ro, .int .i64 m'.k, .string m'.fr, .int .i64 m'.ix, sv'] t)) ∧
    Below w.heap.size w ((w.alloc (.cells #[.string m.ro, .int .i64 m.k, .string m.fr, .int .i64 m.ix, sv] t)).alloc (.cells #[.string m'.ro, .int .i64 m'.k, .string m'.fr, .int .i64 m'.ix, sv'] t)) := by
  have hB : Below w.heap.size w ((w.alloc (.cells #[.string m.ro, .int .i64 m.k, .string m.fr, .int .i64 m.ix, sv] t)).alloc (.cells #[.string m'.ro, .int .i64 m'.k, .string m'.fr, .int .i64 m'.ix, sv'] t)) := (alloc_below w _).alloc (by simp) _
  have b1 := (Box5.now w (.string m.ro) (.int .i64 m.k) (.string m.fr) (.int .i64 m.ix) sv t).below (alloc_below _ (.cells #[.string m'.ro, .int .i64 m'.k, .string m'.fr, .int .i64 m'.ix, sv'] t))
  have b2 := Box5.now (w.alloc (.cells #[.string m.ro, .int .i64 m.k, .string m.fr, .int .i64 m.ix, sv] t)) (.string m'.ro) (.int .i64 m'.k) (.string m'.fr) (.int .i64 m'.ix) sv' t
  rw [show (w.alloc (.cells #[.string m.ro, .int .i64 m.k, .string m.fr, .int .i64 m.ix, sv] t)).heap.size = w.heap.size + 1 from by simp] at b2
  exact ⟨⟨b1, h1.still (Still.of_below hB)⟩, ⟨b2, h2.still (Still.of_below hB)⟩, hB⟩
theorem Mon.wt_k {m : Mon} {n : Nat} (h : m.wt ≤ n) : m.kids.len + m.kids.wt ≤ n ∧ m.kids.sz ≤ n := by
  unfold Mon.wt at h
  have := F.sz_le m.kids
  omega
theorem szM (m : Mon) (w : World) (sv : Value) (left : Int) (hs : Sl w sv m.kids) (hl0 : 0 ≤ left) (hl1 : left ≤ 1048576) (hf : m.Fit) :
    Calls Try.prog 18 #[.agg #[.string m.ro, .int .i64 m.k, .string m.fr, .int .i64 m.ix, sv], .int .i64 left] w
      fun e w' => e = .returned (.int .i64 (left0 left m.wt)) ∧ Below w.heap.size w w' := sz_mon m.kids w m.ro m.k m.ix m.fr sv left hs hl0 hl1 hf.ro hf.fr

set_option maxHeartbeats 800000 in
theorem meq_big (w : World) (m m' : Mon) (sv sv' : Value) (h1 : Sl w sv m.kids) (h2 : Sl w sv' m'.kids) (f1 : m.Fit) (f2 : m'.Fit)
    (hbig : 1048576 < m.wt ∨ 1048576 < m.wt + m'.wt) :
    Calls Try.prog 5 #[.agg #[.string m.ro, .int .i64 m.k, .string m.fr, .int .i64 m.ix, sv], .agg #[.string m'.ro, .int .i64 m'.k, .string m'.fr, .int .i64 m'.ix, sv']] w fun e w' => e = .returned (.bool true) ∧ Below w.heap.size w w' := by
  obtain ⟨A, B, hB⟩ := two_mons w m m' sv sv' ( /- t -/ 42) h1 h2
  have HB := hide hB
  have HH := hide (And.intro hbig (And.intro f1 f2))
  clear h1 h2 hbig hB f1 f2
  go_enter Try.func5, Try.ntmps5
  go_wp2_with fail
  generalize (w.alloc (.cells #[.string m.ro, .int .i64 m.k, .string m.fr, .int .i64 m.ix, sv] ( /- t -/ 42))).alloc (.cells #[.string m'.ro, .int .i64 m'.k, .string m'.fr, .int .i64 m'.ix, sv'] ( /- t -/ 42)) = W at *
  refine (szM m W _ 1048576 A.sl (by omega) (by omega) HH.out.2.1).mono ?_
  rintro e w1 ⟨rfl, hb⟩
  have hb1 := HB.out.trans (hb.mono HB.out.size)
  have B1 := B.go hb
  obtain ⟨y0, y1, y2, y3, y4⟩ := B1.box.cells
  have hyl := B1.box.lt
  by_cases hA : 1048576 < m.wt
  · rw [show left0 1048576 m.wt = -1 by unfold left0; rw [if_pos (by omega)]]
    clear hA hb B1
    go_wp2_with fail
    go_ret
    exact ⟨rfl, hb1⟩
  · obtain ⟨r, hr, hr2⟩ : ∃ r : Nat, left0 1048576 m.wt = (r : Int) ∧ r = 1048576 - m.wt := ⟨1048576 - m.wt, by unfold left0; rw [if_neg (by omega)]; omega, rfl⟩
    rw [hr]
    have hrl : r ≤ 1048576 := by omega
    have HR := hide hr2
    clear hr hr2 hb
    go_wp2_with fail
    refine (szM m' w1 _ r B1.sl (by omega) (by omega) HH.out.2.2).mono ?_
    rintro e w2 ⟨rfl, hb⟩
    have hb2 := hb1.trans (hb.mono hb1.size)
    rw [show left0 r m'.wt = -1 by
      have h1 := HR.out
      have h3 := HH.out.1
      unfold left0
      rw [if_pos (by omega)]]
    clear hb
    go_wp2_with fail
    go_ret
    exact ⟨rfl, hb2⟩

set_option maxHeartbeats 3000000 in
set_option maxRecDepth 100000 in
theorem meq_small (w : World) (m m' : Mon) (sv sv' : Value) (h1 : Sl w sv m.kids) (h2 : Sl w sv' m'.kids) (f1 : m.Fit) (f2 : m'.Fit)
    (hsm : m.wt + m'.wt ≤ 1048576) :
    Calls Try.prog 5 #[.agg #[.string m.ro, .int .i64 m.k, .string m.fr, .int .i64 m.ix, sv], .agg #[.string m'.ro, .int .i64 m'.k, .string m'.fr, .int .i64 m'.ix, sv']] w fun e w' => e = .returned (.bool true) ∧ Below w.heap.size w w' := by
  obtain ⟨A, B, hB⟩ := two_mons w m m' sv sv' ( /- t -/ 42) h1 h2
  have HB := hide hB
  have HF := hide (And.intro f1 f2)
  have HN1 := hide (Mon.wt_k (show m.wt ≤ 1048576 by omega))
  have HN2 := hide (Mon.wt_k (show m'.wt ≤ 1048576 by omega))
  have HH := hide hsm
  clear h1 h2 hsm hB f1 f2
  go_enter Try.func5, Try.ntmps5
  go_wp2_with fail
  generalize (w.alloc (.cells #[.string m.ro, .int .i64 m.k, .string m.fr, .int .i64 m.ix, sv] ( /- t -/ 42))).alloc (.cells #[.string m'.ro, .int .i64 m'.k, .string m'.fr, .int .i64 m'.ix, sv'] ( /- t -/ 42)) = W at *
  refine (szM m W _ 1048576 A.sl (by omega) (by omega) HF.out.1).mono ?_
  rintro e w1 ⟨rfl, hb⟩
  have HB := hide (HB.out.trans (hb.mono HB.out.size))
  have A := A.go hb
  have B := B.go hb
  obtain ⟨y0, y1, y2, y3, y4⟩ := B.box.cells
  have hyl := B.box.lt
  obtain ⟨r, hr, hr2⟩ : ∃ r : Nat, left0 1048576 m.wt = (r : Int) ∧ r = 1048576 - m.wt := ⟨1048576 - m.wt, by have := HH.out; unfold left0; rw [if_neg (by omega)]; omega, rfl⟩
  rw [hr]
  have hrl : r ≤ 1048576 := by omega
  have HR := hide hr2
  clear hr hr2 hb
  go_wp2_with fail
  refine (szM m' w1 _ r B.sl (by omega) (by omega) HF.out.2).mono ?_
  rintro e w2 ⟨rfl, hb⟩
  have HB := hide (HB.out.trans (hb.mono HB.out.size))
  have A := A.go hb
  have B := B.go hb
  obtain ⟨r2, hr2⟩ : ∃ r2 : Nat, left0 r m'.wt = (r2 : Int) := ⟨r - m'.wt, by have := HH.out; have := HR.out; unfold left0; rw [if_neg (by omega)]; omega⟩
  rw [hr2]
  clear hr2 hb y0 y1 y2 y3 y4 hyl
  obtain ⟨x0, x1, x2, x3, x4⟩ := A.box.cells
  obtain ⟨y0, y1, y2, y3, y4⟩ := B.box.cells
  have hxl := A.box.lt
  have hyl := B.box.lt
  go_wp2_with fail
  have hbc := HB.out.drew
  have A := A.drew
  have B := B.drew
  go_region_held3 (fun w' => w'.cell? ⟨w.heap.size, 0, none⟩ = some (.string m.ro) ∧ w'.cell? ⟨w.heap.size, 1, none⟩ = some (.int .i64 m.k) ∧ w'.cell? ⟨w.heap.size, 2, none⟩ = some (.string m.fr) ∧ w'.cell? ⟨w.heap.size, 3, none⟩ = some (.int .i64 m.ix) ∧ w'.cell? ⟨w.heap.size, 4, none⟩ = some (sv) ∧ w'.cell? ⟨w.heap.size + 1, 0, none⟩ = some (.string m'.ro) ∧ w'.cell? ⟨w.heap.size + 1, 1, none⟩ = some (.int .i64 m'.k) ∧ w'.cell? ⟨w.heap.size + 1, 2, none⟩ = some (.string m'.fr) ∧ w'.cell? ⟨w.heap.size + 1, 3, none⟩ = some (.int .i64 m'.ix) ∧ w'.cell? ⟨w.heap.size + 1, 4, none⟩ = some (sv'))
    (first | exact ⟨x0, x1, x2, x3, x4, y0, y1, y2, y3, y4⟩)
    ((first
      | (go_at_call 20; (with_reducible refine (to_mon m.kids _ m.ro m.k m.ix m.fr sv ?_ HN1.out.1).mono ?_); (exact A.sl); rintro e wA ⟨uA, bsA, rfl, ouA, -, -, hbA⟩; (have hbc := hbc.trans (hbA.mono hbc.size)); (have A := A.go hbA); (have B := B.go hbA); (have UA := ouA.sl); (try have UB := UB.still (Still.of_below hbA)); (obtain ⟨x0, x1, x2, x3, x4⟩ := A.box.cells); (obtain ⟨y0, y1, y2, y3, y4⟩ := B.box.cells))
      | (go_at_call 20; (with_reducible refine (to_mon m'.kids _ m'.ro m'.k m'.ix m'.fr sv' ?_ HN2.out.1).mono ?_); (exact B.sl); rintro e wB ⟨uB, bsB, rfl, ouB, -, -, hbB⟩; (have hbc := hbc.trans (hbB.mono hbc.size)); (have A := A.go hbB); (have B := B.go hbB); (have UB := ouB.sl); (try have UA := UA.still (Still.of_below hbB)); (obtain ⟨x0, x1, x2, x3, x4⟩ := A.box.cells); (obtain ⟨y0, y1, y2, y3, y4⟩ := B.box.cells))
      | (go_at_call 19; refine (specMonEq _ m m' uA uB UA UB).mono ?_; rintro e wC ⟨rfl, hbC⟩; (have hbc := hbc.trans (hbC.mono hbc.size)); (have A := A.go hbC); (have B := B.go hbC); (obtain ⟨x0, x1, x2, x3, x4⟩ := A.box.cells); (obtain ⟨y0, y1, y2, y3, y4⟩ := B.box.cells))))
  generalize hok : sameM m m' = ok
  have HOK := hide hok
  have HC := hide hbc
  have hxl := A.box.lt
  have hyl := B.box.lt
  clear hok hbc hbA hbB hbC UA UB ouA ouB
  go_wp2_with fail
  refine (to_mon m.kids _ m.ro m.k m.ix m.fr _ A.sl HN1.out.1).mono ?_
  rintro e w4 ⟨u1, bs1, rfl, ou1, -, -, hb4⟩
  obtain ⟨ua, uc, rfl⟩ := ou1.val
  have O1 : MO m (.slice ua m.kids.len uc) bs1 w4 := ⟨ou1⟩
  have hb5 : Below w4.heap.size w4 (w4.alloc (.cells #[.string m.ro, .int .i64 m.k, .string m.fr, .int .i64 m.ix, .slice ua m.kids.len uc] ( /- t -/ 46))) := alloc_below w4 _
  have A := (A.go hb4).go hb5
  have B := (B.go hb4).go hb5
  have P1 := Box5.now w4 (.string m.ro) (.int .i64 m.k) (.string m.fr) (.int .i64 m.ix) (.slice ua m.kids.len uc) ( /- t -/ 46)
  have O1 := O1.go hb5
  have hbc := HC.out.trans (hb4.mono HC.out.size)
  have HC := hide (hbc.trans (hb5.mono hbc.size))
  obtain ⟨y0, y1, y2, y3, y4⟩ := B.box.cells
  have hyl := B.box.lt
  clear hb4 hb5 hbc ou1 x0 x1 x2 x3 x4 hxl
  go_wp2_with fail
  refine (to_mon m'.kids _ m'.ro m'.k m'.ix m'.fr _ B.sl HN2.out.1).mono ?_
  rintro e w6 ⟨u2, bs2, rfl, ou2, -, -, hb6⟩
  obtain ⟨ua2, uc2, rfl⟩ := ou2.val
  have O2 : MO m' (.slice ua2 m'.kids.len uc2) bs2 w6 := ⟨ou2⟩
  have hb7 : Below w6.heap.size w6 (w6.alloc (.cells #[.string m'.ro, .int .i64 m'.k, .string m'.fr, .int .i64 m'.ix, .slice ua2 m'.kids.len uc2] ( /- t -/ 46))) := alloc_below w6 _
  have A := (A.go hb6).go hb7
  have B := (B.go hb6).go hb7
  have P1 := (P1.below hb6).below hb7
  have P2 := Box5.now w6 (.string m'.ro) (.int .i64 m'.k) (.string m'.fr) (.int .i64 m'.ix) (.slice ua2 m'.kids.len uc2) ( /- t -/ 46)
  have O1 := (O1.go hb6).go hb7
  have O2 := O2.go hb7
  have hbc := HC.out.trans (hb6.mono HC.out.size)
  have HC := hide (hbc.trans (hb7.mono hbc.size))
  obtain ⟨p0, p1, p2, p3, p4⟩ := P1.cells
  have hpl := P1.lt
  clear hb6 hb7 hbc ou2 y0 y1 y2 y3 y4 hyl
  go_wp2_with fail
  refine (implMonEq _ m m' _ _ bs1 bs2 O1.ow O2.ow HN1.out.2).mono ?_
  rintro e w8 ⟨rfl, hb8⟩
  rw [HOK.out]
  have A := A.go hb8
  have B := B.go hb8
  have P1 := P1.below hb8
  have P2 := P2.below hb8
  have U1 := (O1.go hb8).ow.sl
  have U2 := (O2.go hb8).ow.sl
  have HC := hide (HC.out.trans (hb8.mono HC.out.size))
  clear hb8 O1 O2 p0 p1 p2 p3 p4 hpl
  obtain ⟨p0, p1, p2, p3, p4⟩ := P1.cells
  obtain ⟨x0, x1, x2, x3, x4⟩ := A.box.cells
  have hpl := P1.lt
  have hxl := A.box.lt
  go_wp2_with fail
  have hbc := HC.out.drew
  have A := A.drew
  have B := B.drew
  have P1 := P1.drew
  have P2 := P2.drew
  have hst : Still w8 w8.drew := fun _ _ h => h
  have U1 := U1.still hst
  have U2 := U2.still hst
  clear hst HC
  go_region_held3 (fun w' => w'.cell? ⟨w4.heap.size, 0, none⟩ = some (.string m.ro) ∧ w'.cell? ⟨w4.heap.size, 1, none⟩ = some (.int .i64 m.k) ∧ w'.cell? ⟨w4.heap.size, 2, none⟩ = some (.string m.fr) ∧ w'.cell? ⟨w4.heap.size, 3, none⟩ = some (.int .i64 m.ix) ∧ w'.cell? ⟨w4.heap.size, 4, none⟩ = some (.slice ua m.kids.len uc) ∧ w'.cell? ⟨w.heap.size, 0, none⟩ = some (.string m.ro) ∧ w'.cell? ⟨w.heap.size, 1, none⟩ = some (.int .i64 m.k) ∧ w'.cell? ⟨w.heap.size, 2, none⟩ = some (.string m.fr) ∧ w'.cell? ⟨w.heap.size, 3, none⟩ = some (.int .i64 m.ix) ∧ w'.cell? ⟨w.heap.size, 4, none⟩ = some (sv))
    (first | exact ⟨p0, p1, p2, p3, p4, x0, x1, x2, x3, x4⟩)
    ((first
      | (go_at_call 20; (with_reducible refine (to_mon m.kids _ m.ro m.k m.ix m.fr sv ?_ HN1.out.1).mono ?_); (exact A.sl); rintro e wA ⟨u3, bs3, rfl, ou3, -, -, hbA⟩; (have hbc := hbc.trans (hbA.mono hbc.size)); (have A := A.go hbA); (have B := B.go hbA); (have P1 := P1.below hbA); (have P2 := P2.below hbA); (have U1 := U1.still (Still.of_below hbA)); (have U2 := U2.still (Still.of_below hbA)); (have U3 := ou3.sl); (obtain ⟨p0, p1, p2, p3, p4⟩ := P1.cells); (obtain ⟨x0, x1, x2, x3, x4⟩ := A.box.cells))
      | (go_at_call 22; refine (eq_mon m.kids _ m.ro m.k m.ix m.fr _ _ U1 U3).mono ?_; rintro e wD ⟨rfl, hbD⟩; (have hbc := hbc.trans (hbD.mono hbc.size)); (have A := A.go hbD); (have B := B.go hbD); (have P1 := P1.below hbD); (have P2 := P2.below hbD); (have U2 := U2.still (Still.of_below hbD)); (obtain ⟨p0, p1, p2, p3, p4⟩ := P1.cells); (obtain ⟨x0, x1, x2, x3, x4⟩ := A.box.cells))))
  have HC := hide hbc
  clear hbA hbD U1 U3 ou3 p0 p1 p2 p3 p4 x0 x1 x2 x3 x4 hbc hpl hxl
  obtain ⟨p0, p1, p2, p3, p4⟩ := P2.cells
  obtain ⟨x0, x1, x2, x3, x4⟩ := B.box.cells
  have hpl := P2.lt
  have hxl := B.box.lt
  go_wp2_with fail
  have hbc := HC.out.drew
  have B := B.drew
  have P2 := P2.drew
  have hst : Still wD wD.drew := fun _ _ h => h
  have U2 := U2.still hst
  clear hst HC
  go_region_held3 (fun w' => w'.cell? ⟨w6.heap.size, 0, none⟩ = some (.string m'.ro) ∧ w'.cell? ⟨w6.heap.size, 1, none⟩ = some (.int .i64 m'.k) ∧ w'.cell? ⟨w6.heap.size, 2, none⟩ = some (.string m'.fr) ∧ w'.cell? ⟨w6.heap.size, 3, none⟩ = some (.int .i64 m'.ix) ∧ w'.cell? ⟨w6.heap.size, 4, none⟩ = some (.slice ua2 m'.kids.len uc2) ∧ w'.cell? ⟨w.heap.size + 1, 0, none⟩ = some (.string m'.ro) ∧ w'.cell? ⟨w.heap.size + 1, 1, none⟩ = some (.int .i64 m'.k) ∧ w'.cell? ⟨w.heap.size + 1, 2, none⟩ = some (.string m'.fr) ∧ w'.cell? ⟨w.heap.size + 1, 3, none⟩ = some (.int .i64 m'.ix) ∧ w'.cell? ⟨w.heap.size + 1, 4, none⟩ = some (sv'))
    (first | exact ⟨p0, p1, p2, p3, p4, x0, x1, x2, x3, x4⟩)
    ((first
      | (go_at_call 20; (with_reducible refine (to_mon m'.kids _ m'.ro m'.k m'.ix m'.fr sv' ?_ HN2.out.1).mono ?_); (exact B.sl); rintro e wE ⟨u4, bs4, rfl, ou4, -, -, hbE⟩; (have hbc := hbc.trans (hbE.mono hbc.size)); (have B := B.go hbE); (have P2 := P2.below hbE); (have U2 := U2.still (Still.of_below hbE)); (have U4 := ou4.sl); (obtain ⟨p0, p1, p2, p3, p4⟩ := P2.cells); (obtain ⟨x0, x1, x2, x3, x4⟩ := B.box.cells))
      | (go_at_call 22; refine (eq_mon m'.kids _ m'.ro m'.k m'.ix m'.fr _ _ U2 U4).mono ?_; rintro e wF ⟨rfl, hbF⟩; (have hbc := hbc.trans (hbF.mono hbc.size)); (have B := B.go hbF); (have P2 := P2.below hbF); (obtain ⟨p0, p1, p2, p3, p4⟩ := P2.cells); (obtain ⟨x0, x1, x2, x3, x4⟩ := B.box.cells))))
  go_wp2_with fail
  go_ret
  exact ⟨rfl, hbc⟩

/-- FnExactMonitorEqual returns true. -/
theorem meq_walk (w : World) (m m' : Mon) (sv sv' : Value) (h1 : Sl w sv m.kids) (h2 : Sl w sv' m'.kids) (f1 : m.Fit) (f2 : m'.Fit) :
    Calls Try.prog 5 #[.agg #[.string m.ro, .int .i64 m.k, .string m.fr, .int .i64 m.ix, sv], .agg #[.string m'.ro, .int .i64 m'.k, .string m'.fr, .int .i64 m'.ix, sv']] w fun e w' => e = .returned (.bool true) ∧ Below w.heap.size w w' := by
  by_cases h : m.wt + m'.wt ≤ 1048576
  · exact meq_small w m m' sv sv' h1 h2 f1 f2 h
  · exact meq_big w m m' sv sv' h1 h2 f1 f2 (by omega)
end Go.Proofs.Ytbonmdkfmgahbaa.Lo.Ne
