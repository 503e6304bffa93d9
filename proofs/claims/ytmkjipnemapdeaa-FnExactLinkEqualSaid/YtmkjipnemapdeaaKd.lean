/- The law on LinkEqual: the walk. -/
import Derived.Test.YtmkjipnemapdeaaKc
import Derived.StillTailTactics
import Derived.Deep.RegionHeld3
namespace Go.Proofs.Ytmkjipnemapdeaa.Tk
open Go.RowKit

theorem two_args (w : World) (m n : Lnk) (lv qv lv' qv' : Value) (t : TypeId) (h1 : SlG elP w lv m.ps) (h2 : SlG elI w qv m.ac) (h3 : SlG elP w lv' n.ps) (h4 : SlG elI w qv' n.ac) :
    LA w.heap.size m lv qv ((w.alloc (.cells #[.int .i64 m.ba, .string m.wi, .int .i64 m.ex, .string m.de, lv, qv] t)).alloc (.cells #[.int .i64 n.ba, .string n.wi, .int .i64 n.ex, .string n.de, lv', qv'] t)) ∧ LA (w.heap.size + 1) n lv' qv' ((w.alloc (.cells #[.int .i64 m.ba, .string m.wi, .int .i64 m.ex, .string m.de, lv, qv] t)).alloc (.cells #[.int .i64 n.ba, .string n.wi, .int .i64 n.ex, .string n.de, lv', qv'] t)) ∧
    Below w.heap.size w ((w.alloc (.cells #[.int .i64 m.ba, .string m.wi, .int .i64 m.ex, .string m.de, lv, qv] t)).alloc (.cells #[.int .i64 n.ba, .string n.wi, .int .i64 n.ex, .string n.de, lv', qv'] t)) := by
  have hB : Below w.heap.size w ((w.alloc (.cells #[.int .i64 m.ba, .string m.wi, .int .i64 m.ex, .string m.de, lv, qv] t)).alloc (.cells #[.int .i64 n.ba, .string n.wi, .int .i64 n.ex, .string n.de, lv', qv'] t)) := (alloc_below w _).alloc (by simp) _
  have b1 := (Box6.now w (.int .i64 m.ba) (.string m.wi) (.int .i64 m.ex) (.string m.de) lv qv t).below (alloc_below _ (.cells #[.int .i64 n.ba, .string n.wi, .int .i64 n.ex, .string n.de, lv', qv'] t))
  have b2 := Box6.now (w.alloc (.cells #[.int .i64 m.ba, .string m.wi, .int .i64 m.ex, .string m.de, lv, qv] t)) (.int .i64 n.ba) (.string n.wi) (.int .i64 n.ex) (.string n.de) lv' qv' t
  rw [show (w.alloc (.cells #[.int .i64 m.ba, .string m.wi, .int .i64 m.ex, .string m.de, lv, qv] t)).heap.size = w.heap.size + 1 from by simp] at b2
  exact ⟨⟨b1, h1.still (Still.of_below hB), h2.still (Still.of_below hB)⟩, ⟨b2, h3.still (Still.of_below hB), h4.still (Still.of_below hB)⟩, hB⟩
theorem szK (m : Lnk) (w : World) (pv av : Value) (left : Int) (hp : SlG elP w pv m.ps) (ha : SlG elI w av m.ac) (hl0 : 0 ≤ left) (hl1 : left ≤ 1048576) (hf : m.Fit) :
    Calls Try.prog 4 #[.agg #[.int .i64 m.ba, .string m.wi, .int .i64 m.ex, .string m.de, pv, av], .int .i64 left] w fun e w' => e = .returned (.int .i64 (leftK left m.wt)) ∧ Below w.heap.size w w' :=
  sz_link w m.ba m.ex m.wi m.de m.ps m.ac pv av left hp ha hl0 hl1 hf.wi hf.de

set_option maxHeartbeats 800000 in
theorem leq_big (w : World) (lv qv lv' qv' : Value) (m n : Lnk) (h1 : SlG elP w lv m.ps) (h2 : SlG elI w qv m.ac) (h3 : SlG elP w lv' n.ps) (h4 : SlG elI w qv' n.ac) (f1 : m.Fit) (f2 : n.Fit)
    (hbig : 1048576 < m.wt ∨ 1048576 < m.wt + n.wt) :
    Calls Try.prog 3 #[.agg #[.int .i64 m.ba, .string m.wi, .int .i64 m.ex, .string m.de, lv, qv], .agg #[.int .i64 n.ba, .string n.wi, .int .i64 n.ex, .string n.de, lv', qv']] w fun e w' => e = .returned (.bool true) ∧ Below w.heap.size w w' := by
  obtain ⟨A, B, hB⟩ := two_args w m n lv qv lv' qv' ( /- t -/ 25) h1 h2 h3 h4
  obtain ⟨la, lc, rfl, -, -⟩ := h1.at
  obtain ⟨qa, qc, rfl, -, -⟩ := h2.at
  obtain ⟨la', lc', rfl, -, -⟩ := h3.at
  obtain ⟨qa', qc', rfl, -, -⟩ := h4.at
  have HB := hide hB
  have HF := hide (And.intro f1 f2)
  have HH := hide hbig
  clear h1 h2 h3 h4 hbig hB f1 f2
  go_enter Try.func3, Try.ntmps3
  go_wp2_with fail
  generalize (w.alloc (.cells #[.int .i64 m.ba, .string m.wi, .int .i64 m.ex, .string m.de, .slice la m.ps.length lc, .slice qa m.ac.length qc] ( /- t -/ 25))).alloc (.cells #[.int .i64 n.ba, .string n.wi, .int .i64 n.ex, .string n.de, .slice la' n.ps.length lc', .slice qa' n.ac.length qc'] ( /- t -/ 25)) = W at *
  refine (szK m W _ _ 1048576 A.sp A.sa (by omega) (by omega) HF.out.1).mono ?_
  rintro e w1 ⟨rfl, hb⟩
  have hb1 := HB.out.trans (hb.mono HB.out.size)
  have B1 := B.go hb
  obtain ⟨y0, y1, y2, y3, y4, y5⟩ := B1.box.cells
  have hyl := B1.box.lt
  by_cases hA : 1048576 < m.wt
  · rw [show leftK 1048576 (m.wt) = -1 by unfold leftK; rw [if_pos (by omega)]]
    clear hA hb B1
    go_wp2_with fail
    go_ret
    exact ⟨rfl, hb1⟩
  · obtain ⟨r, hr, hr2⟩ : ∃ r : Nat, leftK 1048576 (m.wt) = (r : Int) ∧ r = 1048576 - m.wt := ⟨1048576 - m.wt, by unfold leftK; rw [if_neg (by omega)]; omega, rfl⟩
    rw [hr]
    have hrl : r ≤ 1048576 := by omega
    have HR := hide hr2
    clear hr hr2 hb
    go_wp2_with fail
    refine (szK n w1 _ _ r B1.sp B1.sa (by omega) (by omega) HF.out.2).mono ?_
    rintro e w2 ⟨rfl, hb⟩
    have hb2 := hb1.trans (hb.mono hb1.size)
    rw [show leftK r n.wt = -1 by
      have h1 := HR.out
      have h3 : 1048576 < m.wt ∨ 1048576 < m.wt + n.wt := HH
      unfold leftK
      rw [if_pos (by omega)]]
    clear hb
    go_wp2_with fail
    go_ret
    exact ⟨rfl, hb2⟩

set_option maxHeartbeats 3000000 in
set_option maxRecDepth 100000 in
theorem leq_small (w : World) (lv qv lv' qv' : Value) (m n : Lnk) (h1 : SlG elP w lv m.ps) (h2 : SlG elI w qv m.ac) (h3 : SlG elP w lv' n.ps) (h4 : SlG elI w qv' n.ac) (f1 : m.Fit) (f2 : n.Fit)
    (hsm : m.wt + n.wt ≤ 1048576) :
    Calls Try.prog 3 #[.agg #[.int .i64 m.ba, .string m.wi, .int .i64 m.ex, .string m.de, lv, qv], .agg #[.int .i64 n.ba, .string n.wi, .int .i64 n.ex, .string n.de, lv', qv']] w fun e w' => e = .returned (.bool true) ∧ Below w.heap.size w w' := by
  obtain ⟨A, B, hB⟩ := two_args w m n lv qv lv' qv' ( /- t -/ 25) h1 h2 h3 h4
  obtain ⟨la, lc, rfl, -, -⟩ := h1.at
  obtain ⟨qa, qc, rfl, -, -⟩ := h2.at
  obtain ⟨la', lc', rfl, -, -⟩ := h3.at
  obtain ⟨qa', qc', rfl, -, -⟩ := h4.at
  have HB := hide hB
  have HF := hide (And.intro f1 f2)
  have HN1 := hide (Lnk.wt_k (show m.wt ≤ 1048576 by omega))
  have HN2 := hide (Lnk.wt_k (show n.wt ≤ 1048576 by omega))
  have HH := hide hsm
  clear h1 h2 h3 h4 hsm hB f1 f2
  go_enter Try.func3, Try.ntmps3
  go_wp2_with fail
  generalize (w.alloc (.cells #[.int .i64 m.ba, .string m.wi, .int .i64 m.ex, .string m.de, .slice la m.ps.length lc, .slice qa m.ac.length qc] ( /- t -/ 25))).alloc (.cells #[.int .i64 n.ba, .string n.wi, .int .i64 n.ex, .string n.de, .slice la' n.ps.length lc', .slice qa' n.ac.length qc'] ( /- t -/ 25)) = W at *
  refine (szK m W _ _ 1048576 A.sp A.sa (by omega) (by omega) HF.out.1).mono ?_
  rintro e w1 ⟨rfl, hb⟩
  have HB := hide (HB.out.trans (hb.mono HB.out.size))
  have A := A.go hb
  have B := B.go hb
  obtain ⟨y0, y1, y2, y3, y4, y5⟩ := B.box.cells
  have hyl := B.box.lt
  obtain ⟨r, hr, hr2⟩ : ∃ r : Nat, leftK 1048576 (m.wt) = (r : Int) ∧ r = 1048576 - m.wt := ⟨1048576 - m.wt, by have := HH.out; unfold leftK; rw [if_neg (by omega)]; omega, rfl⟩
  rw [hr]
  have hrl : r ≤ 1048576 := by omega
  have HR := hide hr2
  clear hr hr2 hb
  go_wp2_with fail
  refine (szK n w1 _ _ r B.sp B.sa (by omega) (by omega) HF.out.2).mono ?_
  rintro e w2 ⟨rfl, hb⟩
  have HB := hide (HB.out.trans (hb.mono HB.out.size))
  have A := A.go hb
  have B := B.go hb
  obtain ⟨r2, hr2⟩ : ∃ r2 : Nat, leftK r (n.wt) = (r2 : Int) := ⟨r - n.wt, by have := HH.out; have := HR.out; unfold leftK; rw [if_neg (by omega)]; omega⟩
  rw [hr2]
  clear hr2 hb y0 y1 y2 y3 y4 y5 hyl
  obtain ⟨x0, x1, x2, x3, x4, x5⟩ := A.box.cells
  obtain ⟨y0, y1, y2, y3, y4, y5⟩ := B.box.cells
  have hxl := A.box.lt
  have hyl := B.box.lt
  go_wp2_with fail
  have hbc := HB.out.drew
  have A := A.drew
  have B := B.drew
  go_region_held3 (fun w' => w'.cell? ⟨w.heap.size, 0, none⟩ = some (.int .i64 m.ba) ∧ w'.cell? ⟨w.heap.size, 1, none⟩ = some (.string m.wi) ∧ w'.cell? ⟨w.heap.size, 2, none⟩ = some (.int .i64 m.ex) ∧ w'.cell? ⟨w.heap.size, 3, none⟩ = some (.string m.de) ∧ w'.cell? ⟨w.heap.size, 4, none⟩ = some (.slice la m.ps.length lc) ∧ w'.cell? ⟨w.heap.size, 5, none⟩ = some (.slice qa m.ac.length qc) ∧ w'.cell? ⟨w.heap.size + 1, 0, none⟩ = some (.int .i64 n.ba) ∧ w'.cell? ⟨w.heap.size + 1, 1, none⟩ = some (.string n.wi) ∧ w'.cell? ⟨w.heap.size + 1, 2, none⟩ = some (.int .i64 n.ex) ∧ w'.cell? ⟨w.heap.size + 1, 3, none⟩ = some (.string n.de) ∧ w'.cell? ⟨w.heap.size + 1, 4, none⟩ = some (.slice la' n.ps.length lc') ∧ w'.cell? ⟨w.heap.size + 1, 5, none⟩ = some (.slice qa' n.ac.length qc'))
    (first | exact ⟨x0, x1, x2, x3, x4, x5, y0, y1, y2, y3, y4, y5⟩)
    ((first
      | (go_at_call 6; (with_reducible refine (to_link _ m.ba m.ex m.wi m.de m.ps m.ac (.slice la m.ps.length lc) (.slice qa m.ac.length qc) ?_ ?_ HN1.out.1 HN1.out.2.1).mono ?_); (exact A.sp); (exact A.sa); rintro e wA ⟨uA, vA, bsA, csA, rfl, ouA, ovA, -, -, hbA⟩; (have hbc := hbc.trans (hbA.mono hbc.size)); (have A := A.go hbA); (have B := B.go hbA); (have UA := ouA.sl); (have VA := ovA.sl); (try have UB := UB.still (Still.of_below hbA)); (try have VB := VB.still (Still.of_below hbA)); (obtain ⟨x0, x1, x2, x3, x4, x5⟩ := A.box.cells); (obtain ⟨y0, y1, y2, y3, y4, y5⟩ := B.box.cells))
      | (go_at_call 6; (with_reducible refine (to_link _ n.ba n.ex n.wi n.de n.ps n.ac (.slice la' n.ps.length lc') (.slice qa' n.ac.length qc') ?_ ?_ HN2.out.1 HN2.out.2.1).mono ?_); (exact B.sp); (exact B.sa); rintro e wB ⟨uB, vB, bsB, csB, rfl, ouB, ovB, -, -, hbB⟩; (have hbc := hbc.trans (hbB.mono hbc.size)); (have A := A.go hbB); (have B := B.go hbB); (have UB := ouB.sl); (have VB := ovB.sl); (try have UA := UA.still (Still.of_below hbB)); (try have VA := VA.still (Still.of_below hbB)); (obtain ⟨x0, x1, x2, x3, x4, x5⟩ := A.box.cells); (obtain ⟨y0, y1, y2, y3, y4, y5⟩ := B.box.cells))
      | (go_at_call 5; refine (specLinkEq _ m n uA vA uB vB UA VA UB VB).mono ?_; rintro e wC ⟨rfl, hbC⟩; (have hbc := hbc.trans (hbC.mono hbc.size)); (have A := A.go hbC); (have B := B.go hbC); (obtain ⟨x0, x1, x2, x3, x4, x5⟩ := A.box.cells); (obtain ⟨y0, y1, y2, y3, y4, y5⟩ := B.box.cells))))
  generalize hok : sameK m n = ok
  have HOK := hide hok
  have HC := hide hbc
  have hxl := A.box.lt
  have hyl := B.box.lt
  clear hok hbc hbA hbB hbC UA VA UB VB ouA ovA ouB ovB
  go_wp2_with fail
  refine (to_link _ m.ba m.ex m.wi m.de m.ps m.ac _ _ A.sp A.sa HN1.out.1 HN1.out.2.1).mono ?_
  rintro e w4 ⟨u1, v1, bs1, cs1, rfl, ou1, ov1, -, -, hb4⟩
  have O1 : LO m u1 v1 bs1 cs1 w4 := ⟨ou1, ov1⟩
  obtain ⟨ua, uc, va, vc, rfl, rfl⟩ := O1.vals
  have hb5 : Below w4.heap.size w4 (w4.alloc (.cells #[.int .i64 m.ba, .string m.wi, .int .i64 m.ex, .string m.de, .slice ua m.ps.length uc, .slice va m.ac.length vc] ( /- t -/ 30))) := alloc_below w4 _
  have A := (A.go hb4).go hb5
  have B := (B.go hb4).go hb5
  have P1 := Box6.now w4 (.int .i64 m.ba) (.string m.wi) (.int .i64 m.ex) (.string m.de) (.slice ua m.ps.length uc) (.slice va m.ac.length vc) ( /- t -/ 30)
  have O1 := O1.go hb5
  have hbc := HC.out.trans (hb4.mono HC.out.size)
  have HC := hide (hbc.trans (hb5.mono hbc.size))
  obtain ⟨y0, y1, y2, y3, y4, y5⟩ := B.box.cells
  have hyl := B.box.lt
  clear hb4 hb5 hbc ou1 ov1 x0 x1 x2 x3 x4 x5 hxl
  go_wp2_with fail
  refine (to_link _ n.ba n.ex n.wi n.de n.ps n.ac _ _ B.sp B.sa HN2.out.1 HN2.out.2.1).mono ?_
  rintro e w6 ⟨u2, v2, bs2, cs2, rfl, ou2, ov2, -, -, hb6⟩
  have O2 : LO n u2 v2 bs2 cs2 w6 := ⟨ou2, ov2⟩
  obtain ⟨ua2, uc2, va2, vc2, rfl, rfl⟩ := O2.vals
  have hb7 : Below w6.heap.size w6 (w6.alloc (.cells #[.int .i64 n.ba, .string n.wi, .int .i64 n.ex, .string n.de, .slice ua2 n.ps.length uc2, .slice va2 n.ac.length vc2] ( /- t -/ 30))) := alloc_below w6 _
  have A := (A.go hb6).go hb7
  have B := (B.go hb6).go hb7
  have P1 := (P1.below hb6).below hb7
  have P2 := Box6.now w6 (.int .i64 n.ba) (.string n.wi) (.int .i64 n.ex) (.string n.de) (.slice ua2 n.ps.length uc2) (.slice va2 n.ac.length vc2) ( /- t -/ 30)
  have O1 := (O1.go hb6).go hb7
  have O2 := O2.go hb7
  have hbc := HC.out.trans (hb6.mono HC.out.size)
  have HC := hide (hbc.trans (hb7.mono hbc.size))
  obtain ⟨p0, p1, p2, p3, p4, p5⟩ := P1.cells
  have hpl := P1.lt
  clear hb6 hb7 hbc ou2 ov2 y0 y1 y2 y3 y4 y5 hyl
  go_wp2_with fail
  refine (implLinkEq _ m n _ _ _ _ O1.op.sl O1.oa.sl O2.op.sl O2.oa.sl).mono ?_
  rintro e w8 ⟨rfl, hb8⟩
  rw [HOK.out]
  have A := A.go hb8
  have B := B.go hb8
  have P1 := P1.below hb8
  have P2 := P2.below hb8
  have U1 := (O1.go hb8).op.sl
  have V1 := (O1.go hb8).oa.sl
  have U2 := (O2.go hb8).op.sl
  have V2 := (O2.go hb8).oa.sl
  have HC := hide (HC.out.trans (hb8.mono HC.out.size))
  clear hb8 O1 O2 p0 p1 p2 p3 p4 p5 hpl
  obtain ⟨p0, p1, p2, p3, p4, p5⟩ := P1.cells
  obtain ⟨x0, x1, x2, x3, x4, x5⟩ := A.box.cells
  have hpl := P1.lt
  have hxl := A.box.lt
  go_wp2_with fail
  have hbc := HC.out.drew
  have A := A.drew
  have B := B.drew
  have P1 := P1.drew
  have P2 := P2.drew
  have hst := still_drew w8
  have U1 := U1.still hst
  have V1 := V1.still hst
  have U2 := U2.still hst
  have V2 := V2.still hst
  clear hst HC
  go_region_held3 (fun w' => w'.cell? ⟨w4.heap.size, 0, none⟩ = some (.int .i64 m.ba) ∧ w'.cell? ⟨w4.heap.size, 1, none⟩ = some (.string m.wi) ∧ w'.cell? ⟨w4.heap.size, 2, none⟩ = some (.int .i64 m.ex) ∧ w'.cell? ⟨w4.heap.size, 3, none⟩ = some (.string m.de) ∧ w'.cell? ⟨w4.heap.size, 4, none⟩ = some (.slice ua m.ps.length uc) ∧ w'.cell? ⟨w4.heap.size, 5, none⟩ = some (.slice va m.ac.length vc) ∧ w'.cell? ⟨w.heap.size, 0, none⟩ = some (.int .i64 m.ba) ∧ w'.cell? ⟨w.heap.size, 1, none⟩ = some (.string m.wi) ∧ w'.cell? ⟨w.heap.size, 2, none⟩ = some (.int .i64 m.ex) ∧ w'.cell? ⟨w.heap.size, 3, none⟩ = some (.string m.de) ∧ w'.cell? ⟨w.heap.size, 4, none⟩ = some (.slice la m.ps.length lc) ∧ w'.cell? ⟨w.heap.size, 5, none⟩ = some (.slice qa m.ac.length qc))
    (first | exact ⟨p0, p1, p2, p3, p4, p5, x0, x1, x2, x3, x4, x5⟩)
    ((first
      | (go_at_call 6; (with_reducible refine (to_link _ m.ba m.ex m.wi m.de m.ps m.ac (.slice la m.ps.length lc) (.slice qa m.ac.length qc) ?_ ?_ HN1.out.1 HN1.out.2.1).mono ?_); (exact A.sp); (exact A.sa); rintro e wA ⟨u3, v3, bs3, cs3, rfl, ou3, ov3, -, -, hbA⟩; (have hbc := hbc.trans (hbA.mono hbc.size)); (have A := A.go hbA); (have B := B.go hbA); (have P1 := P1.below hbA); (have P2 := P2.below hbA); (have U1 := U1.still (Still.of_below hbA)); (have V1 := V1.still (Still.of_below hbA)); (have U2 := U2.still (Still.of_below hbA)); (have V2 := V2.still (Still.of_below hbA)); (have U3 := ou3.sl); (have V3 := ov3.sl); (obtain ⟨p0, p1, p2, p3, p4, p5⟩ := P1.cells); (obtain ⟨x0, x1, x2, x3, x4, x5⟩ := A.box.cells))
      | (go_at_call 8; refine (eq_link _ m.ba m.ex m.wi m.de m.ps m.ac _ _ _ _ U1 V1 U3 V3).mono ?_; rintro e wD ⟨rfl, hbD⟩; (have hbc := hbc.trans (hbD.mono hbc.size)); (have A := A.go hbD); (have B := B.go hbD); (have P1 := P1.below hbD); (have P2 := P2.below hbD); (have U2 := U2.still (Still.of_below hbD)); (have V2 := V2.still (Still.of_below hbD)); (obtain ⟨p0, p1, p2, p3, p4, p5⟩ := P1.cells); (obtain ⟨x0, x1, x2, x3, x4, x5⟩ := A.box.cells))))
  have HC := hide hbc
  clear hbA hbD U1 V1 U3 V3 ou3 ov3 p0 p1 p2 p3 p4 p5 x0 x1 x2 x3 x4 x5 hbc hpl hxl
  obtain ⟨p0, p1, p2, p3, p4, p5⟩ := P2.cells
  obtain ⟨x0, x1, x2, x3, x4, x5⟩ := B.box.cells
  have hpl := P2.lt
  have hxl := B.box.lt
  go_wp2_with fail
  have hbc := HC.out.drew
  have B := B.drew
  have P2 := P2.drew
  have hst := still_drew wD
  have U2 := U2.still hst
  have V2 := V2.still hst
  clear hst HC
  go_region_held3 (fun w' => w'.cell? ⟨w6.heap.size, 0, none⟩ = some (.int .i64 n.ba) ∧ w'.cell? ⟨w6.heap.size, 1, none⟩ = some (.string n.wi) ∧ w'.cell? ⟨w6.heap.size, 2, none⟩ = some (.int .i64 n.ex) ∧ w'.cell? ⟨w6.heap.size, 3, none⟩ = some (.string n.de) ∧ w'.cell? ⟨w6.heap.size, 4, none⟩ = some (.slice ua2 n.ps.length uc2) ∧ w'.cell? ⟨w6.heap.size, 5, none⟩ = some (.slice va2 n.ac.length vc2) ∧ w'.cell? ⟨w.heap.size + 1, 0, none⟩ = some (.int .i64 n.ba) ∧ w'.cell? ⟨w.heap.size + 1, 1, none⟩ = some (.string n.wi) ∧ w'.cell? ⟨w.heap.size + 1, 2, none⟩ = some (.int .i64 n.ex) ∧ w'.cell? ⟨w.heap.size + 1, 3, none⟩ = some (.string n.de) ∧ w'.cell? ⟨w.heap.size + 1, 4, none⟩ = some (.slice la' n.ps.length lc') ∧ w'.cell? ⟨w.heap.size + 1, 5, none⟩ = some (.slice qa' n.ac.length qc'))
    (first | exact ⟨p0, p1, p2, p3, p4, p5, x0, x1, x2, x3, x4, x5⟩)
    ((first
      | (go_at_call 6; (with_reducible refine (to_link _ n.ba n.ex n.wi n.de n.ps n.ac (.slice la' n.ps.length lc') (.slice qa' n.ac.length qc') ?_ ?_ HN2.out.1 HN2.out.2.1).mono ?_); (exact B.sp); (exact B.sa); rintro e wE ⟨u4, v4, bs4, cs4, rfl, ou4, ov4, -, -, hbE⟩; (have hbc := hbc.trans (hbE.mono hbc.size)); (have B := B.go hbE); (have P2 := P2.below hbE); (have U2 := U2.still (Still.of_below hbE)); (have V2 := V2.still (Still.of_below hbE)); (have U4 := ou4.sl); (have V4 := ov4.sl); (obtain ⟨p0, p1, p2, p3, p4, p5⟩ := P2.cells); (obtain ⟨x0, x1, x2, x3, x4, x5⟩ := B.box.cells))
      | (go_at_call 8; refine (eq_link _ n.ba n.ex n.wi n.de n.ps n.ac _ _ _ _ U2 V2 U4 V4).mono ?_; rintro e wF ⟨rfl, hbF⟩; (have hbc := hbc.trans (hbF.mono hbc.size)); (have B := B.go hbF); (have P2 := P2.below hbF); (obtain ⟨p0, p1, p2, p3, p4, p5⟩ := P2.cells); (obtain ⟨x0, x1, x2, x3, x4, x5⟩ := B.box.cells))))
  go_wp2_with fail
  go_ret
  exact ⟨rfl, hbc⟩

/-- FnExactLinkEqual returns true. -/
theorem leq_walk (w : World) (lv qv lv' qv' : Value) (m n : Lnk) (h1 : SlG elP w lv m.ps) (h2 : SlG elI w qv m.ac) (h3 : SlG elP w lv' n.ps) (h4 : SlG elI w qv' n.ac) (f1 : m.Fit) (f2 : n.Fit) :
    Calls Try.prog 3 #[.agg #[.int .i64 m.ba, .string m.wi, .int .i64 m.ex, .string m.de, lv, qv], .agg #[.int .i64 n.ba, .string n.wi, .int .i64 n.ex, .string n.de, lv', qv']] w fun e w' => e = .returned (.bool true) ∧ Below w.heap.size w w' := by
  by_cases h : m.wt + n.wt ≤ 1048576
  · exact leq_small w lv qv lv' qv' m n h1 h2 h3 h4 f1 f2 h
  · exact leq_big w lv qv lv' qv' m n h1 h2 h3 h4 f1 f2 (by omega)
end Go.Proofs.Ytmkjipnemapdeaa.Tk
