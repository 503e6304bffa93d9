/- The law on NetworkEqual: the walk. -/
import Derived.Test.YtodhgpjcklhboaaNq
import Derived.Test.YtodhgpjcklhboaaNz
import Derived.Test.YtodhgpjcklhboaaNt
import Derived.Test.YtodhgpjcklhboaaNe
import Derived.Test.YtodhgpjcklhboaaNa
import Derived.StillTailTactics
import Derived.Deep.RegionHeld3
namespace Go.Proofs.Ytodhgpjcklhboaa.Lo.Ne
open Go.RowKit

theorem two_args (w : World) (lv qv lv' qv' : Value) (l m : List Nd) (q p : List ByteArray) (t : TypeId) (h1 : SlG elL w lv l) (h2 : SlG elS w qv q) (h3 : SlG elL w lv' m) (h4 : SlG elS w qv' p) :
    NA w.heap.size lv qv l q ((w.alloc (.cells #[lv, qv] t)).alloc (.cells #[lv', qv'] t)) ∧ NA (w.heap.size + 1) lv' qv' m p ((w.alloc (.cells #[lv, qv] t)).alloc (.cells #[lv', qv'] t)) ∧
    Below w.heap.size w ((w.alloc (.cells #[lv, qv] t)).alloc (.cells #[lv', qv'] t)) := by
  have hB : Below w.heap.size w ((w.alloc (.cells #[lv, qv] t)).alloc (.cells #[lv', qv'] t)) := (alloc_below w _).alloc (by simp) _
  have hbx := two_nets w lv qv lv' qv' t
  exact ⟨⟨hbx.1, h1.still (Still.of_below hB), h2.still (Still.of_below hB)⟩, ⟨hbx.2, h3.still (Still.of_below hB), h4.still (Still.of_below hB)⟩, hB⟩

set_option maxHeartbeats 800000 in
theorem neq_big (w : World) (lv qv lv' qv' : Value) (l m : List Nd) (q p : List ByteArray) (h1 : SlG elL w lv l) (h2 : SlG elS w qv q) (h3 : SlG elL w lv' m) (h4 : SlG elS w qv' p)
    (hbig : 1048576 < wtNet l q ∨ 1048576 < wtNet l q + wtNet m p) :
    Calls Try.prog 5 #[.agg #[lv, qv], .agg #[lv', qv']] w fun e w' => e = .returned (.bool true) ∧ Below w.heap.size w w' := by
  obtain ⟨A, B, hB⟩ := two_args w lv qv lv' qv' l m q p ( /- t -/ 40) h1 h2 h3 h4
  obtain ⟨la, lc, rfl, -, -⟩ := h1.at
  obtain ⟨qa, qc, rfl, -, -⟩ := h2.at
  obtain ⟨la', lc', rfl, -, -⟩ := h3.at
  obtain ⟨qa', qc', rfl, -, -⟩ := h4.at
  have HB := hide hB
  have HH := hide hbig
  clear h1 h2 h3 h4 hbig hB
  go_enter Try.func5, Try.ntmps5
  go_wp2_with fail
  generalize (w.alloc (.cells #[.slice la l.length lc, .slice qa q.length qc] ( /- t -/ 40))).alloc (.cells #[.slice la' m.length lc', .slice qa' p.length qc'] ( /- t -/ 40)) = W at *
  refine (szNet W _ _ l q 1048576 A.sl A.sq (by omega) (by omega)).mono ?_
  rintro e w1 ⟨rfl, hb⟩
  have hb1 := HB.out.trans (hb.mono HB.out.size)
  have B1 := B.go hb
  obtain ⟨y0, y1⟩ := B1.box.cells
  have hyl := B1.box.lt
  change 1048576 < wtNet l q ∨ _ at HH
  rw [show l.length + wtL l + (q.length + wtS q) = wtNet l q from rfl]
  by_cases hA : 1048576 < wtNet l q
  · rw [show left0 1048576 (wtNet l q) = -1 by unfold left0; rw [if_pos (by omega)]]
    clear hA hb B1
    go_wp2_with fail
    go_ret
    exact ⟨rfl, hb1⟩
  · obtain ⟨r, hr, hr2⟩ : ∃ r : Nat, left0 1048576 (wtNet l q) = (r : Int) ∧ r = 1048576 - wtNet l q := ⟨1048576 - wtNet l q, by unfold left0; rw [if_neg (by omega)]; omega, rfl⟩
    rw [hr]
    have hrl : r ≤ 1048576 := by omega
    have HR := hide hr2
    clear hr hr2 hb
    go_wp2_with fail
    refine (szNet w1 _ _ m p r B1.sl B1.sq (by omega) (by omega)).mono ?_
    rintro e w2 ⟨rfl, hb⟩
    have hb2 := hb1.trans (hb.mono hb1.size)
    rw [show left0 r (m.length + wtL m + (p.length + wtS p)) = -1 by
      have h1 := HR.out
      have h3 : 1048576 < wtNet l q ∨ 1048576 < wtNet l q + (m.length + wtL m + (p.length + wtS p)) := HH
      unfold left0
      rw [if_pos (by omega)]]
    clear hb
    go_wp2_with fail
    go_ret
    exact ⟨rfl, hb2⟩

set_option maxHeartbeats 3000000 in
set_option maxRecDepth 100000 in
theorem neq_small (w : World) (lv qv lv' qv' : Value) (l m : List Nd) (q p : List ByteArray) (h1 : SlG elL w lv l) (h2 : SlG elS w qv q) (h3 : SlG elL w lv' m) (h4 : SlG elS w qv' p)
    (hsm : wtNet l q + wtNet m p ≤ 1048576) :
    Calls Try.prog 5 #[.agg #[lv, qv], .agg #[lv', qv']] w fun e w' => e = .returned (.bool true) ∧ Below w.heap.size w w' := by
  obtain ⟨A, B, hB⟩ := two_args w lv qv lv' qv' l m q p ( /- t -/ 40) h1 h2 h3 h4
  obtain ⟨la, lc, rfl, -, -⟩ := h1.at
  obtain ⟨qa, qc, rfl, -, -⟩ := h2.at
  obtain ⟨la', lc', rfl, -, -⟩ := h3.at
  obtain ⟨qa', qc', rfl, -, -⟩ := h4.at
  have HB := hide hB
  have HN1 := hide (wtNet_l (show wtNet l q ≤ 1048576 by omega))
  have HN2 := hide (wtNet_l (show wtNet m p ≤ 1048576 by omega))
  have HH := hide hsm
  clear h1 h2 h3 h4 hsm hB
  go_enter Try.func5, Try.ntmps5
  go_wp2_with fail
  generalize (w.alloc (.cells #[.slice la l.length lc, .slice qa q.length qc] ( /- t -/ 40))).alloc (.cells #[.slice la' m.length lc', .slice qa' p.length qc'] ( /- t -/ 40)) = W at *
  refine (szNet W _ _ l q 1048576 A.sl A.sq (by omega) (by omega)).mono ?_
  rintro e w1 ⟨rfl, hb⟩
  have HB := hide (HB.out.trans (hb.mono HB.out.size))
  have A := A.go hb
  have B := B.go hb
  obtain ⟨y0, y1⟩ := B.box.cells
  have hyl := B.box.lt
  rw [show l.length + wtL l + (q.length + wtS q) = wtNet l q from rfl]
  obtain ⟨r, hr, hr2⟩ : ∃ r : Nat, left0 1048576 (wtNet l q) = (r : Int) ∧ r = 1048576 - wtNet l q := ⟨1048576 - wtNet l q, by have := HH.out; unfold left0; rw [if_neg (by omega)]; omega, rfl⟩
  rw [hr]
  have hrl : r ≤ 1048576 := by omega
  have HR := hide hr2
  clear hr hr2 hb
  go_wp2_with fail
  refine (szNet w1 _ _ m p r B.sl B.sq (by omega) (by omega)).mono ?_
  rintro e w2 ⟨rfl, hb⟩
  have HB := hide (HB.out.trans (hb.mono HB.out.size))
  have A := A.go hb
  have B := B.go hb
  rw [show m.length + wtL m + (p.length + wtS p) = wtNet m p from rfl]
  obtain ⟨r2, hr2⟩ : ∃ r2 : Nat, left0 r (wtNet m p) = (r2 : Int) := ⟨r - wtNet m p, by have := HH.out; have := HR.out; unfold left0; rw [if_neg (by omega)]; omega⟩
  rw [hr2]
  clear hr2 hb y0 y1 hyl
  obtain ⟨x0, x1⟩ := A.box.cells
  obtain ⟨y0, y1⟩ := B.box.cells
  have hxl := A.box.lt
  have hyl := B.box.lt
  go_wp2_with fail
  have hbc := HB.out.drew
  have A := A.drew
  have B := B.drew
  go_region_held3 (fun w' => w'.cell? ⟨w.heap.size, 0, none⟩ = some (.slice la l.length lc) ∧ w'.cell? ⟨w.heap.size, 1, none⟩ = some (.slice qa q.length qc) ∧ w'.cell? ⟨w.heap.size + 1, 0, none⟩ = some (.slice la' m.length lc') ∧ w'.cell? ⟨w.heap.size + 1, 1, none⟩ = some (.slice qa' p.length qc'))
    (first | exact ⟨x0, x1, y0, y1⟩)
    ((first
      | (go_at_call 20; (with_reducible refine (toNet _ (.slice la l.length lc) (.slice qa q.length qc) l q ?_ ?_ HN1.out.1 HN1.out.2).mono ?_); (exact A.sl); (exact A.sq); rintro e wA ⟨uA, vA, bsA, csA, rfl, ouA, ovA, -, -, hbA⟩; (have hbc := hbc.trans (hbA.mono hbc.size)); (have A := A.go hbA); (have B := B.go hbA); (have UA := ouA.sl); (have VA := ovA.sl); (try have UB := UB.still (Still.of_below hbA)); (try have VB := VB.still (Still.of_below hbA)); (obtain ⟨x0, x1⟩ := A.box.cells); (obtain ⟨y0, y1⟩ := B.box.cells))
      | (go_at_call 20; (with_reducible refine (toNet _ (.slice la' m.length lc') (.slice qa' p.length qc') m p ?_ ?_ HN2.out.1 HN2.out.2).mono ?_); (exact B.sl); (exact B.sq); rintro e wB ⟨uB, vB, bsB, csB, rfl, ouB, ovB, -, -, hbB⟩; (have hbc := hbc.trans (hbB.mono hbc.size)); (have A := A.go hbB); (have B := B.go hbB); (have UB := ouB.sl); (have VB := ovB.sl); (try have UA := UA.still (Still.of_below hbB)); (try have VA := VA.still (Still.of_below hbB)); (obtain ⟨x0, x1⟩ := A.box.cells); (obtain ⟨y0, y1⟩ := B.box.cells))
      | (go_at_call 19; refine (specNetEq _ uA vA uB vB l m q p UA VA UB VB).mono ?_; rintro e wC ⟨rfl, hbC⟩; (have hbc := hbc.trans (hbC.mono hbc.size)); (have A := A.go hbC); (have B := B.go hbC); (obtain ⟨x0, x1⟩ := A.box.cells); (obtain ⟨y0, y1⟩ := B.box.cells))))
  generalize hok : (sameL l m && sameQ q p) = ok
  have HOK := hide hok
  have HC := hide hbc
  have hxl := A.box.lt
  have hyl := B.box.lt
  clear hok hbc hbA hbB hbC UA VA UB VB ouA ovA ouB ovB
  go_wp2_with fail
  refine (toNet _ _ _ l q A.sl A.sq HN1.out.1 HN1.out.2).mono ?_
  rintro e w4 ⟨u1, v1, bs1, cs1, rfl, ou1, ov1, -, -, hb4⟩
  have O1 : NO u1 v1 l q bs1 cs1 w4 := ⟨ou1, ov1⟩
  obtain ⟨ua, uc, va, vc, rfl, rfl⟩ := O1.vals
  have hb5 : Below w4.heap.size w4 (w4.alloc (.cells #[.slice ua l.length uc, .slice va q.length vc] ( /- t -/ 45))) := alloc_below w4 _
  have A := (A.go hb4).go hb5
  have B := (B.go hb4).go hb5
  have P1 := Box2.now w4 (.slice ua l.length uc) (.slice va q.length vc) ( /- t -/ 45)
  have O1 := O1.go hb5
  have hbc := HC.out.trans (hb4.mono HC.out.size)
  have HC := hide (hbc.trans (hb5.mono hbc.size))
  obtain ⟨y0, y1⟩ := B.box.cells
  have hyl := B.box.lt
  clear hb4 hb5 hbc ou1 ov1 x0 x1 hxl
  go_wp2_with fail
  refine (toNet _ _ _ m p B.sl B.sq HN2.out.1 HN2.out.2).mono ?_
  rintro e w6 ⟨u2, v2, bs2, cs2, rfl, ou2, ov2, -, -, hb6⟩
  have O2 : NO u2 v2 m p bs2 cs2 w6 := ⟨ou2, ov2⟩
  obtain ⟨ua2, uc2, va2, vc2, rfl, rfl⟩ := O2.vals
  have hb7 : Below w6.heap.size w6 (w6.alloc (.cells #[.slice ua2 m.length uc2, .slice va2 p.length vc2] ( /- t -/ 45))) := alloc_below w6 _
  have A := (A.go hb6).go hb7
  have B := (B.go hb6).go hb7
  have P1 := (P1.below hb6).below hb7
  have P2 := Box2.now w6 (.slice ua2 m.length uc2) (.slice va2 p.length vc2) ( /- t -/ 45)
  have O1 := (O1.go hb6).go hb7
  have O2 := O2.go hb7
  have hbc := HC.out.trans (hb6.mono HC.out.size)
  have HC := hide (hbc.trans (hb7.mono hbc.size))
  obtain ⟨p0, p1⟩ := P1.cells
  have hpl := P1.lt
  clear hb6 hb7 hbc ou2 ov2 y0 y1 hyl
  go_wp2_with fail
  refine (implNetEq _ _ _ _ _ l m q p bs1 cs1 bs2 cs2 O1.ol O1.oq O2.ol O2.oq HN1.out.1).mono ?_
  rintro e w8 ⟨rfl, hb8⟩
  rw [HOK.out]
  have A := A.go hb8
  have B := B.go hb8
  have P1 := P1.below hb8
  have P2 := P2.below hb8
  have U1 := (O1.go hb8).ol.sl
  have V1 := (O1.go hb8).oq.sl
  have U2 := (O2.go hb8).ol.sl
  have V2 := (O2.go hb8).oq.sl
  have HC := hide (HC.out.trans (hb8.mono HC.out.size))
  clear hb8 O1 O2 p0 p1 hpl
  obtain ⟨p0, p1⟩ := P1.cells
  obtain ⟨x0, x1⟩ := A.box.cells
  have hpl := P1.lt
  have hxl := A.box.lt
  go_wp2_with fail
  have hbc := HC.out.drew
  have A := A.drew
  have B := B.drew
  have P1 := P1.drew
  have P2 := P2.drew
  have hst := still_drew w8
  have U1 := U1.still hst
  have V1 := V1.still hst
  have U2 := U2.still hst
  have V2 := V2.still hst
  clear hst HC
  go_region_held3 (fun w' => w'.cell? ⟨w4.heap.size, 0, none⟩ = some (.slice ua l.length uc) ∧ w'.cell? ⟨w4.heap.size, 1, none⟩ = some (.slice va q.length vc) ∧ w'.cell? ⟨w.heap.size, 0, none⟩ = some (.slice la l.length lc) ∧ w'.cell? ⟨w.heap.size, 1, none⟩ = some (.slice qa q.length qc))
    (first | exact ⟨p0, p1, x0, x1⟩)
    ((first
      | (go_at_call 20; (with_reducible refine (toNet _ (.slice la l.length lc) (.slice qa q.length qc) l q ?_ ?_ HN1.out.1 HN1.out.2).mono ?_); (exact A.sl); (exact A.sq); rintro e wA ⟨u3, v3, bs3, cs3, rfl, ou3, ov3, -, -, hbA⟩; (have hbc := hbc.trans (hbA.mono hbc.size)); (have A := A.go hbA); (have B := B.go hbA); (have P1 := P1.below hbA); (have P2 := P2.below hbA); (have U1 := U1.still (Still.of_below hbA)); (have V1 := V1.still (Still.of_below hbA)); (have U2 := U2.still (Still.of_below hbA)); (have V2 := V2.still (Still.of_below hbA)); (have U3 := ou3.sl); (have V3 := ov3.sl); (obtain ⟨p0, p1⟩ := P1.cells); (obtain ⟨x0, x1⟩ := A.box.cells))
      | (go_at_call 22; refine (eqNet _ _ _ _ _ l q U1 V1 U3 V3).mono ?_; rintro e wD ⟨rfl, hbD⟩; (have hbc := hbc.trans (hbD.mono hbc.size)); (have A := A.go hbD); (have B := B.go hbD); (have P1 := P1.below hbD); (have P2 := P2.below hbD); (have U2 := U2.still (Still.of_below hbD)); (have V2 := V2.still (Still.of_below hbD)); (obtain ⟨p0, p1⟩ := P1.cells); (obtain ⟨x0, x1⟩ := A.box.cells))))
  have HC := hide hbc
  clear hbA hbD U1 V1 U3 V3 ou3 ov3 p0 p1 x0 x1 hbc hpl hxl
  obtain ⟨p0, p1⟩ := P2.cells
  obtain ⟨x0, x1⟩ := B.box.cells
  have hpl := P2.lt
  have hxl := B.box.lt
  go_wp2_with fail
  have hbc := HC.out.drew
  have B := B.drew
  have P2 := P2.drew
  have hst := still_drew wD
  have U2 := U2.still hst
  have V2 := V2.still hst
  clear hst HC
  go_region_held3 (fun w' => w'.cell? ⟨w6.heap.size, 0, none⟩ = some (.slice ua2 m.length uc2) ∧ w'.cell? ⟨w6.heap.size, 1, none⟩ = some (.slice va2 p.length vc2) ∧ w'.cell? ⟨w.heap.size + 1, 0, none⟩ = some (.slice la' m.length lc') ∧ w'.cell? ⟨w.heap.size + 1, 1, none⟩ = some (.slice qa' p.length qc'))
    (first | exact ⟨p0, p1, x0, x1⟩)
    ((first
      | (go_at_call 20; (with_reducible refine (toNet _ (.slice la' m.length lc') (.slice qa' p.length qc') m p ?_ ?_ HN2.out.1 HN2.out.2).mono ?_); (exact B.sl); (exact B.sq); rintro e wE ⟨u4, v4, bs4, cs4, rfl, ou4, ov4, -, -, hbE⟩; (have hbc := hbc.trans (hbE.mono hbc.size)); (have B := B.go hbE); (have P2 := P2.below hbE); (have U2 := U2.still (Still.of_below hbE)); (have V2 := V2.still (Still.of_below hbE)); (have U4 := ou4.sl); (have V4 := ov4.sl); (obtain ⟨p0, p1⟩ := P2.cells); (obtain ⟨x0, x1⟩ := B.box.cells))
      | (go_at_call 22; refine (eqNet _ _ _ _ _ m p U2 V2 U4 V4).mono ?_; rintro e wF ⟨rfl, hbF⟩; (have hbc := hbc.trans (hbF.mono hbc.size)); (have B := B.go hbF); (have P2 := P2.below hbF); (obtain ⟨p0, p1⟩ := P2.cells); (obtain ⟨x0, x1⟩ := B.box.cells))))
  go_wp2_with fail
  go_ret
  exact ⟨rfl, hbc⟩

/-- FnExactNetworkEqual returns true. -/
theorem neq_walk (w : World) (lv qv lv' qv' : Value) (l m : List Nd) (q p : List ByteArray) (h1 : SlG elL w lv l) (h2 : SlG elS w qv q) (h3 : SlG elL w lv' m) (h4 : SlG elS w qv' p) :
    Calls Try.prog 5 #[.agg #[lv, qv], .agg #[lv', qv']] w fun e w' => e = .returned (.bool true) ∧ Below w.heap.size w w' := by
  by_cases h : wtNet l q + wtNet m p ≤ 1048576
  · exact neq_small w lv qv lv' qv' l m q p h1 h2 h3 h4 h
  · exact neq_big w lv qv lv' qv' l m q p h1 h2 h3 h4 (by omega)
end Go.Proofs.Ytodhgpjcklhboaa.Lo.Ne
