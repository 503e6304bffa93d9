/- LinkSent of the model and of the program; the laws on LinkValid and on LinkSent: the walks. -/
import Derived.Test.YtmkjipnemapdeaaDoorKq
import Derived.StillTailTactics
import Derived.Deep.RegionHeld3
namespace Go.Proofs.YtmkjipnemapdeaaDoor.Tk
open Go.RowKit

/-- The labels sent on a link, if it is valid. -/
def sentB (m : Lnk) : ByteArray := if linkB m = true then m.de.extract 0 m.ba.toNat ++ m.wi else ⟨#[]⟩
theorem linkB_ba {m : Lnk} (h : linkB m = true) : ∃ b : Nat, m.ba = (b : Int) ∧ b ≤ m.de.size := by
  unfold linkB at h
  simp only [Bool.and_eq_true, decide_eq_true_eq] at h
  obtain ⟨-, h2, h3, h4, -⟩ := h
  exact ⟨m.ba.toNat, by omega, by omega⟩

set_option maxHeartbeats 800000 in
theorem specLinkSent (w : World) (m : Lnk) (pv av : Value) (hp : SlG elP w pv m.ps) (ha : SlG elI w av m.ac) (hwi : m.wi.size ≤ 1048576) (hde : m.de.size ≤ 1048576) :
    Calls Tryd.prog 11 #[.agg #[.int .i64 m.ba, .string m.wi, .int .i64 m.ex, .string m.de, pv, av]] w fun e w' => e = .returned (.string (sentB m)) ∧ Below w.heap.size w w' := by
  obtain ⟨la, lc, rfl, -, -⟩ := hp.at
  obtain ⟨qa, qc, rfl, -, -⟩ := ha.at
  have hB := alloc_below w (.cells #[.int .i64 m.ba, .string m.wi, .int .i64 m.ex, .string m.de, .slice la m.ps.length lc, .slice qa m.ac.length qc] ( /- t -/ 30))
  have HX := hide (Box6.now w (.int .i64 m.ba) (.string m.wi) (.int .i64 m.ex) (.string m.de) (.slice la m.ps.length lc) (.slice qa m.ac.length qc) ( /- t -/ 30))
  have HP := hide (hp.still (Still.of_below hB))
  have HA := hide (ha.still (Still.of_below hB))
  have HB := hide hB
  clear hp ha hB
  cases hok : linkB m with
  | false =>
    have HS := hide (show sentB m = ⟨#[]⟩ by unfold sentB; rw [hok]; rfl)
    have HV := hide (fun (W : World) (hp : SlG elP W (.slice la m.ps.length lc) m.ps) (ha : SlG elI W (.slice qa m.ac.length qc) m.ac) => (show Calls Tryd.prog 7 #[.agg #[.int .i64 m.ba, .string m.wi, .int .i64 m.ex, .string m.de, .slice la m.ps.length lc, .slice qa m.ac.length qc]] W (fun e w' => e = .returned (.bool false) ∧ Below W.heap.size W w') by have := specLinkValid W m _ _ hp ha hwi hde; rw [hok] at this; exact this))
    rw [HS.out]
    clear hok
    go_enter Tryd.func11, Tryd.ntmps11
    go_wp2_with fail
    refine (HV.out _ HP.out HA.out).mono ?_
    rintro e w1 ⟨rfl, hb⟩
    have hb2 := HB.out.trans (hb.mono HB.out.size)
    clear hb
    go_wp2_with fail
    go_ret
    exact ⟨rfl, hb2⟩
  | true =>
    obtain ⟨b, hb, hbd⟩ := linkB_ba hok
    have HS := hide (show sentB m = m.de.extract 0 b ++ m.wi by unfold sentB; rw [hok, hb, Int.toNat_natCast]; rfl)
    have HV := hide (fun (W : World) (hp : SlG elP W (.slice la m.ps.length lc) m.ps) (ha : SlG elI W (.slice qa m.ac.length qc) m.ac) => (show Calls Tryd.prog 7 #[.agg #[.int .i64 m.ba, .string m.wi, .int .i64 m.ex, .string m.de, .slice la m.ps.length lc, .slice qa m.ac.length qc]] W (fun e w' => e = .returned (.bool true) ∧ Below W.heap.size W w') by have := specLinkValid W m _ _ hp ha hwi hde; rw [hok] at this; exact this))
    have HSN := hide (fun (W : World) => (show Calls Tryd.prog 30 #[.agg #[.int .i64 m.ba, .string m.wi, .int .i64 m.ex, .string m.de, .slice la m.ps.length lc, .slice qa m.ac.length qc]] W (fun e w' => e = .returned (.string (m.de.extract 0 b ++ m.wi)) ∧ Below W.heap.size W w') by have := specSent W b m.ex m.wi m.de (.slice la m.ps.length lc) (.slice qa m.ac.length qc) m.ps.length m.ac.length ⟨_, _, rfl⟩ ⟨_, _, rfl⟩ hbd hwi hde; rw [← hb] at this; exact this))
    rw [HS.out]
    clear hok hb
    go_enter Tryd.func11, Tryd.ntmps11
    go_wp2_with fail
    refine (HV.out _ HP.out HA.out).mono ?_
    rintro e w1 ⟨rfl, hb1⟩
    obtain ⟨x0, x1, x2, x3, x4, x5⟩ := (HX.out.below hb1).cells
    have hxl := (HX.out.below hb1).lt
    have HB := hide (HB.out.trans (hb1.mono HB.out.size))
    clear hb1
    go_wp2_with fail
    refine (HSN.out w1).mono ?_
    rintro e w2 ⟨rfl, hb2⟩
    have hb3 := HB.out.trans (hb2.mono HB.out.size)
    clear hb2
    go_wp2_with fail
    go_ret
    exact ⟨rfl, hb3⟩

set_option maxHeartbeats 800000 in
theorem implLinkSent (w : World) (m : Lnk) (pv av : Value) (hp : SlG elP w pv m.ps) (ha : SlG elI w av m.ac) (hwi : m.wi.size ≤ 1048576) (hde : m.de.size ≤ 1048576) :
    Calls Tryd.prog 12 #[.agg #[.int .i64 m.ba, .string m.wi, .int .i64 m.ex, .string m.de, pv, av]] w fun e w' => e = .returned (.string (sentB m)) ∧ Below w.heap.size w w' := by
  obtain ⟨la, lc, rfl, -, -⟩ := hp.at
  obtain ⟨qa, qc, rfl, -, -⟩ := ha.at
  have hB := alloc_below w (.cells #[.int .i64 m.ba, .string m.wi, .int .i64 m.ex, .string m.de, .slice la m.ps.length lc, .slice qa m.ac.length qc] ( /- t -/ 30))
  have HX := hide (Box6.now w (.int .i64 m.ba) (.string m.wi) (.int .i64 m.ex) (.string m.de) (.slice la m.ps.length lc) (.slice qa m.ac.length qc) ( /- t -/ 30))
  have HP := hide (hp.still (Still.of_below hB))
  have HA := hide (ha.still (Still.of_below hB))
  have HB := hide hB
  clear hp ha hB
  cases hok : linkB m with
  | false =>
    have HS := hide (show sentB m = ⟨#[]⟩ by unfold sentB; rw [hok]; rfl)
    have HV := hide (fun (W : World) (hp : SlG elP W (.slice la m.ps.length lc) m.ps) (ha : SlG elI W (.slice qa m.ac.length qc) m.ac) => (show Calls Tryd.prog 9 #[.agg #[.int .i64 m.ba, .string m.wi, .int .i64 m.ex, .string m.de, .slice la m.ps.length lc, .slice qa m.ac.length qc]] W (fun e w' => e = .returned (.bool false) ∧ Below W.heap.size W w') by have := implLinkValid W m _ _ hp ha hwi hde; rw [hok] at this; exact this))
    rw [HS.out]
    clear hok
    go_enter Tryd.func12, Tryd.ntmps12
    go_wp2_with fail
    refine (HV.out _ HP.out HA.out).mono ?_
    rintro e w1 ⟨rfl, hb⟩
    have hb2 := HB.out.trans (hb.mono HB.out.size)
    clear hb
    go_wp2_with fail
    go_ret
    exact ⟨rfl, hb2⟩
  | true =>
    obtain ⟨b, hb, hbd⟩ := linkB_ba hok
    have HS := hide (show sentB m = m.de.extract 0 b ++ m.wi by unfold sentB; rw [hok, hb, Int.toNat_natCast]; rfl)
    have HV := hide (fun (W : World) (hp : SlG elP W (.slice la m.ps.length lc) m.ps) (ha : SlG elI W (.slice qa m.ac.length qc) m.ac) => (show Calls Tryd.prog 9 #[.agg #[.int .i64 m.ba, .string m.wi, .int .i64 m.ex, .string m.de, .slice la m.ps.length lc, .slice qa m.ac.length qc]] W (fun e w' => e = .returned (.bool true) ∧ Below W.heap.size W w') by have := implLinkValid W m _ _ hp ha hwi hde; rw [hok] at this; exact this))
    have HSN := hide (fun (W : World) => (show Calls Tryd.prog 31 #[.agg #[.int .i64 m.ba, .string m.wi, .int .i64 m.ex, .string m.de, .slice la m.ps.length lc, .slice qa m.ac.length qc]] W (fun e w' => e = .returned (.string (m.de.extract 0 b ++ m.wi)) ∧ Below W.heap.size W w') by have := implSent W b m.ex m.wi m.de (.slice la m.ps.length lc) (.slice qa m.ac.length qc) m.ps.length m.ac.length ⟨_, _, rfl⟩ ⟨_, _, rfl⟩ hbd hwi hde; rw [← hb] at this; exact this))
    rw [HS.out]
    clear hok hb
    go_enter Tryd.func12, Tryd.ntmps12
    go_wp2_with fail
    refine (HV.out _ HP.out HA.out).mono ?_
    rintro e w1 ⟨rfl, hb1⟩
    obtain ⟨x0, x1, x2, x3, x4, x5⟩ := (HX.out.below hb1).cells
    have hxl := (HX.out.below hb1).lt
    have HB := hide (HB.out.trans (hb1.mono HB.out.size))
    clear hb1
    go_wp2_with fail
    refine (HSN.out w1).mono ?_
    rintro e w2 ⟨rfl, hb2⟩
    have hb3 := HB.out.trans (hb2.mono HB.out.size)
    clear hb2
    go_wp2_with fail
    go_ret
    exact ⟨rfl, hb3⟩

set_option maxHeartbeats 800000 in
theorem lv_big (w : World) (m : Lnk) (pv av : Value) (h1 : SlG elP w pv m.ps) (h2 : SlG elI w av m.ac) (hf : m.Fit) (hbig : 1048576 < m.wt) :
    Calls Tryd.prog 3 #[.agg #[.int .i64 m.ba, .string m.wi, .int .i64 m.ex, .string m.de, pv, av]] w fun e w' => e = .returned (.bool true) ∧ Below w.heap.size w w' := by
  obtain ⟨la, lc, rfl, -, -⟩ := h1.at
  obtain ⟨qa, qc, rfl, -, -⟩ := h2.at
  have hB := alloc_below w (.cells #[.int .i64 m.ba, .string m.wi, .int .i64 m.ex, .string m.de, .slice la m.ps.length lc, .slice qa m.ac.length qc] ( /- t -/ 25))
  have HP := hide (h1.still (Still.of_below hB))
  have HA := hide (h2.still (Still.of_below hB))
  have HB := hide hB
  have HH := hide (And.intro hbig hf)
  clear h1 h2 hB hbig hf
  go_enter Tryd.func3, Tryd.ntmps3
  go_wp2_with fail
  refine (sz_link _ m.ba m.ex m.wi m.de m.ps m.ac _ _ 1048576 HP.out HA.out (by omega) (by omega) HH.out.2.wi HH.out.2.de).mono ?_
  rintro e w1 ⟨rfl, hb⟩
  have hb1 := HB.out.trans (hb.mono HB.out.size)
  rw [show leftK 1048576 (m.wi.size + (m.de.size + (m.ps.length + wtP m.ps + m.ac.length))) = -1 by have := HH.out.1; unfold Lnk.wt at this; unfold leftK; rw [if_pos (by omega)]]
  clear hb
  go_wp2_with fail
  go_ret
  exact ⟨rfl, hb1⟩

set_option maxHeartbeats 3000000 in
set_option maxRecDepth 100000 in
theorem lv_small (w : World) (m : Lnk) (pv av : Value) (h1 : SlG elP w pv m.ps) (h2 : SlG elI w av m.ac) (hf : m.Fit) (hsm : m.wt ≤ 1048576) :
    Calls Tryd.prog 3 #[.agg #[.int .i64 m.ba, .string m.wi, .int .i64 m.ex, .string m.de, pv, av]] w fun e w' => e = .returned (.bool true) ∧ Below w.heap.size w w' := by
  obtain ⟨la, lc, rfl, -, -⟩ := h1.at
  obtain ⟨qa, qc, rfl, -, -⟩ := h2.at
  have hB := alloc_below w (.cells #[.int .i64 m.ba, .string m.wi, .int .i64 m.ex, .string m.de, .slice la m.ps.length lc, .slice qa m.ac.length qc] ( /- t -/ 25))
  have A : Tk.LA w.heap.size m (.slice la m.ps.length lc) (.slice qa m.ac.length qc) (w.alloc (.cells #[.int .i64 m.ba, .string m.wi, .int .i64 m.ex, .string m.de, .slice la m.ps.length lc, .slice qa m.ac.length qc] ( /- t -/ 25))) := ⟨Box6.now w (.int .i64 m.ba) (.string m.wi) (.int .i64 m.ex) (.string m.de) _ _ _, h1.still (Still.of_below hB), h2.still (Still.of_below hB)⟩
  have HB := hide hB
  have HF := hide hf
  have HN := hide (Lnk.wt_k hsm)
  have HH := hide hsm
  obtain ⟨ok, hok⟩ : ∃ ok, ok = linkB m := ⟨_, rfl⟩
  have HOK := hide hok
  clear h1 h2 hB hsm hf hok
  go_enter Tryd.func3, Tryd.ntmps3
  go_wp2_with fail
  generalize w.alloc (.cells #[.int .i64 m.ba, .string m.wi, .int .i64 m.ex, .string m.de, .slice la m.ps.length lc, .slice qa m.ac.length qc] ( /- t -/ 25)) = W at *
  refine (sz_link W m.ba m.ex m.wi m.de m.ps m.ac _ _ 1048576 A.sp A.sa (by omega) (by omega) HF.out.wi HF.out.de).mono ?_
  rintro e w1 ⟨rfl, hb⟩
  have HB := hide (HB.out.trans (hb.mono HB.out.size))
  have A := A.go hb
  obtain ⟨r, hr⟩ : ∃ r : Nat, leftK 1048576 (m.wi.size + (m.de.size + (m.ps.length + wtP m.ps + m.ac.length))) = (r : Int) := ⟨1048576 - m.wt, by have := HH.out; unfold Lnk.wt at *; unfold leftK; rw [if_neg (by omega)]; omega⟩
  rw [hr]
  obtain ⟨x0, x1, x2, x3, x4, x5⟩ := A.box.cells
  have hxl := A.box.lt
  clear hr hb
  go_wp2_with fail
  refine (to_link _ m.ba m.ex m.wi m.de m.ps m.ac _ _ A.sp A.sa HN.out.1 HN.out.2.1).mono ?_
  rintro e w2 ⟨u, v, bs, cs, rfl, ou, ov, -, -, hb⟩
  have O : LO m u v bs cs w2 := ⟨ou, ov⟩
  obtain ⟨ua, uc, va, vc, rfl, rfl⟩ := O.vals
  have HB := hide (HB.out.trans (hb.mono HB.out.size))
  have A := A.go hb
  clear hb ou ov x0 x1 x2 x3 x4 x5 hxl
  go_wp2_with fail
  refine (specLinkValid w2 m _ _ O.op.sl O.oa.sl HN.out.2.2.1 HN.out.2.2.2).mono ?_
  rw [← HOK.out]
  rintro e w3 ⟨rfl, hb⟩
  have HB := hide (HB.out.trans (hb.mono HB.out.size))
  have A := A.go hb
  obtain ⟨x0, x1, x2, x3, x4, x5⟩ := A.box.cells
  have hxl := A.box.lt
  clear hb O
  go_wp2_with fail
  refine (to_link _ m.ba m.ex m.wi m.de m.ps m.ac _ _ A.sp A.sa HN.out.1 HN.out.2.1).mono ?_
  rintro e w4 ⟨u1, v1, bs1, cs1, rfl, ou1, ov1, -, -, hb4⟩
  have O1 : LO m u1 v1 bs1 cs1 w4 := ⟨ou1, ov1⟩
  obtain ⟨ua1, uc1, va1, vc1, rfl, rfl⟩ := O1.vals
  have hb5 : Below w4.heap.size w4 (w4.alloc (.cells #[.int .i64 m.ba, .string m.wi, .int .i64 m.ex, .string m.de, .slice ua1 m.ps.length uc1, .slice va1 m.ac.length vc1] ( /- t -/ 30))) := alloc_below w4 _
  have A := (A.go hb4).go hb5
  have P1 := Box6.now w4 (.int .i64 m.ba) (.string m.wi) (.int .i64 m.ex) (.string m.de) (.slice ua1 m.ps.length uc1) (.slice va1 m.ac.length vc1) ( /- t -/ 30)
  have O1 := O1.go hb5
  have hbc := HB.out.trans (hb4.mono HB.out.size)
  have HB := hide (hbc.trans (hb5.mono hbc.size))
  clear hb4 hb5 hbc ou1 ov1 x0 x1 x2 x3 x4 x5 hxl
  obtain ⟨p0, p1, p2, p3, p4, p5⟩ := P1.cells
  have hpl := P1.lt
  go_wp2_with fail
  refine (implLinkValid _ m _ _ O1.op.sl O1.oa.sl HN.out.2.2.1 HN.out.2.2.2).mono ?_
  rw [← HOK.out]
  rintro e w5 ⟨rfl, hb⟩
  have A := A.go hb
  have P1 := P1.below hb
  have U1 := (O1.go hb).op.sl
  have V1 := (O1.go hb).oa.sl
  have HB := hide (HB.out.trans (hb.mono HB.out.size))
  clear hb O1 p0 p1 p2 p3 p4 p5 hpl
  obtain ⟨p0, p1, p2, p3, p4, p5⟩ := P1.cells
  obtain ⟨x0, x1, x2, x3, x4, x5⟩ := A.box.cells
  have hpl := P1.lt
  have hxl := A.box.lt
  go_wp2_with fail
  have hbc := HB.out.drew
  have A := A.drew
  have P1 := P1.drew
  have hst := still_drew w5
  have U1 := U1.still hst
  have V1 := V1.still hst
  clear hst HB
  go_region_held3 (fun w' => w'.cell? ⟨w4.heap.size, 0, none⟩ = some (.int .i64 m.ba) ∧ w'.cell? ⟨w4.heap.size, 1, none⟩ = some (.string m.wi) ∧ w'.cell? ⟨w4.heap.size, 2, none⟩ = some (.int .i64 m.ex) ∧ w'.cell? ⟨w4.heap.size, 3, none⟩ = some (.string m.de) ∧ w'.cell? ⟨w4.heap.size, 4, none⟩ = some (.slice ua1 m.ps.length uc1) ∧ w'.cell? ⟨w4.heap.size, 5, none⟩ = some (.slice va1 m.ac.length vc1) ∧ w'.cell? ⟨w.heap.size, 0, none⟩ = some (.int .i64 m.ba) ∧ w'.cell? ⟨w.heap.size, 1, none⟩ = some (.string m.wi) ∧ w'.cell? ⟨w.heap.size, 2, none⟩ = some (.int .i64 m.ex) ∧ w'.cell? ⟨w.heap.size, 3, none⟩ = some (.string m.de) ∧ w'.cell? ⟨w.heap.size, 4, none⟩ = some (.slice la m.ps.length lc) ∧ w'.cell? ⟨w.heap.size, 5, none⟩ = some (.slice qa m.ac.length qc))
    (first | exact ⟨p0, p1, p2, p3, p4, p5, x0, x1, x2, x3, x4, x5⟩)
    ((first
      | (go_at_call 8; (with_reducible refine (to_link _ m.ba m.ex m.wi m.de m.ps m.ac (.slice la m.ps.length lc) (.slice qa m.ac.length qc) ?_ ?_ HN.out.1 HN.out.2.1).mono ?_); (exact A.sp); (exact A.sa); rintro e wA ⟨u3, v3, bs3, cs3, rfl, ou3, ov3, -, -, hbA⟩; (have hbc := hbc.trans (hbA.mono hbc.size)); (have A := A.go hbA); (have P1 := P1.below hbA); (have U1 := U1.still (Still.of_below hbA)); (have V1 := V1.still (Still.of_below hbA)); (have U3 := ou3.sl); (have V3 := ov3.sl); (obtain ⟨p0, p1, p2, p3, p4, p5⟩ := P1.cells); (obtain ⟨x0, x1, x2, x3, x4, x5⟩ := A.box.cells))
      | (go_at_call 10; refine (eq_link _ m.ba m.ex m.wi m.de m.ps m.ac _ _ _ _ U1 V1 U3 V3).mono ?_; rintro e wD ⟨rfl, hbD⟩; (have hbc := hbc.trans (hbD.mono hbc.size)); (have A := A.go hbD); (have P1 := P1.below hbD); (obtain ⟨p0, p1, p2, p3, p4, p5⟩ := P1.cells); (obtain ⟨x0, x1, x2, x3, x4, x5⟩ := A.box.cells))))
  go_wp2_with fail
  go_ret
  exact ⟨rfl, hbc⟩

/-- FnExactLinkValid returns true. -/
theorem lv_walk (w : World) (m : Lnk) (pv av : Value) (h1 : SlG elP w pv m.ps) (h2 : SlG elI w av m.ac) (hf : m.Fit) :
    Calls Tryd.prog 3 #[.agg #[.int .i64 m.ba, .string m.wi, .int .i64 m.ex, .string m.de, pv, av]] w fun e w' => e = .returned (.bool true) ∧ Below w.heap.size w w' := by
  by_cases h : m.wt ≤ 1048576
  · exact lv_small w m pv av h1 h2 hf h
  · exact lv_big w m pv av h1 h2 hf (by omega)

set_option maxHeartbeats 800000 in
theorem ls_big (w : World) (m : Lnk) (pv av : Value) (h1 : SlG elP w pv m.ps) (h2 : SlG elI w av m.ac) (hf : m.Fit) (hbig : 1048576 < m.wt) :
    Calls Tryd.prog 4 #[.agg #[.int .i64 m.ba, .string m.wi, .int .i64 m.ex, .string m.de, pv, av]] w fun e w' => e = .returned (.bool true) ∧ Below w.heap.size w w' := by
  obtain ⟨la, lc, rfl, -, -⟩ := h1.at
  obtain ⟨qa, qc, rfl, -, -⟩ := h2.at
  have hB := alloc_below w (.cells #[.int .i64 m.ba, .string m.wi, .int .i64 m.ex, .string m.de, .slice la m.ps.length lc, .slice qa m.ac.length qc] ( /- t -/ 25))
  have HP := hide (h1.still (Still.of_below hB))
  have HA := hide (h2.still (Still.of_below hB))
  have HB := hide hB
  have HH := hide (And.intro hbig hf)
  clear h1 h2 hB hbig hf
  go_enter Tryd.func4, Tryd.ntmps4
  go_wp2_with fail
  refine (sz_link _ m.ba m.ex m.wi m.de m.ps m.ac _ _ 1048576 HP.out HA.out (by omega) (by omega) HH.out.2.wi HH.out.2.de).mono ?_
  rintro e w1 ⟨rfl, hb⟩
  have hb1 := HB.out.trans (hb.mono HB.out.size)
  rw [show leftK 1048576 (m.wi.size + (m.de.size + (m.ps.length + wtP m.ps + m.ac.length))) = -1 by have := HH.out.1; unfold Lnk.wt at this; unfold leftK; rw [if_pos (by omega)]]
  clear hb
  go_wp2_with fail
  go_ret
  exact ⟨rfl, hb1⟩

set_option maxHeartbeats 3000000 in
set_option maxRecDepth 100000 in
theorem ls_small (w : World) (m : Lnk) (pv av : Value) (h1 : SlG elP w pv m.ps) (h2 : SlG elI w av m.ac) (hf : m.Fit) (hsm : m.wt ≤ 1048576) :
    Calls Tryd.prog 4 #[.agg #[.int .i64 m.ba, .string m.wi, .int .i64 m.ex, .string m.de, pv, av]] w fun e w' => e = .returned (.bool true) ∧ Below w.heap.size w w' := by
  obtain ⟨la, lc, rfl, -, -⟩ := h1.at
  obtain ⟨qa, qc, rfl, -, -⟩ := h2.at
  have hB := alloc_below w (.cells #[.int .i64 m.ba, .string m.wi, .int .i64 m.ex, .string m.de, .slice la m.ps.length lc, .slice qa m.ac.length qc] ( /- t -/ 25))
  have A : Tk.LA w.heap.size m (.slice la m.ps.length lc) (.slice qa m.ac.length qc) (w.alloc (.cells #[.int .i64 m.ba, .string m.wi, .int .i64 m.ex, .string m.de, .slice la m.ps.length lc, .slice qa m.ac.length qc] ( /- t -/ 25))) := ⟨Box6.now w (.int .i64 m.ba) (.string m.wi) (.int .i64 m.ex) (.string m.de) _ _ _, h1.still (Still.of_below hB), h2.still (Still.of_below hB)⟩
  have HB := hide hB
  have HF := hide hf
  have HN := hide (Lnk.wt_k hsm)
  have HH := hide hsm
  obtain ⟨ok, hok⟩ : ∃ ok, ok = sentB m := ⟨_, rfl⟩
  have HOK := hide hok
  clear h1 h2 hB hsm hf hok
  go_enter Tryd.func4, Tryd.ntmps4
  go_wp2_with fail
  generalize w.alloc (.cells #[.int .i64 m.ba, .string m.wi, .int .i64 m.ex, .string m.de, .slice la m.ps.length lc, .slice qa m.ac.length qc] ( /- t -/ 25)) = W at *
  refine (sz_link W m.ba m.ex m.wi m.de m.ps m.ac _ _ 1048576 A.sp A.sa (by omega) (by omega) HF.out.wi HF.out.de).mono ?_
  rintro e w1 ⟨rfl, hb⟩
  have HB := hide (HB.out.trans (hb.mono HB.out.size))
  have A := A.go hb
  obtain ⟨r, hr⟩ : ∃ r : Nat, leftK 1048576 (m.wi.size + (m.de.size + (m.ps.length + wtP m.ps + m.ac.length))) = (r : Int) := ⟨1048576 - m.wt, by have := HH.out; unfold Lnk.wt at *; unfold leftK; rw [if_neg (by omega)]; omega⟩
  rw [hr]
  obtain ⟨x0, x1, x2, x3, x4, x5⟩ := A.box.cells
  have hxl := A.box.lt
  clear hr hb
  go_wp2_with fail
  refine (to_link _ m.ba m.ex m.wi m.de m.ps m.ac _ _ A.sp A.sa HN.out.1 HN.out.2.1).mono ?_
  rintro e w2 ⟨u, v, bs, cs, rfl, ou, ov, -, -, hb⟩
  have O : LO m u v bs cs w2 := ⟨ou, ov⟩
  obtain ⟨ua, uc, va, vc, rfl, rfl⟩ := O.vals
  have HB := hide (HB.out.trans (hb.mono HB.out.size))
  have A := A.go hb
  clear hb ou ov x0 x1 x2 x3 x4 x5 hxl
  go_wp2_with fail
  refine (specLinkSent w2 m _ _ O.op.sl O.oa.sl HN.out.2.2.1 HN.out.2.2.2).mono ?_
  rw [← HOK.out]
  rintro e w3 ⟨rfl, hb⟩
  have HB := hide (HB.out.trans (hb.mono HB.out.size))
  have A := A.go hb
  obtain ⟨x0, x1, x2, x3, x4, x5⟩ := A.box.cells
  have hxl := A.box.lt
  clear hb O
  go_wp2_with fail
  refine (to_link _ m.ba m.ex m.wi m.de m.ps m.ac _ _ A.sp A.sa HN.out.1 HN.out.2.1).mono ?_
  rintro e w4 ⟨u1, v1, bs1, cs1, rfl, ou1, ov1, -, -, hb4⟩
  have O1 : LO m u1 v1 bs1 cs1 w4 := ⟨ou1, ov1⟩
  obtain ⟨ua1, uc1, va1, vc1, rfl, rfl⟩ := O1.vals
  have hb5 : Below w4.heap.size w4 (w4.alloc (.cells #[.int .i64 m.ba, .string m.wi, .int .i64 m.ex, .string m.de, .slice ua1 m.ps.length uc1, .slice va1 m.ac.length vc1] ( /- t -/ 30))) := alloc_below w4 _
  have A := (A.go hb4).go hb5
  have P1 := Box6.now w4 (.int .i64 m.ba) (.string m.wi) (.int .i64 m.ex) (.string m.de) (.slice ua1 m.ps.length uc1) (.slice va1 m.ac.length vc1) ( /- t -/ 30)
  have O1 := O1.go hb5
  have hbc := HB.out.trans (hb4.mono HB.out.size)
  have HB := hide (hbc.trans (hb5.mono hbc.size))
  clear hb4 hb5 hbc ou1 ov1 x0 x1 x2 x3 x4 x5 hxl
  obtain ⟨p0, p1, p2, p3, p4, p5⟩ := P1.cells
  have hpl := P1.lt
  go_wp2_with fail
  refine (implLinkSent _ m _ _ O1.op.sl O1.oa.sl HN.out.2.2.1 HN.out.2.2.2).mono ?_
  rw [← HOK.out]
  rintro e w5 ⟨rfl, hb⟩
  have A := A.go hb
  have P1 := P1.below hb
  have U1 := (O1.go hb).op.sl
  have V1 := (O1.go hb).oa.sl
  have HB := hide (HB.out.trans (hb.mono HB.out.size))
  clear hb O1 p0 p1 p2 p3 p4 p5 hpl
  obtain ⟨p0, p1, p2, p3, p4, p5⟩ := P1.cells
  obtain ⟨x0, x1, x2, x3, x4, x5⟩ := A.box.cells
  have hpl := P1.lt
  have hxl := A.box.lt
  go_wp2_with fail
  have hbc := HB.out.drew
  have A := A.drew
  have P1 := P1.drew
  have hst := still_drew w5
  have U1 := U1.still hst
  have V1 := V1.still hst
  clear hst HB
  go_region_held3 (fun w' => w'.cell? ⟨w4.heap.size, 0, none⟩ = some (.int .i64 m.ba) ∧ w'.cell? ⟨w4.heap.size, 1, none⟩ = some (.string m.wi) ∧ w'.cell? ⟨w4.heap.size, 2, none⟩ = some (.int .i64 m.ex) ∧ w'.cell? ⟨w4.heap.size, 3, none⟩ = some (.string m.de) ∧ w'.cell? ⟨w4.heap.size, 4, none⟩ = some (.slice ua1 m.ps.length uc1) ∧ w'.cell? ⟨w4.heap.size, 5, none⟩ = some (.slice va1 m.ac.length vc1) ∧ w'.cell? ⟨w.heap.size, 0, none⟩ = some (.int .i64 m.ba) ∧ w'.cell? ⟨w.heap.size, 1, none⟩ = some (.string m.wi) ∧ w'.cell? ⟨w.heap.size, 2, none⟩ = some (.int .i64 m.ex) ∧ w'.cell? ⟨w.heap.size, 3, none⟩ = some (.string m.de) ∧ w'.cell? ⟨w.heap.size, 4, none⟩ = some (.slice la m.ps.length lc) ∧ w'.cell? ⟨w.heap.size, 5, none⟩ = some (.slice qa m.ac.length qc))
    (first | exact ⟨p0, p1, p2, p3, p4, p5, x0, x1, x2, x3, x4, x5⟩)
    ((first
      | (go_at_call 8; (with_reducible refine (to_link _ m.ba m.ex m.wi m.de m.ps m.ac (.slice la m.ps.length lc) (.slice qa m.ac.length qc) ?_ ?_ HN.out.1 HN.out.2.1).mono ?_); (exact A.sp); (exact A.sa); rintro e wA ⟨u3, v3, bs3, cs3, rfl, ou3, ov3, -, -, hbA⟩; (have hbc := hbc.trans (hbA.mono hbc.size)); (have A := A.go hbA); (have P1 := P1.below hbA); (have U1 := U1.still (Still.of_below hbA)); (have V1 := V1.still (Still.of_below hbA)); (have U3 := ou3.sl); (have V3 := ov3.sl); (obtain ⟨p0, p1, p2, p3, p4, p5⟩ := P1.cells); (obtain ⟨x0, x1, x2, x3, x4, x5⟩ := A.box.cells))
      | (go_at_call 10; refine (eq_link _ m.ba m.ex m.wi m.de m.ps m.ac _ _ _ _ U1 V1 U3 V3).mono ?_; rintro e wD ⟨rfl, hbD⟩; (have hbc := hbc.trans (hbD.mono hbc.size)); (have A := A.go hbD); (have P1 := P1.below hbD); (obtain ⟨p0, p1, p2, p3, p4, p5⟩ := P1.cells); (obtain ⟨x0, x1, x2, x3, x4, x5⟩ := A.box.cells))))
  go_wp2_with fail
  go_ret
  exact ⟨rfl, hbc⟩

/-- FnExactLinkSent returns true. -/
theorem ls_walk (w : World) (m : Lnk) (pv av : Value) (h1 : SlG elP w pv m.ps) (h2 : SlG elI w av m.ac) (hf : m.Fit) :
    Calls Tryd.prog 4 #[.agg #[.int .i64 m.ba, .string m.wi, .int .i64 m.ex, .string m.de, pv, av]] w fun e w' => e = .returned (.bool true) ∧ Below w.heap.size w w' := by
  by_cases h : m.wt ≤ 1048576
  · exact ls_small w m pv av h1 h2 hf h
  · exact ls_big w m pv av h1 h2 hf (by omega)
end Go.Proofs.YtmkjipnemapdeaaDoor.Tk
