/- LJv -/
import Derived.Test.YtpjbffggeegdaaaM13
import Derived.RegionTactic
import Derived.Deep.RegionHeld3
/- compareLocals of the program, as LocalEquivalent calls it. -/
namespace Go.Proofs.Ytpjbffggeegdaaa.Lo
open Go.RowKit

set_option maxHeartbeats 8000000 in
set_option maxRecDepth 100000 in
theorem cmpE_calls (w : World) (a b : Nd) (sa sb : Value) (hs : Sl w sa a.kids) (hs' : Sl w sb b.kids) :
    Calls Try.prog 16 #[.agg #[.int .i64 a.k, .string a.fr, .int .i64 a.ix, sa], .agg #[.int .i64 b.k, .string b.fr, .int .i64 b.ix, sb], .func (.func ( /- f -/ 19)) #[] #[]] w
      fun e w' => e = .returned (.bool (cmpB false a b)) ∧ Below w.heap.size w w' := by
  have hb0 := (alloc_below w (.cells #[.int .i64 a.k, .string a.fr, .int .i64 a.ix, sa] ( /- t -/ 25))).alloc (by simp) (.cells #[.int .i64 b.k, .string b.fr, .int .i64 b.ix, sb] ( /- t -/ 25))
  have hy0 := Box4.now (w.alloc (.cells #[.int .i64 a.k, .string a.fr, .int .i64 a.ix, sa] ( /- t -/ 25))) (.int .i64 b.k) (.string b.fr) (.int .i64 b.ix) sb ( /- t -/ 25)
  rw [show (w.alloc (.cells #[.int .i64 a.k, .string a.fr, .int .i64 a.ix, sa] ( /- t -/ 25))).heap.size = w.heap.size + 1 from by simp] at hy0
  have HS := hide (hs.still (Still.of_below hb0))
  have HS' := hide (hs'.still (Still.of_below hb0))
  have HY := hide hy0
  have HB0 := hide hb0
  have HZ : Hid (w.heap.size + 2 ≤ ((w.alloc (.cells #[.int .i64 a.k, .string a.fr, .int .i64 a.ix, sa] ( /- t -/ 25))).alloc (.cells #[.int .i64 b.k, .string b.fr, .int .i64 b.ix, sb] ( /- t -/ 25))).heap.size) := hide (by simp)
  clear hs hs' hb0 hy0
  have hmm := @run_makeMap Try.prog
  obtain ⟨res, hres⟩ : ∃ res, res = cmpB false a b := ⟨_, rfl⟩
  rw [← hres]
  have HRES := hide hres
  clear hres
  go_enter Try.func16, Try.ntmps16
  go_wp2_with fail
  generalize (w.alloc (.cells #[.int .i64 a.k, .string a.fr, .int .i64 a.ix, sa] ( /- t -/ 25))).alloc (.cells #[.int .i64 b.k, .string b.fr, .int .i64 b.ix, sb] ( /- t -/ 25)) = W at *
  refine (implLink W a.k a.ix a.fr sa a.kids HS.out).mono ?_
  rintro e w1 ⟨u1, ks1, rfl, hu1, hb1, hok1⟩
  have HY1 := hide (HY.out.below hb1)
  have HS1 := hide (HS'.out.still (Still.of_below hb1))
  have HB1 := hide (HB0.out.trans (hb1.mono HB0.out.size))
  have HU1 := hide hok1
  obtain ⟨y0, y1, y2, y3⟩ := HY1.out.cells
  have yl := HY1.out.lt
  clear hb1 hok1
  have hcA : okN a.k a.fr a.ix a.kids = okG a := rfl
  rw [hcA] at HU1 ⊢
  clear hcA
  rcases hu1 with rfl | ⟨T1, x1, rfl⟩
  · have hA : okG a = false := by
      cases h : okG a with
      | false => rfl
      | true =>
        obtain ⟨_, _, e⟩ := (HU1.out h).1.val
        cases e
    have HRES : Hid (res = false) := hide (by rw [HRES.out]; unfold cmpB; rw [hA, Bool.false_and])
    rw [hA]
    clear hA HU1
    go_wp2_with fail
    refine (implLink w1 b.k b.ix b.fr sb b.kids HS1.out).mono ?_
    rintro e w2 ⟨u2, ks2, rfl, hu2, hb2, -⟩
    have HB2 := hide (HB1.out.trans (hb2.mono HB1.out.size))
    clear hb2 y0 y1 y2 y3 yl
    rcases hu2 with rfl | ⟨T2, x2, rfl⟩
    · go_wp2_with fail
      go_ret
      exact ⟨ret_bool HRES.out.symm, HB2.out⟩
    · go_wp2_with fail
      go_ret
      exact ⟨ret_bool HRES.out.symm, HB2.out⟩
  cases hA : okG a with
  | false =>
    have HRES : Hid (res = false) := hide (by rw [HRES.out]; unfold cmpB; rw [hA, Bool.false_and])
    clear hA HU1
    go_wp2_with fail
    refine (implLink w1 b.k b.ix b.fr sb b.kids HS1.out).mono ?_
    rintro e w2 ⟨u2, ks2, rfl, hu2, hb2, -⟩
    have HB2 := hide (HB1.out.trans (hb2.mono HB1.out.size))
    clear hb2 y0 y1 y2 y3 yl
    rcases hu2 with rfl | ⟨T2, x2, rfl⟩
    · go_wp2_with fail
      go_ret
      exact ⟨ret_bool HRES.out.symm, HB2.out⟩
    · go_wp2_with fail
      go_ret
      exact ⟨ret_bool HRES.out.symm, HB2.out⟩
  | true =>
  have HA := hide hA
  clear hA
  go_wp2_with fail
  refine (implLink w1 b.k b.ix b.fr sb b.kids HS1.out).mono ?_
  rintro e w2 ⟨u2, ks2, rfl, hu2, hb2, hok2⟩
  rw [show okN b.k b.fr b.ix b.kids = okG b from rfl] at hok2 ⊢
  have HB2 := hide (HB1.out.trans (hb2.mono HB1.out.size))
  cases hB : okG b with
  | false =>
    have HRES : Hid (res = false) := hide (by rw [HRES.out]; unfold cmpB; rw [HA.out, hB]; rfl)
    clear hB hok2 hb2 y0 y1 y2 y3 yl
    rcases hu2 with rfl | ⟨T2, x2, rfl⟩
    · go_wp2_with fail
      go_ret
      exact ⟨ret_bool HRES.out.symm, HB2.out⟩
    · go_wp2_with fail
      go_ret
      exact ⟨ret_bool HRES.out.symm, HB2.out⟩
  | true =>
  have HRES : Hid (res = alikeB false a b) := hide (by rw [HRES.out]; unfold cmpB; rw [HA.out, hB]; rfl)
  obtain ⟨hl2, -⟩ := hok2 hB
  obtain ⟨T2, x2, rfl⟩ := hl2.val
  obtain ⟨hl1, -⟩ := HU1.out HA.out
  have hl1 := hl1.same (Same.of_below hb2 hl1.lt)
  have RA := hide (Rep.root hl1 (okG_w HA.out).1)
  have RB := hide (Rep.root hl2 (okG_w hB).1)
  have L1 : Hid (ks1.length ≤ 800) := hide (by have h1 := hl1.blen; have h2 := (okG_w HA.out).2.2; omega)
  have L2 : Hid (ks2.length ≤ 800) := hide (by have h1 := hl2.blen; have h2 := (okG_w hB).2.2; omega)
  have HST := hide (relC_start (sub := false) RA.out RB.out L1.out L2.out)
  obtain ⟨va, hva⟩ : ∃ va, va = Value.iface T1 x1 := ⟨_, rfl⟩
  obtain ⟨vb, hvb⟩ : ∃ vb, vb = Value.iface T2 x2 := ⟨_, rfl⟩
  clear hB hok2 hb2 hu2 hl1 hl2 HU1 y0 y1 y2 y3 yl HY1 HS1 HB1 HS HS' HY HB0 HA
  go_wp2_with fail
  obtain ⟨M, hM⟩ : ∃ M, M = w2.heap.size := ⟨_, rfl⟩
  rw [← hva, ← hvb, ← HRES.out] at HST
  rw [← hva] at RA
  rw [← hvb] at RB
  have HW := HRES
  have HST2 : Hid (RelC false w2 ks1 ks2 va vb res M (5 * (ks1.length * ks2.length) + 1) (.slice (some ⟨M + 1, 0, none⟩) 1 1) ((w2.alloc (.map #[] 0)).alloc (.cells #[.iface T1 x1, .iface T2 x2] ( /- t -/ 67)))) := hide (by
    have h := HST.out
    rw [hM]
    rw [hva, hvb] at h ⊢
    exact h)
  rw [← hM] at ⊢
  clear HST hva hvb hM HRES
  go_loopg [12] (5 * (ks1.length * ks2.length) + 1) (fun n v wr => RelC false w2 ks1 ks2 va vb res M n v wr)
  case atStart => exact HST2.out
  case round =>
    clear HST2
    obtain ⟨L, S, hw, hn, hown, hset, hcmp, hM, hbw⟩ := hrel
    rcases List.eq_nil_or_concat L with rfl | ⟨L0, x, rfl⟩
    · obtain ⟨va', vc, rfl⟩ := row_shapeC hown
      have HR : Hid (res = true) := hide (by
        have h := hcmp
        rw [HW.out] at h ⊢
        exact h.done RA.out RB.out)
      have HB := hide (HB2.out.trans (hbw.mono HB2.out.size))
      clear hw hn hown hset hcmp hM hbw
      go_wp2_with fail
      go_ret
      exact ⟨ret_bool HR.out.symm, HB.out⟩
    · rw [List.concat_eq_append] at *
      obtain ⟨p, q⟩ := x
      obtain ⟨⟨Tp, hTp⟩, ⟨Tq, hTq⟩⟩ := hcmp.reps (p, q) (by simp)
      simp only at hTp hTq
      obtain ⟨U1, z1, rfl⟩ := hTp.val
      obtain ⟨U2, z2, rfl⟩ := hTq.val
      rw [List.length_append, List.length_singleton] at hown hw
      obtain ⟨g, cap, rfl, hg, hgl⟩ := hown.form (by omega)
      have cell : ∀ j, j < 2 → wr.cell? ⟨g, L0.length * 2 + j, none⟩ = (cellsP (.iface U1 z1, .iface U2 z2))[j]? := fun j hj => by
        rw [hown.cellAt _ (by omega), cellsP_last]
      have d0 : wr.cell? ⟨g, L0.length * 2, none⟩ = some (.iface U1 z1) := cell 0 (by omega)
      have d1 : wr.cell? ⟨g, L0.length * 2 + 1, none⟩ = some (.iface U2 z2) := cell 1 (by omega)
      have hlen : L0.length ≤ 4000000 := by omega
      have hcap := (row_capC hown).1
      have hcur := row_cutC hown (Nat.le_succ L0.length)
      rw [cellsP_take] at hcur
      obtain ⟨n0, hn0⟩ : ∃ n0, n0 = L0.length := ⟨_, rfl⟩
      rw [← hn0] at d0 d1 hlen hcur hcap ⊢
      have hcap0 : n0 ≤ cap := by omega
      have HALL := hide (And.intro hw (And.intro hn (And.intro hset (And.intro hcmp (And.intro hM (And.intro hbw (And.intro hcur hn0)))))))
      have HTp := hide hTp
      have HTq := hide hTq
      have dl := World.block_lt_of_cell? _ _ d0
      clear hw hn hset hcmp hM hbw hcur hn0 cell hown hg hTp hTq
      go_wp2_with fail
      refine (unfV_calls w2 _ ks1 _ Tp HTp.out HALL.out.2.2.2.2.2.1).mono ?_
      rintro e w3 ⟨hb3, hc3⟩
      have d1 := (Still.of_below hb3) _ _ d1
      have dl := World.block_lt_of_cell? _ _ d1
      have HB3 := hide hb3
      have hbA := HALL.out.2.2.2.2.2.1.trans (hb3.mono HALL.out.2.2.2.2.2.1.size)
      have HBA := hide hbA
      clear d0 hb3 hbA
      have n1 := taEndAct
      have n2 := taActAct
      rcases hc3 with ⟨hup, rfl⟩ | ⟨A, hup, rfl⟩
      · have HUP := hide hup
        clear hup
        go_wp2_with fail
        refine (unfV_calls w2 _ ks2 _ Tq HTq.out HBA.out).mono ?_
        rintro e w4 ⟨hb4, hc4⟩
        have HB4 := hide (HB3.out.trans (hb4.mono HB3.out.size))
        have hbB := HBA.out.trans (hb4.mono HBA.out.size)
        have HBB := hide hbB
        clear d1 dl hb4 hbB
        rcases hc4 with ⟨huq, rfl⟩ | ⟨B, huq, rfl⟩
        · have HUQ := hide huq
          clear huq
          obtain ⟨gk', hgk⟩ : ∃ gk', gk = gk' + 1 := ⟨gk - 1, by have := HALL.out.1; omega⟩
          have HR : Hid (RelC false w2 ks1 ks2 va vb res M gk' (.slice (some ⟨g, 0, none⟩) n0 cap) w4) := hide (by
            obtain ⟨hw, hn, hset, hcmp, hM, hbw, hcur, hn0⟩ := HALL.out
            exact relC_pop hcur hn0 hset HB4.out hcmp (Or.inr (Or.inl ⟨HUP.out, HUQ.out⟩)) hM hbw (by omega) (by omega))
          go_wp2_with fail
          go_roundg gk'
          case measure => omega
          case rel => exact HR.out
        · have HUQ := hide huq
          clear huq
          have HNO : Hid (res = false) := hide (HALL.out.2.2.2.1.no (fun T T' hT hT' => by
            rcases HUP.out.rep T hT with ⟨-, k1, -⟩ | ⟨_, e, -⟩
            · rcases HUQ.out.rep T' hT' with ⟨e, -⟩ | ⟨_, -, k2, -⟩
              · cases e
              · exact fit_kinds (by omega)
            · cases e))
          have hbF := HB2.out.trans (HBB.out.mono HB2.out.size)
          have HBF := hide hbF
          clear hbF
          have hgB : GoodB w4 B := by
            rcases HUQ.out.rep Tq HTq.out with ⟨e, -⟩ | ⟨B', e, -, hact⟩
            · cases e
            · cases e
              exact hact.good HBB.out
          have hlook : ∀ wz, Below w4.heap.size w4 wz → (Instr.lookup ( /- t -/ 66) (.map (some M)) (.agg #[.pointer none, .pointer (some ⟨B, 0, none⟩)]) false).run Try.prog wz = .ok (.bool false) wz := fun wz hz => by
            obtain ⟨hw, hn, hset, hcmp, hM, hbw, hcur, hn0⟩ := HALL.out
            have h := set_look (w := wz) (m := M) (S := S) ((hset.same (HB4.out.block _ hset.lt)).same (hz.block _ (Nat.lt_of_lt_of_le hset.lt HB4.out.size))) (none, some B) (goodK_mk (fun p e => nomatch e) (fun p e => by cases e; exact hgB.below hz)) (hcmp.good (HBB.out.trans (hz.mono HBB.out.size)))
            rw [any_nil1] at h
            exact h
          have hlook0 := hlook w4 (Below.refl _ _)
          go_wp2_with fail
          go_region
          go_wp2_with fail
          go_ret
          exact ⟨ret_bool HNO.out.symm, HBF.out.drew⟩
      · obtain ⟨X, hX, hkx, hax⟩ : ∃ X, X = unf Tp ∧ (X.k = 2 ∨ X.k = 3) ∧ Lo.Act w2 ks1 A X := by
          rcases hup.rep Tp HTp.out with ⟨e, -⟩ | ⟨A', e, h1, h2⟩
          · cases e
          · cases e
            exact ⟨_, rfl, h1, h2⟩
        have HUP := hide hup
        have HX := hide (And.intro hX (And.intro hkx hax))
        clear hup hX hkx hax
        go_wp2_with fail
        refine (unfV_calls w2 _ ks2 _ Tq HTq.out HBA.out).mono ?_
        rintro e w4 ⟨hb4, hc4⟩
        have HB4 := hide (HB3.out.trans (hb4.mono HB3.out.size))
        have hbB := HBA.out.trans (hb4.mono HBA.out.size)
        have HBB := hide hbB
        clear d1 dl hb4 hbB
        rcases hc4 with ⟨huq, rfl⟩ | ⟨B, huq, rfl⟩
        · have HUQ := hide huq
          clear huq
          have HNO : Hid (res = false) := hide (HALL.out.2.2.2.1.no (fun T T' hT hT' => by
            rcases HUP.out.rep T hT with ⟨e, -⟩ | ⟨_, -, k1, -⟩
            · cases e
            · rcases HUQ.out.rep T' hT' with ⟨-, k2, -⟩ | ⟨_, e, -⟩
              · exact fit_kinds (by omega)
              · cases e))
          have hbF := HB2.out.trans (HBB.out.mono HB2.out.size)
          have HBF := hide hbF
          clear hbF
          have hgA : GoodB w4 A := HX.out.2.2.good HBB.out
          have hlook : ∀ wz, Below w4.heap.size w4 wz → (Instr.lookup ( /- t -/ 66) (.map (some M)) (.agg #[.pointer (some ⟨A, 0, none⟩), .pointer none]) false).run Try.prog wz = .ok (.bool false) wz := fun wz hz => by
            obtain ⟨hw, hn, hset, hcmp, hM, hbw, hcur, hn0⟩ := HALL.out
            have h := set_look (w := wz) (m := M) (S := S) ((hset.same (HB4.out.block _ hset.lt)).same (hz.block _ (Nat.lt_of_lt_of_le hset.lt HB4.out.size))) (some A, none) (goodK_mk (fun p e => by cases e; exact hgA.below hz) (fun p e => nomatch e)) (hcmp.good (HBB.out.trans (hz.mono HBB.out.size)))
            rw [any_nil2] at h
            exact h
          have hlook0 := hlook w4 (Below.refl _ _)
          go_wp2_with fail
          go_region
          go_wp2_with fail
          go_ret
          exact ⟨ret_bool HNO.out.symm, HBF.out.drew⟩
        · obtain ⟨Y, hY, hky, hay⟩ : ∃ Y, Y = unf Tq ∧ (Y.k = 2 ∨ Y.k = 3) ∧ Lo.Act w2 ks2 B Y := by
            rcases huq.rep Tq HTq.out with ⟨e, -⟩ | ⟨B', e, h1, h2⟩
            · cases e
            · cases e
              exact ⟨_, rfl, h1, h2⟩
          have HUQ := hide huq
          have HY := hide (And.intro hY (And.intro hky hay))
          have hgA : GoodB w4 A := HX.out.2.2.good HBB.out
          have hgB : GoodB w4 B := hay.good HBB.out
          have HG := hide (And.intro hgA hgB)
          have hlook : ∀ wz, Below w4.heap.size w4 wz → (Instr.lookup ( /- t -/ 66) (.map (some M)) (.agg #[.pointer (some ⟨A, 0, none⟩), .pointer (some ⟨B, 0, none⟩)]) false).run Try.prog wz = .ok (.bool (S.any (kyB (some A, some B)))) wz := fun wz hz => by
            obtain ⟨hw, hn, hset, hcmp, hM, hbw, hcur, hn0⟩ := HALL.out
            exact set_look (w := wz) (m := M) (S := S) ((hset.same (HB4.out.block _ hset.lt)).same (hz.block _ (Nat.lt_of_lt_of_le hset.lt HB4.out.size))) (some A, some B) (goodK_mk (fun p e => by cases e; exact hgA.below hz) (fun p e => by cases e; exact hgB.below hz)) (hcmp.good (HBB.out.trans (hz.mono HBB.out.size)))
          have hlook0 := hlook w4 (Below.refl _ _)
          clear huq hY hky hay hgA hgB hlook
          cases hany : S.any (kyB (some A, some B)) with
          | true =>
            rw [hany] at hlook0
            obtain ⟨gk', hgk⟩ : ∃ gk', gk = gk' + 1 := ⟨gk - 1, by have := HALL.out.1; omega⟩
            have HR : Hid (RelC false w2 ks1 ks2 va vb res M gk' (.slice (some ⟨g, 0, none⟩) n0 cap) w4) := hide (by
              obtain ⟨hw, hn, hset, hcmp, hM, hbw, hcur, hn0⟩ := HALL.out
              exact relC_pop hcur hn0 hset HB4.out hcmp (Or.inr (Or.inr ⟨A, B, HUP.out, HUQ.out, any_yes hany⟩)) hM hbw (by omega) (by omega))
            clear hany
            go_wp2_with fail
            go_roundg gk'
            case measure => omega
            case rel => exact HR.out
          | false =>
            rw [hany] at hlook0
            have HANY := hide hany
            clear hany
            go_wp2_with fail
            clear hlook0 n1 n2
            obtain ⟨hAin, xs, hrowx, hrfx⟩ := HX.out.2.2
            obtain ⟨hBin, ys, hrowy, hrfy⟩ := HY.out.2.2
            have HRX := hide (And.intro hAin (And.intro hrowx hrfx))
            have HRY := hide (And.intro hBin (And.intro hrowy hrfy))
            obtain ⟨r, nx, rcap, rcs, hbA, hr1, hr2, hbr, hrx, hrl⟩ := hrowx
            obtain ⟨_, _, _, _, hbBk, -⟩ := hrowy
            have hbA4 := hbA.below HBB.out
            have hbB4 := hbBk.below HBB.out
            have a0 : w4.cell? ⟨A, 0, none⟩ = some (.int .i64 X.k) := hbA4.cell 0
            have a1 : w4.cell? ⟨A, 1, none⟩ = some (.string X.fr) := hbA4.cell 1
            have b0 : w4.cell? ⟨B, 0, none⟩ = some (.int .i64 Y.k) := hbB4.cell 0
            have b1 : w4.cell? ⟨B, 1, none⟩ = some (.string Y.fr) := hbB4.cell 1
            have HROW := hide (And.intro hbA (And.intro hr1 (And.intro hr2 (And.intro hbr (And.intro hrx hrl)))))
            have lA := hbA4.lt
            have lB := hbB4.lt
            have HNOF : Hid (fitB false X Y = false → res = false) := hide (fun hf => HALL.out.2.2.2.1.no (fun T T' hT hT' => by
              rcases HUP.out.rep T hT with ⟨e, -⟩ | ⟨_, e, -, h1⟩
              · cases e
              · cases e
                rcases HUQ.out.rep T' hT' with ⟨e, -⟩ | ⟨_, e, -, h2⟩
                · cases e
                · cases e
                  rw [fitB_same false h1 HX.out.2.2 h2 HY.out.2.2]
                  exact hf))
            have HBF := hide (HB2.out.trans (HBB.out.mono HB2.out.size))
            clear hAin hrfx hBin hrfy hbA hr1 hr2 hbr hrx hrl hbBk hbA4 hbB4
            cases hk : (X.k == Y.k) with
            | false =>
              have hk2 : (X.k != Y.k) = true := by simpa [bne] using hk
              have HNO : Hid (res = false) := hide (HNOF.out (by rw [fitB_eq, hk]; rfl))
              clear hk
              go_region
              go_wp2_with fail
              go_ret
              exact ⟨ret_bool HNO.out.symm, HBF.out.drew⟩
            | true =>
              have hk2 : (X.k != Y.k) = false := by simpa [bne] using hk
              cases hp : (X.fr.toList == Y.fr.toList) with
              | false =>
                have HNO : Hid (res = false) := hide (HNOF.out (by rw [fitB_eq, hk, hp]; rfl))
                have hp2 : ¬ X.fr.toList = Y.fr.toList := by simpa using hp
                clear hk
                go_region
                go_wp2_with fail
                go_ret
                exact ⟨ret_bool HNO.out.symm, HBF.out.drew⟩
              | true =>
                have hp2 : X.fr.toList = Y.fr.toList := by simpa using hp
                have HFIT : Hid (fitB false X Y = labB2 false X Y) := hide (by rw [fitB_eq, hk, hp]; rfl)
                have HCALL := hide (fun (wz : World) (hz : Below w2.heap.size w2 wz) => fitE_calls w2 wz ks1 ks2 A B X Y HX.out.2.2 HY.out.2.2 hz)
                have HBB0 : Hid (Below w4.heap.size w4 w4.drew) := hide (Below.refl _ _).drew
                clear hk hp
                go_region_held3 (fun w' => w'.cell? ⟨A, 0, none⟩ = some (.int .i64 X.k) ∧ w'.cell? ⟨A, 1, none⟩ = some (.string X.fr) ∧ w'.cell? ⟨B, 0, none⟩ = some (.int .i64 Y.k) ∧ w'.cell? ⟨B, 1, none⟩ = some (.string Y.fr))
                  (first | exact ⟨a0, a1, b0, b1⟩)
                  ((first
                    | (go_at_call 19; refine (HCALL.out _ HBB.out.drew).mono ?_; rintro e w6 ⟨rfl, hb6⟩; (have a0 := (Still.of_below (HBB0.out.trans hb6)) _ _ a0); (have a1 := (Still.of_below (HBB0.out.trans hb6)) _ _ a1); (have b0 := (Still.of_below (HBB0.out.trans hb6)) _ _ b0); (have b1 := (Still.of_below (HBB0.out.trans hb6)) _ _ b1))))
                have HB6 := hide (HB4.out.trans ((HBB0.out.trans hb6).mono HB4.out.size))
                have hbD := HBB.out.trans ((HBB0.out.trans hb6).mono HBB.out.size)
                have HBD := hide hbD
                have HBF6 := hide (HB2.out.trans (hbD.mono HB2.out.size))
                clear hb6 hbD HBB0
                cases hlab : labB2 false X Y with
                | false =>
                  have HNO := hide (HNOF.out (by rw [HFIT.out, hlab]))
                  clear hlab
                  go_wp2_with fail
                  go_ret
                  exact ⟨ret_bool HNO.out.symm, HBF6.out⟩
                | true =>
                  have HF : Hid (fitB false X Y = true) := hide (HFIT.out.trans hlab)
                  have HSET6 : Hid (SetIs w6 M S) := hide (HALL.out.2.2.1.same (HB6.out.block _ HALL.out.2.2.1.lt))
                  have HG6 : Hid (GoodB w6 A ∧ GoodB w6 B) := hide ⟨HX.out.2.2.good HBD.out, HY.out.2.2.good HBD.out⟩
                  have HGS6 : Hid (∀ y ∈ S, GoodB w6 y.1 ∧ GoodB w6 y.2) := hide (HALL.out.2.2.2.1.good HBD.out)
                  have HANY2 : Hid (S.any (kyB (kyS (A, B))) = false) := hide HANY.out
                  have hnl : nx ≤ 9223372036854775807 := by have h1 := HROW.out.2.1; have h2 := HROW.out.2.2.1; unfold maxLen at h2; omega
                  have hn4 : nx ≤ 4 := by
                    have h1 := RepF.len _ _ HRX.out.2.2
                    have h2 := HROW.out.2.2.2.2.2
                    have h3 := act_small (T := X) (by rw [HX.out.1]; exact unf_w HTp.out.w) HX.out.2.1
                    omega
                  have HANYP := HANY
                  clear hlab a0 a1 b0 b1 HNOF HCALL HFIT HANY HG
                  go_wp2_with (first
                    | (at_mapUpdate; go_loud (refine wpList_set_store _ rfl _ _ _ rfl M S HSET6.out (A, B) HG6.out HGS6.out HANY2.out rfl rfl rfl ?_; intro w10 hset10 hgr10; have hbG := below_grownC (Nat.le_refl _) HBD.out hgr10 HALL.out.2.2.2.2.1; have a2 : w10.cell? ⟨A, 2, none⟩ = some (.slice (some ⟨r, 0, none⟩) nx rcap) := (HROW.out.1.below hbG).cell 2; have lA := (HROW.out.1.below hbG).lt)) | fail)
                  have hown0 := row_grownC (row_belowC HALL.out.2.2.2.2.2.2.1 HB6.out) HSET6.out hgr10
                  have HGEN : Hid (∃ (f : F) (i : Nat) (P : List (Value × Value)), i + f.len = nx ∧ (.int .i64 0 : Value) = .int .i64 i ∧ RepF w2 ks1 f (xs.drop (i * 2)) ∧ pairsF xs ys = P ++ pairsF (xs.drop (i * 2)) ys ∧
                      w10.ownsRow w2.heap.size ( /- t -/ 67) 2 (.slice (some ⟨g, 0, none⟩) n0 cap) (L0 ++ P).length ((L0 ++ P).flatMap cellsP) ∧ SetIs w10 M (S ++ [(A, B)]) ∧ Below w2.heap.size w2 w10 ∧ P.length ≤ i) := hide (by
                    have h1 := RepF.len _ _ HRX.out.2.2
                    have h2 := HROW.out.2.2.2.2.2
                    have hn0 := HALL.out.2.2.2.2.2.2.2
                    subst hn0
                    exact ⟨X.kids, 0, [], by omega, rfl, by simpa using HRX.out.2.2, by simp, by simpa using hown0, hset10, hbG, Nat.le_refl _⟩)
                  clear hown0 hset10 hgr10 hbG a2 lA HSET6 HG6 HGS6 HANY2 HBF6
                  go_loopw [12, 128] (fun v iv wz => ∃ (f : F) (i : Nat) (P : List (Value × Value)), i + f.len = nx ∧ iv = .int .i64 i ∧ RepF w2 ks1 f (xs.drop (i * 2)) ∧ pairsF xs ys = P ++ pairsF (xs.drop (i * 2)) ys ∧
                      wz.ownsRow w2.heap.size ( /- t -/ 67) 2 v (L0 ++ P).length ((L0 ++ P).flatMap cellsP) ∧ SetIs wz M (S ++ [(A, B)]) ∧ Below w2.heap.size w2 wz ∧ P.length ≤ i) (fun _ iv _ => nx - (intOf iv).toNat)
                  case atStart => exact HGEN.out
                  case round =>
                    obtain ⟨f, i, P, hi, rfl, hrf, hpairs, hown, hset, hbz, hPi⟩ := hrel
                    clear HGEN
                    cases f with
                    | nil =>
                      have hge : nx ≤ i := by simp [F.len] at hi; omega
                      have hP : pairsF xs ys = P := by
                        have e : xs.drop (i * 2) = [] := hrf
                        rw [hpairs, e]
                        simp [pairsF]
                      obtain ⟨gk', hgk⟩ : ∃ gk', gk = gk' + 1 := ⟨gk - 1, by have := HALL.out.1; omega⟩
                      obtain ⟨va', vc, hsh⟩ := row_shapeC hown
                      subst hsh
                      have HR : Hid (RelC false w2 ks1 ks2 va vb res M gk' (.slice va' (L0 ++ P).length vc) wr) := hide (by
                        obtain ⟨hw, hn, -, hcmp, hM, -, -, hn0⟩ := HALL.out
                        have hpush := hcmp.push HUP.out HUQ.out (any_no HANYP.out) HRX.out.1 HRY.out.1 HRX.out.2.1 HRX.out.2.2 HRY.out.2.1 HRY.out.2.2 HF.out
                        rw [hP] at hpush
                        have hbd := hpush.bound
                        rw [List.length_append, List.length_singleton] at hbd
                        refine ⟨L0 ++ P, S ++ [(A, B)], ?_, by omega, hown, hset, hpush, hM, hbz⟩
                        rw [List.length_append, List.length_append, List.length_singleton]
                        have hPn : P.length ≤ 4 := by simp [F.len] at hi; omega
                        omega)
                      clear hi hrf hpairs hown hset hbz hP
                      go_wp2_with fail
                      go_roundg gk'
                      case measure => omega
                      case rel => exact HR.out
                    | cons lab k fr ix kids rest =>
                      obtain ⟨U, v, q0, q1, hrep, hrest, hdr⟩ := hrf.next HROW.out.2.2.2.1 HROW.out.2.2.2.2.1
                      have hlt : i < nx := by simp only [F.len] at hi; omega
                      have hst := Still.of_below hbz
                      have c0 := hst _ _ q0
                      have c1 := hst _ _ q1
                      have cl := World.block_lt_of_cell? _ _ c0
                      have HV := hide (And.intro hi (And.intro hrest (And.intro hpairs (And.intro hdr (And.intro hown (And.intro hset hPi))))))
                      have HBZ := hide hbz
                      clear hi hrf hpairs hown hset hbz hrep hrest hdr hst q0 q1 hPi
                      go_wp2_with fail
                      refine (next_calls w2 _ ks2 B Y ys lab HRY.out.2.1 HRY.out.2.2 (HBZ.out.alloc HBZ.out.size _)).mono ?_
                      rintro e w11 ⟨rfl, hb11⟩
                      have hx11 := (Blk.now wr #[.string lab, .iface U v] ( /- t -/ 72)).below hb11
                      have x1 : w11.cell? ⟨wr.heap.size, 1, none⟩ = some (.iface U v) := hx11.cell 1
                      have xl := hx11.lt
                      have HZ11 := hide (alloc_then hb11)
                      have HB11 := hide (HBZ.out.trans ((alloc_then hb11).mono HBZ.out.size))
                      clear hb11 hx11 c0 c1 cl
                      have hpr : pairsF (xs.drop (i * 2)) ys = (match valF ys lab.toList with | some v' => [(.iface U v, v')] | none => []) ++ pairsF (xs.drop ((i + 1) * 2)) ys := by
                        rw [HV.out.2.2.2.1]
                        conv => lhs; unfold pairsF
                        rfl
                      have HPR := hide hpr
                      clear hpr
                      rcases HRY.out.2.2.br lab.toList with ⟨e1, e2⟩ | ⟨u', v', e1, e2, e3⟩
                      · have HE := hide e2
                        rw [e2]
                        clear e1 e2
                        go_wp2_with fail
                        refine ⟨⟨rest, i + 1, P, by have := HV.out.1; simp only [F.len] at this; omega, by go_num, HV.out.2.1, ?_, row_belowC HV.out.2.2.2.2.1 HZ11.out, HV.out.2.2.2.2.2.1.same (HZ11.out.block _ HV.out.2.2.2.2.2.1.lt), HB11.out, by have := HV.out.2.2.2.2.2.2; omega⟩, by simp [intOf]; omega⟩
                        rw [HV.out.2.2.1, HPR.out, HE.out]
                        rfl
                      · obtain ⟨U2', z2', rfl⟩ := e3.val
                        have HE := hide e2
                        rw [e2]
                        obtain ⟨i0, z0, hi, hi0, hi1, hi2, hi3⟩ := pair_info2
                        have HI := hide (And.intro hi (And.intro hi0 (And.intro hi1 (And.intro hi2 hi3))))
                        have hbnd : Hid ((L0 ++ P).length ≤ 4000004) := hide (by
                          have h1 := HALL.out.1
                          have h2 := HALL.out.2.1
                          have h3 := HV.out.2.2.2.2.2.2
                          rw [List.length_append]
                          omega)
                        have HSZ : Hid (w2.heap.size ≤ w11.heap.size) := hide HB11.out.size
                        clear hi hi0 hi1 hi2 hi3 e1 e2 e3
                        have hnn : ∀ wq : World, (binOp .neq ( /- t -/ 32) (.iface U2' z2') .nilIface).run Try.prog wq = .ok (.bool true) wq := fun wq => by kernel_rfl
                        go_wp2_with (first | (at_builtin; go_loud (refine wpList_append_lies _ rfl _ _ ( /- t -/ 68) rfl w2.heap.size ( /- t -/ 67) i0 z0 2 32 Try.underlying68 HI.out.1 HI.out.2.1 HI.out.2.2.1 HI.out.2.2.2.1 HI.out.2.2.2.2 (by omega) _ (L0 ++ P).length ((L0 ++ P).flatMap cellsP) rfl (row_belowC HV.out.2.2.2.2.1 (HZ11.out.alloc HZ11.out.size _)) ⟨w11.heap.size, 0, none⟩ 1 1 (cellsP (.iface U v, .iface U2' z2')) rfl rfl (World.news_of_block (cs := #[.iface U v, .iface U2' z2']) (t := ( /- t -/ 67)) (fr := (0, 0)) (by have h := heap_alloc_new w11 (.cells #[.iface U v, .iface U2' z2'] ( /- t -/ 67)); simpa using h)) (by simp [cellsP, Value.oneCell']) (by omega) (by have := hbnd.out; unfold maxLen; omega) (by have := hbnd.out; omega) (Nat.le_trans HSZ.out (by simp)) _ rfl ?_; intro gg cp w13 hown13 hgrow13 hat13 hlt13)) | fail)
                        have hbX := HZ11.out.alloc HZ11.out.size (.cells #[.iface U v, .iface U2' z2'] ( /- t -/ 67))
                        have hrX := row_belowC HV.out.2.2.2.2.1 hbX
                        refine ⟨⟨rest, i + 1, P ++ [(.iface U v, .iface U2' z2')], by have := HV.out.1; simp only [F.len] at this; omega, by go_num, HV.out.2.1, ?_, ?_, set_grownC hrX (HV.out.2.2.2.2.2.1.same (hbX.block _ HV.out.2.2.2.2.2.1.lt)) hgrow13, below_rowC (Nat.le_refl _) (HB11.out.alloc HB11.out.size _) hrX hgrow13, by have := HV.out.2.2.2.2.2.2; simp; omega⟩, by simp [intOf]; omega⟩
                        · rw [HV.out.2.2.1, HPR.out, HE.out]
                          simp
                        · simpa [List.flatMap_append, List.append_assoc, Nat.add_assoc] using hown13
end Go.Proofs.Ytpjbffggeegdaaa.Lo
