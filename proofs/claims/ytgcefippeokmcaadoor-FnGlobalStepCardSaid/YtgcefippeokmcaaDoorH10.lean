/- Vi, Ei, Er, Law, Or, Eo -/
import Derived.Test.YtgcefippeokmcaaDoorH09
import Derived.Test.YtgcefippeokmcaaDoorH07
import Derived.Deep.RegionHeld
import Derived.RegionTactic
import Derived.Test.YtgcefippeokmcaaDoorH00
import Derived.Deep.QuietTactic
import Derived.BigQuiet
import Derived.Test.YtgcefippeokmcaaDoorRows
import Derived.ProofKit
import Derived.ChangeArms
import Derived.Test.YtgcefippeokmcaaDoorH03
/- StepGlobal of the program. -/
namespace Go.Proofs.YtgcefippeokmcaaDoor
open Go.RowKit

set_option maxHeartbeats 4000000 in
set_option maxRecDepth 100000 in
theorem implStep (w : World) (g : Nd) (sv : Value) (s : ByteArray) (hs : Sl w sv g.kids) (hf : Fit g) :
    Calls Tryd.prog 35 #[.agg #[.int .i64 g.k, .string g.fr, .string g.tg, .int .i64 g.ix, sv], .string s] w (MadeR (stepR g s) (stepOk g s) w) := by
  have HS := hide hs
  have HF := hide hf
  have hb0 := (alloc_below w (.cells #[.int .i64 g.k, .string g.fr, .string g.tg, .int .i64 g.ix, sv] ( /- t -/ 39))).alloc (by simp) (.cells #[.int .i64 0, .string ⟨#[]⟩, .string ⟨#[]⟩, .int .i64 0, .slice none 0 0] ( /- t -/ 39))
  have hz0 := Box5.now (w.alloc (.cells #[.int .i64 g.k, .string g.fr, .string g.tg, .int .i64 g.ix, sv] ( /- t -/ 39))) (.int .i64 0) (.string ⟨#[]⟩) (.string ⟨#[]⟩) (.int .i64 0) (.slice none 0 0) ( /- t -/ 39)
  rw [show (w.alloc (.cells #[.int .i64 g.k, .string g.fr, .string g.tg, .int .i64 g.ix, sv] ( /- t -/ 39))).heap.size = w.heap.size + 1 from by simp] at hz0
  have HB0 := hide hb0
  have HZ0 := hide hz0
  clear hs hf hb0 hz0
  obtain ⟨R, hR⟩ : ∃ R, R = unfR g := ⟨_, rfl⟩
  obtain ⟨ok, hok⟩ : ∃ ok, ok = unfOk g := ⟨_, rfl⟩
  have HR := hide hR
  have HOK := hide hok
  clear hR hok
  go_enter Tryd.func35, Tryd.ntmps35
  go_wp2_with fail
  generalize (w.alloc (.cells #[.int .i64 g.k, .string g.fr, .string g.tg, .int .i64 g.ix, sv] ( /- t -/ 39))).alloc (.cells #[.int .i64 0, .string ⟨#[]⟩, .string ⟨#[]⟩, .int .i64 0, .slice none 0 0] ( /- t -/ 39)) = W at *
  refine (implUnf W g sv (HS.out.still (Still.of_below HB0.out)) HF.out).mono ?_
  rw [← HR.out, ← HOK.out]
  rintro e w1 ⟨u, bs, rfl, how, hge, hnd, hb⟩
  obtain ⟨ua, uc, rfl⟩ := how.val
  have hWl := HZ0.out.lt
  have hRl : R.kids.len ≤ 9223372036854775807 := by
    obtain ⟨_, _, _, e1, e2, _⟩ := id how
    unfold maxLen at e2
    omega
  have hbA := alloc_below w1 (.cells #[.int .i64 R.k, .string R.fr, .string R.tg, .int .i64 R.ix, .slice ua R.kids.len uc] ( /- t -/ 39))
  have h1 := HB0.out.trans (hb.mono HB0.out.size)
  have HST : Hid (StS w (w1.alloc (.cells #[.int .i64 R.k, .string R.fr, .string R.tg, .int .i64 R.ix, .slice ua R.kids.len uc] ( /- t -/ 39))) R (.slice ua R.kids.len uc) bs w1.heap.size) :=
    hide ⟨h1.trans (hbA.mono h1.size), (HZ0.out.below hb).below hbA, Box5.now w1 _ _ _ _ _ _, how.same (Same.of_below hbA how.lt), fun x hx => by have := hge x hx; omega, hnd⟩
  clear how hge hnd hb hbA h1 HZ0 HB0 HS HF
  obtain ⟨X, hX⟩ : ∃ X, X = w1.heap.size := ⟨_, rfl⟩
  rw [← hX] at HST
  obtain ⟨y0, y1, y2, y3, y4⟩ := HST.out.hx.cells
  have yl := HST.out.hx.lt
  cases hok : ok with
  | false =>
    have hno : stepO g s = none := by unfold stepO; rw [← HOK.out, hok]; rfl
    have HNO := hide hno
    obtain ⟨z0, z1, z2, z3, z4⟩ := HST.out.hz.cells
    have fz := HST.out.hz.frozen
    have zl := HST.out.hz.lt
    clear hno hX
    go_wp2_with fail
    refine bodyPost_ret (v := .tuple #[.agg #[.int .i64 0, .string ⟨#[]⟩, .string ⟨#[]⟩, .int .i64 0, .slice none 0 0], .bool false]) (by simp [results, Tryd.results35, go_sem, *]) rfl ?_
    rw [show stepOk g s = false by unfold stepOk; rw [HNO.out]; rfl, show stepR g s = zeroNd by unfold stepR; rw [HNO.out]; rfl]
    refine MadeR.zero ?_
    repeat (refine Below.setCell ?_ (by first | (simp; done) | (simp; omega)) _)
    exact HST.out.hb
  | true =>
    have HST2 : Hid (StRel w R s (.slice ua R.kids.len uc) bs X (.int .i64 0) (w1.alloc (.cells #[.int .i64 R.k, .string R.fr, .string R.tg, .int .i64 R.ix, .slice ua R.kids.len uc] ( /- t -/ 39)))) := hide ⟨.nil, R.kids, rfl, rfl, rfl, HST.out⟩
    clear HST
    go_wp2_with fail
    clear hX y0 y1 y2 y3 y4 yl
    go_loopw [21] (fun iv wr => StRel w R s (.slice ua R.kids.len uc) bs X iv wr) (fun iv _ => R.kids.len - (intOf iv).toNat)
    case atStart => exact HST2.out
    case round =>
      obtain ⟨p, q, he, rfl, hfind, hst⟩ := hrel
      cases q with
      | nil =>
        rw [F.app_nil] at he
        have hge : R.kids.len ≤ p.len := by rw [he]; exact Nat.le_refl _
        have hno : stepO g s = none := by rw [stepO_of, ← HR.out, hfind]; rfl
        have HNO := hide hno
        obtain ⟨z0, z1, z2, z3, z4⟩ := hst.hz.cells
        have fz := hst.hz.frozen
        have zl := hst.hz.lt
        have HSS := hide hst
        clear hno he hfind hst HST2
        go_wp2_with fail
        refine bodyPost_ret (v := .tuple #[.agg #[.int .i64 0, .string ⟨#[]⟩, .string ⟨#[]⟩, .int .i64 0, .slice none 0 0], .bool false]) (by simp [results, Tryd.results35, go_sem, *]) rfl ?_
        rw [show stepOk g s = false by unfold stepOk; rw [HNO.out]; rfl, show stepR g s = zeroNd by unfold stepR; rw [HNO.out]; rfl]
        refine MadeR.zero ?_
        repeat (refine Below.setCell ?_ (by first | (simp; done) | (simp; omega)) _)
        exact HSS.out.hb
      | cons lab kd fr' tg' ix' kids' rest =>
        have hlt : p.len < R.kids.len := by rw [he, F.len_app]; simp only [F.len]; omega
        obtain ⟨b, cap, a5, c5, ks, hu, c0, c1, c2, c3, c4, cc5, hko, hks, hkn⟩ := hst.ho.sub hst.hn he
        simp only [Value.slice.injEq, true_and] at hu
        obtain ⟨rfl, rfl⟩ := hu
        have hbl := World.block_lt_of_cell? _ _ c0
        have hbB := alloc_below wr (.cells #[.string lab, .int .i64 kd, .string fr', .string tg', .int .i64 ix', .slice a5 kids'.len c5] ( /- t -/ 54))
        have HE := hide (And.intro he hfind)
        have HS5 := hide (hst.below hbB)
        have HSS := hide hst
        have HK := hide (And.intro hko (And.intro hks hkn))
        obtain ⟨z0, z1, z2, z3, z4⟩ := hst.hz.cells
        have fz := hst.hz.frozen
        have zl := hst.hz.lt
        clear he hfind hst hko hks hkn HST2 hbB
        cases hl : (lab.toList == s.toList) with
        | true =>
          have hl3 : lab.toList = s.toList := by simpa using hl
          have hno : stepO g s = some ⟨kd, fr', tg', ix', kids'⟩ := by
            rw [stepO_of, ← HR.out, HE.out.2]
            unfold findF
            rw [hl]
            rfl
          have HNO := hide hno
          clear hno
          go_wp2_with fail
          refine bodyPost_ret (v := .tuple #[.agg #[.int .i64 kd, .string fr', .string tg', .int .i64 ix', .slice a5 kids'.len c5], .bool true]) (by simp [results, Tryd.results35, go_sem, *]) rfl ?_
          rw [show stepOk g s = true by unfold stepOk; rw [HNO.out]; rfl, show stepR g s = ⟨kd, fr', tg', ix', kids'⟩ by unfold stepR; rw [HNO.out]; rfl]
          exact MadeR.below (MadeR.sub (N := ⟨kd, fr', tg', ix', kids'⟩) HSS.out HK.out.1 HK.out.2.1 HK.out.2.2 _ _ _ _ _) (alloc_below _ _)
        | false =>
          have hl3 : ¬ lab.toList = s.toList := by simpa using hl
          have hnx : findF R.kids s = findF rest s := by
            rw [HE.out.2]
            conv => lhs; unfold findF
            rw [hl]
            rfl
          have HREL : Hid (StRel w R s (.slice (some ⟨b, 0, none⟩) R.kids.len uc) bs X (.int .i64 ((p.len + 1 : Nat) : Int)) (wr.alloc (.cells #[.string lab, .int .i64 kd, .string fr', .string tg', .int .i64 ix', .slice a5 kids'.len c5] ( /- t -/ 54)))) :=
            hide ⟨p.app (.cons lab kd fr' tg' ix' kids' .nil), rest, by rw [HE.out.1, F.app_assoc]; rfl, by rw [F.len_app]; rfl, hnx, HS5.out⟩
          clear hnx z0 z1 z2 z3 z4 fz zl
          go_wp2_with fail
          exact ⟨HREL.out, by simp [intOf]; omega⟩

end Go.Proofs.YtgcefippeokmcaaDoor

/- The law FnGlobalInvalid: its walk. -/
namespace Go.Proofs.YtgcefippeokmcaaDoor
open Go.RowKit

set_option maxHeartbeats 400000 in
theorem ginv_big (w : World) (a : Option Addr) (n c : Nat) (hn : (1048576 : Int) < (n : Int)) :
    Calls Tryd.prog 10 #[.slice a n c] w fun e w' => e = .returned (.bool true) ∧ Below w.heap.size w w' := by
  go_enter Tryd.func10, Tryd.ntmps10
  go_wp2_with fail
  go_ret
  exact ⟨rfl, Below.refl _ _⟩

set_option maxHeartbeats 4000000 in
set_option maxRecDepth 100000 in
theorem ginv_small (w : World) (a : Option Addr) (c : Nat) (l : List Nat) (hs : SlG elY w (.slice a l.length c) l) (hl : l.length ≤ 1048576) :
    Calls Tryd.prog 10 #[.slice a l.length c] w fun e w' => e = .returned (.bool true) ∧ Below w.heap.size w w' := by
  have hl2 : ¬ (1048576 : Int) < (l.length : Int) := by omega
  have HSV := hide hs
  clear hs
  go_enter Tryd.func10, Tryd.ntmps10
  go_wp2_with fail
  refine (drawS_calls w _ l HSV.out).mono ?_
  rintro e w1 ⟨g, u, bs, lab, rfl, how, -, -, hb1, hf, hsz⟩
  obtain ⟨ga, gc, rfl⟩ := how.val
  have HN1 := hide (Nv.now how ( /- t -/ 39))
  have HB1 := hide (hb1.alloc hb1.size (.cells #[.int .i64 g.k, .string g.fr, .string g.tg, .int .i64 g.ix, .slice ga g.kids.len gc] ( /- t -/ 39)))
  have HF := hide hf
  have HSZ := hide hsz
  clear how hb1 hf hsz HSV
  go_upto_region 4 with fail
  generalize w1.alloc (.cells #[.int .i64 g.k, .string g.fr, .string g.tg, .int .i64 g.ix, .slice ga g.kids.len gc] ( /- t -/ 39)) = W1 at *
  generalize w1.heap.size = b1 at *
  obtain ⟨x0, x1, x2, x3, x4⟩ := HN1.out.box.cells
  have lx := HN1.out.lt
  go_wp2_with fail
  refine (implValid W1 g.k g.ix g.fr g.tg _ g.kids HN1.out.sl).mono ?_
  rintro e w2 ⟨rfl, hb2⟩
  have HN2 := hide (HN1.out.below hb2)
  have HB2 := hide (HB1.out.trans (hb2.mono HB1.out.size))
  clear x0 x1 x2 x3 x4 lx hb2 HN1 HB1
  obtain ⟨x0, x1, x2, x3, x4⟩ := HN2.out.box.cells
  have lx := HN2.out.lt
  cases hok : okN g.k g.fr g.tg g.ix g.kids with
  | true =>
    go_wp2_with fail
    refine (specValidBig w2 g.k g.ix g.fr g.tg _ g.kids HN2.out.sl).mono ?_
    rintro e w3 ⟨rfl, hb3⟩
    rw [hok]
    have HN3 := hide (HN2.out.below hb3)
    have HB3 := hide (HB2.out.trans (hb3.mono HB2.out.size))
    clear x0 x1 x2 x3 x4 lx hb3 HN2 HB2
    obtain ⟨x0, x1, x2, x3, x4⟩ := HN3.out.box.cells
    have lx := HN3.out.lt
    go_wp2_with fail
    refine (specValidBig w3 g.k g.ix g.fr g.tg _ g.kids HN3.out.sl).mono ?_
    rintro e w4 ⟨rfl, hb4⟩
    rw [hok]
    have HB4 := hide (HB3.out.trans (hb4.mono HB3.out.size))
    clear hb4
    go_wp2_with fail
    go_ret
    exact ⟨rfl, HB4.out⟩
  | false =>
    have hU : unfOk g = false := by unfold unfOk okG; rw [hok]; rfl
    have hUR : unfR g = zeroNd := by unfold unfR; rw [hU]; rfl
    have hS : stepO g lab = none := by unfold stepO; rw [hU]; rfl
    have hSR : stepR g lab = zeroNd := by unfold stepR; rw [hS]; rfl
    have hSO : stepOk g lab = false := by unfold stepOk; rw [hS]; rfl
    have HIU := hide (fun (W : World) (sv : Value) (hs : Sl W sv g.kids) => implUnf W g sv hs HF.out)
    have HIS := hide (fun (W : World) (sv : Value) (hs : Sl W sv g.kids) => implStep W g sv lab hs HF.out)
    rw [hU, hUR] at HIU
    rw [hSR, hSO] at HIS
    have HINO := hide (fun (W : World) (sv : Value) (hs : Sl W sv g.kids) => implNodes W g.k g.ix g.fr g.tg sv g.kids hs)
    have HIF := hide (fun (W : World) (sv : Value) (hs : Sl W sv g.kids) => implFormat W g.k g.ix g.fr g.tg sv g.kids hs)
    have HIR := hide (fun (W : World) (sv : Value) (hs : Sl W sv g.kids) => implRoles W g.k g.ix g.fr g.tg sv g.kids hs)
    rw [show nodesN g.k g.fr g.tg g.ix g.kids = 0 by unfold nodesN; rw [hok]; rfl] at HINO
    rw [show textN g.k g.fr g.tg g.ix g.kids = ⟨#[]⟩ by unfold textN; rw [hok]; rfl] at HIF
    rw [show rolesN g.k g.fr g.tg g.ix g.kids = ⟨#[]⟩ by unfold rolesN; rw [hok]; rfl] at HIR
    have HZR : Hid (∀ z, zeroNd = z → z.kids.sz ≤ 1048576) := hide (fun z h => by subst h; exact Nat.zero_le _)
    clear hU hUR hS hSR hSO
    go_wp2_with fail
    refine (specValidBig w2 g.k g.ix g.fr g.tg _ g.kids HN2.out.sl).mono ?_
    rintro e w3 ⟨rfl, hb3⟩
    rw [hok]
    have HN1 := hide (HN2.out.below hb3)
    have HB3 := hide (HB2.out.trans (hb3.mono HB2.out.size))
    clear x0 x1 x2 x3 x4 lx hb3 HN2 HB2
    obtain ⟨x0, x1, x2, x3, x4⟩ := HN1.out.box.cells
    have lx := HN1.out.lt
    go_wp2_with fail
    refine (HIU.out w3 _ HN1.out.sl).mono ?_
    rintro e w_4 ⟨v, vbs, rfl, vhow, -, -, vhb⟩
    obtain ⟨va, vc, rfl⟩ := vhow.val
    have HNv := hide (Nv.now vhow ( /- t -/ 39))
    have HB4 := hide ((HB3.out.trans (vhb.mono HB3.out.size)).alloc (Nat.le_trans HB3.out.size vhb.size) (.cells #[.int .i64 zeroNd.k, .string zeroNd.fr, .string zeroNd.tg, .int .i64 zeroNd.ix, .slice va zeroNd.kids.len vc] ( /- t -/ 39)))
    have HN1x := hide ((HN1.out.below vhb).below (alloc_below w_4 (.cells #[.int .i64 zeroNd.k, .string zeroNd.fr, .string zeroNd.tg, .int .i64 zeroNd.ix, .slice va zeroNd.kids.len vc] ( /- t -/ 39))))
    clear HN1
    have HN1 := HN1x
    clear HN1x
    clear vhow vhb
    clear x0 x1 x2 x3 x4 lx HB3
    go_upto_region 8 with fail
    generalize w_4.alloc (.cells #[.int .i64 zeroNd.k, .string zeroNd.fr, .string zeroNd.tg, .int .i64 zeroNd.ix, .slice va zeroNd.kids.len vc] ( /- t -/ 39)) = W4 at *
    generalize w_4.heap.size = b4 at *
    obtain ⟨x0, x1, x2, x3, x4⟩ := HN1.out.box.cells
    have lx := HN1.out.lt
    go_wp2_with fail
    refine (HIS.out W4 _ HN1.out.sl).mono ?_
    rintro e w_5 ⟨y, ybs, rfl, yhow, -, -, yhb⟩
    obtain ⟨ya, yc, rfl⟩ := yhow.val
    have HNy := hide (Nv.now yhow ( /- t -/ 39))
    have HB5 := hide ((HB4.out.trans (yhb.mono HB4.out.size)).alloc (Nat.le_trans HB4.out.size yhb.size) (.cells #[.int .i64 zeroNd.k, .string zeroNd.fr, .string zeroNd.tg, .int .i64 zeroNd.ix, .slice ya zeroNd.kids.len yc] ( /- t -/ 39)))
    have HN1x := hide ((HN1.out.below yhb).below (alloc_below w_5 (.cells #[.int .i64 zeroNd.k, .string zeroNd.fr, .string zeroNd.tg, .int .i64 zeroNd.ix, .slice ya zeroNd.kids.len yc] ( /- t -/ 39))))
    clear HN1
    have HN1 := HN1x
    clear HN1x
    have HNvx := hide ((HNv.out.below yhb).below (alloc_below w_5 (.cells #[.int .i64 zeroNd.k, .string zeroNd.fr, .string zeroNd.tg, .int .i64 zeroNd.ix, .slice ya zeroNd.kids.len yc] ( /- t -/ 39))))
    clear HNv
    have HNv := HNvx
    clear HNvx
    clear yhow yhb
    clear x0 x1 x2 x3 x4 lx HB4
    go_upto_region 9 with fail
    generalize w_5.alloc (.cells #[.int .i64 zeroNd.k, .string zeroNd.fr, .string zeroNd.tg, .int .i64 zeroNd.ix, .slice ya zeroNd.kids.len yc] ( /- t -/ 39)) = W5 at *
    generalize w_5.heap.size = b5 at *
    have HNZ := hide (Nv.now (w := W5) (g := zeroNd) (u := .slice none 0 0) (bs := []) ⟨none, 0, rfl, Nat.le_refl _, Nat.zero_le _, Or.inl ⟨rfl, rfl⟩⟩ ( /- t -/ 39))
    have HKEEP := hide (And.intro (HNv.out.below (alloc_below W5 (.cells #[.int .i64 0, .string ⟨#[]⟩, .string ⟨#[]⟩, .int .i64 0, .slice none 0 0] ( /- t -/ 39)))) (And.intro (HNy.out.below (alloc_below W5 (.cells #[.int .i64 0, .string ⟨#[]⟩, .string ⟨#[]⟩, .int .i64 0, .slice none 0 0] ( /- t -/ 39)))) (And.intro HNZ.out (And.intro (HN1.out.below (alloc_below W5 (.cells #[.int .i64 0, .string ⟨#[]⟩, .string ⟨#[]⟩, .int .i64 0, .slice none 0 0] ( /- t -/ 39)))) (HB5.out.alloc HB5.out.size (.cells #[.int .i64 0, .string ⟨#[]⟩, .string ⟨#[]⟩, .int .i64 0, .slice none 0 0] ( /- t -/ 39)))))))
    clear HNv HNy HNZ HN1 HB5 HSZ
    go_upto_region 10 with fail
    have hWs : W5.heap.size < (W5.alloc (.cells #[.int .i64 0, .string ⟨#[]⟩, .string ⟨#[]⟩, .int .i64 0, .slice none 0 0] ( /- t -/ 39))).heap.size := by simp
    change Hid (Nv (W5.alloc (.cells #[.int .i64 0, .string ⟨#[]⟩, .string ⟨#[]⟩, .int .i64 0, .slice none 0 0] ( /- t -/ 39))) _ _ _ ∧ Nv (W5.alloc (.cells #[.int .i64 0, .string ⟨#[]⟩, .string ⟨#[]⟩, .int .i64 0, .slice none 0 0] ( /- t -/ 39))) _ _ _ ∧ Nv (W5.alloc (.cells #[.int .i64 0, .string ⟨#[]⟩, .string ⟨#[]⟩, .int .i64 0, .slice none 0 0] ( /- t -/ 39))) _ _ _ ∧ Nv (W5.alloc (.cells #[.int .i64 0, .string ⟨#[]⟩, .string ⟨#[]⟩, .int .i64 0, .slice none 0 0] ( /- t -/ 39))) _ _ _ ∧ Below _ _ (W5.alloc (.cells #[.int .i64 0, .string ⟨#[]⟩, .string ⟨#[]⟩, .int .i64 0, .slice none 0 0] ( /- t -/ 39)))) at HKEEP
    generalize W5.alloc (.cells #[.int .i64 0, .string ⟨#[]⟩, .string ⟨#[]⟩, .int .i64 0, .slice none 0 0] ( /- t -/ 39)) = W6 at *
    refine wp_region_held_drew (S := (fun w' => Nv w' b4 zeroNd (.slice va zeroNd.kids.len vc) ∧ Nv w' b5 zeroNd (.slice ya zeroNd.kids.len yc) ∧ Nv w' W5.heap.size zeroNd (.slice none 0 0) ∧ Nv w' b1 g (.slice ga g.kids.len gc) ∧ Below w.heap.size w w')) (by kernel_rfl) ?_ (fun hHeld => ?_)
    · exact ⟨HKEEP.out.1.drew, HKEEP.out.2.1.drew, HKEEP.out.2.2.1.drew, HKEEP.out.2.2.2.1.drew, HKEEP.out.2.2.2.2.drew⟩
    have HKEEP := hide hHeld
    refine wpAnyH_take (i := 0) (v := ?v0) rfl (by kernel_rfl) (by kernel_rfl) (by kernel_rfl) (fun _ _ _ h => h) (Or.inl ⟨by kernel_rfl, ?hy0⟩) (by assumption) ?rest0
    case hy0 => ((intro wS hSw); (obtain ⟨hSa, hSb, hSc, hSd, -⟩ := hSw); (obtain ⟨p0, p1, p2, p3, p4⟩ := hSa.box.cells); (obtain ⟨q0, q1, q2, q3, q4⟩ := hSb.box.cells); (obtain ⟨r0, r1, r2, r3, r4⟩ := hSc.box.cells); (obtain ⟨s0, s1, s2, s3, s4⟩ := hSd.box.cells); (go_simp); (try with_reducible rfl))
    change wpAnyH _ _ _ _ _ _ _ (Act.put _ (some 44) _) _
    (try simp only [Act.put]); (try simp only [List.setIfInBounds_toArray]); (try simp only [List.set_cons_zero]); (try simp only [List.set_cons_succ])
    refine wpAnyH_take (i := 1) (v := ?v1) rfl (by kernel_rfl) (by kernel_rfl) (by kernel_rfl) (fun _ _ _ h => h) (Or.inl ⟨by kernel_rfl, ?hy1⟩) (by assumption) ?rest1
    case hy1 => ((intro wS hSw); (obtain ⟨hSa, hSb, hSc, hSd, -⟩ := hSw); (obtain ⟨p0, p1, p2, p3, p4⟩ := hSa.box.cells); (obtain ⟨q0, q1, q2, q3, q4⟩ := hSb.box.cells); (obtain ⟨r0, r1, r2, r3, r4⟩ := hSc.box.cells); (obtain ⟨s0, s1, s2, s3, s4⟩ := hSd.box.cells); (go_simp); (try with_reducible rfl))
    change wpAnyH _ _ _ _ _ _ _ (Act.put _ (some 45) _) _
    (try simp only [Act.put]); (try simp only [List.setIfInBounds_toArray]); (try simp only [List.set_cons_zero]); (try simp only [List.set_cons_succ])
    refine wpAnyH_take (i := 2) (v := ?v2) rfl (by kernel_rfl) (by kernel_rfl) (by kernel_rfl) (fun _ _ _ h => h) (Or.inl ⟨by kernel_rfl, ?hy2⟩) (by assumption) ?rest2
    case hy2 => ((intro wS hSw); (obtain ⟨hSa, hSb, hSc, hSd, -⟩ := hSw); (obtain ⟨p0, p1, p2, p3, p4⟩ := hSa.box.cells); (obtain ⟨q0, q1, q2, q3, q4⟩ := hSb.box.cells); (obtain ⟨r0, r1, r2, r3, r4⟩ := hSc.box.cells); (obtain ⟨s0, s1, s2, s3, s4⟩ := hSd.box.cells); (go_simp); (try with_reducible rfl))
    change wpAnyH _ _ _ _ _ _ _ (Act.put _ (some 46) _) _
    (try simp only [Act.put]); (try simp only [List.setIfInBounds_toArray]); (try simp only [List.set_cons_zero]); (try simp only [List.set_cons_succ])
    refine wpAnyH_take (i := 3) (v := ?v3) rfl (by kernel_rfl) (by kernel_rfl) (by kernel_rfl) (fun _ _ _ h => h) (Or.inl ⟨by kernel_rfl, ?hy3⟩) (by assumption) ?rest3
    case hy3 => ((intro wS hSw); (obtain ⟨hSa, hSb, hSc, hSd, -⟩ := hSw); (obtain ⟨p0, p1, p2, p3, p4⟩ := hSa.box.cells); (obtain ⟨q0, q1, q2, q3, q4⟩ := hSb.box.cells); (obtain ⟨r0, r1, r2, r3, r4⟩ := hSc.box.cells); (obtain ⟨s0, s1, s2, s3, s4⟩ := hSd.box.cells); (go_simp); (try with_reducible rfl))
    change wpAnyH _ _ _ _ _ _ _ (Act.put _ (some 47) _) _
    (try simp only [Act.put]); (try simp only [List.setIfInBounds_toArray]); (try simp only [List.set_cons_zero]); (try simp only [List.set_cons_succ])
    refine wpAnyH_take (i := 4) (v := ?v4) rfl (by kernel_rfl) (by kernel_rfl) (by kernel_rfl) (fun _ _ _ h => h) (Or.inl ⟨by kernel_rfl, ?hy4⟩) (by assumption) ?rest4
    case hy4 => ((intro wS hSw); (obtain ⟨hSa, hSb, hSc, hSd, -⟩ := hSw); (obtain ⟨p0, p1, p2, p3, p4⟩ := hSa.box.cells); (obtain ⟨q0, q1, q2, q3, q4⟩ := hSb.box.cells); (obtain ⟨r0, r1, r2, r3, r4⟩ := hSc.box.cells); (obtain ⟨s0, s1, s2, s3, s4⟩ := hSd.box.cells); (go_simp); (try with_reducible rfl))
    change wpAnyH _ _ _ _ _ _ _ (Act.put _ (some 48) _) _
    (try simp only [Act.put]); (try simp only [List.setIfInBounds_toArray]); (try simp only [List.set_cons_zero]); (try simp only [List.set_cons_succ])
    refine wpAnyH_take (i := 5) (v := ?v5) rfl (by kernel_rfl) (by kernel_rfl) (by kernel_rfl) (fun _ _ _ h => h) (Or.inl ⟨by kernel_rfl, ?hy5⟩) (by assumption) ?rest5
    case hy5 => ((intro wS hSw); (obtain ⟨hSa, hSb, hSc, hSd, -⟩ := hSw); (obtain ⟨p0, p1, p2, p3, p4⟩ := hSa.box.cells); (obtain ⟨q0, q1, q2, q3, q4⟩ := hSb.box.cells); (obtain ⟨r0, r1, r2, r3, r4⟩ := hSc.box.cells); (obtain ⟨s0, s1, s2, s3, s4⟩ := hSd.box.cells); (go_simp); (try with_reducible rfl))
    change wpAnyH _ _ _ _ _ _ _ (Act.put _ (some 49) _) _
    (try simp only [Act.put]); (try simp only [List.setIfInBounds_toArray]); (try simp only [List.set_cons_zero]); (try simp only [List.set_cons_succ])
    refine wpAnyH_take (i := 6) (v := ?v6) rfl (by kernel_rfl) (by kernel_rfl) (by kernel_rfl) (fun _ _ _ h => h) (Or.inl ⟨by kernel_rfl, ?hy6⟩) (by assumption) ?rest6
    case hy6 => ((intro wS hSw); (obtain ⟨hSa, hSb, hSc, hSd, -⟩ := hSw); (obtain ⟨p0, p1, p2, p3, p4⟩ := hSa.box.cells); (obtain ⟨q0, q1, q2, q3, q4⟩ := hSb.box.cells); (obtain ⟨r0, r1, r2, r3, r4⟩ := hSc.box.cells); (obtain ⟨s0, s1, s2, s3, s4⟩ := hSd.box.cells); (go_simp); (try with_reducible rfl))
    change wpAnyH _ _ _ _ _ _ _ (Act.put _ (some 50) _) _
    (try simp only [Act.put]); (try simp only [List.setIfInBounds_toArray]); (try simp only [List.set_cons_zero]); (try simp only [List.set_cons_succ])
    refine wpAnyH_take (i := 7) (v := ?v7) rfl (by kernel_rfl) (by kernel_rfl) (by kernel_rfl) (fun _ _ _ h => h) (Or.inl ⟨by kernel_rfl, ?hy7⟩) (by assumption) ?rest7
    case hy7 => ((intro wS hSw); (obtain ⟨hSa, hSb, hSc, hSd, -⟩ := hSw); (obtain ⟨p0, p1, p2, p3, p4⟩ := hSa.box.cells); (obtain ⟨q0, q1, q2, q3, q4⟩ := hSb.box.cells); (obtain ⟨r0, r1, r2, r3, r4⟩ := hSc.box.cells); (obtain ⟨s0, s1, s2, s3, s4⟩ := hSd.box.cells); (go_simp); (try with_reducible rfl))
    change wpAnyH _ _ _ _ _ _ _ (Act.put _ (some 51) _) _
    (try simp only [Act.put]); (try simp only [List.setIfInBounds_toArray]); (try simp only [List.set_cons_zero]); (try simp only [List.set_cons_succ])
    refine wpAnyH_take (i := 8) (v := ?v8) rfl (by kernel_rfl) (by kernel_rfl) (by kernel_rfl) (fun _ _ _ h => h) (Or.inl ⟨by kernel_rfl, ?hy8⟩) (by assumption) ?rest8
    case hy8 => ((intro wS hSw); (obtain ⟨hSa, hSb, hSc, hSd, -⟩ := hSw); (obtain ⟨p0, p1, p2, p3, p4⟩ := hSa.box.cells); (obtain ⟨q0, q1, q2, q3, q4⟩ := hSb.box.cells); (obtain ⟨r0, r1, r2, r3, r4⟩ := hSc.box.cells); (obtain ⟨s0, s1, s2, s3, s4⟩ := hSd.box.cells); (go_simp); (try with_reducible rfl))
    change wpAnyH _ _ _ _ _ _ _ (Act.put _ (some 52) _) _
    (try simp only [Act.put]); (try simp only [List.setIfInBounds_toArray]); (try simp only [List.set_cons_zero]); (try simp only [List.set_cons_succ])
    refine wpAnyH_ready (rs := [9]) (by kernel_rfl) (by simp) (AllReadyH.cons rfl (fun K hK => ?_) AllReadyH.nil)
    rw [if_pos (by kernel_rfl)]
    go_simp
    (obtain ⟨hA, hB, hC, hD, hE⟩ := HKEEP.out); go_at_call 32; refine (same_self _ zeroNd _ _ hA.own hC.own (HZR.out _ rfl)).mono ?_; (rintro e w_x ⟨rfl, hbx⟩); (have HK2 := hide (And.intro (hA.below hbx) (And.intro (hB.below hbx) (And.intro (hC.below hbx) (And.intro (hD.below hbx) (hE.trans (hbx.mono hE.size))))))); (clear hA hB hC hD hE hbx HKEEP); (have HKEEP := HK2); clear HK2
    refine hK.out _ _ ?_ (fun hHeld => ?_)
    · exact HKEEP.out
    clear hK K
    (try simp only [Act.put]); (try simp only [List.setIfInBounds_toArray]); (try simp only [List.set_cons_zero]); (try simp only [List.set_cons_succ])
    refine wpAnyH_take (i := 10) (v := ?v10) rfl (by kernel_rfl) (by kernel_rfl) (by kernel_rfl) (fun _ _ _ h => h) (Or.inl ⟨by kernel_rfl, ?hy10⟩) (by assumption) ?rest10
    case hy10 => ((intro wS hSw); (obtain ⟨hSa, hSb, hSc, hSd, -⟩ := hSw); (obtain ⟨p0, p1, p2, p3, p4⟩ := hSa.box.cells); (obtain ⟨q0, q1, q2, q3, q4⟩ := hSb.box.cells); (obtain ⟨r0, r1, r2, r3, r4⟩ := hSc.box.cells); (obtain ⟨s0, s1, s2, s3, s4⟩ := hSd.box.cells); (go_simp); (try with_reducible rfl))
    change wpAnyH _ _ _ _ _ _ _ (Act.put _ (some 54) _) _
    (try simp only [Act.put]); (try simp only [List.setIfInBounds_toArray]); (try simp only [List.set_cons_zero]); (try simp only [List.set_cons_succ])
    refine wpAnyH_take (i := 11) (v := ?v11) rfl (by kernel_rfl) (by kernel_rfl) (by kernel_rfl) (fun _ _ _ h => h) (Or.inl ⟨by kernel_rfl, ?hy11⟩) (by assumption) ?rest11
    case hy11 => ((intro wS hSw); (obtain ⟨hSa, hSb, hSc, hSd, -⟩ := hSw); (obtain ⟨p0, p1, p2, p3, p4⟩ := hSa.box.cells); (obtain ⟨q0, q1, q2, q3, q4⟩ := hSb.box.cells); (obtain ⟨r0, r1, r2, r3, r4⟩ := hSc.box.cells); (obtain ⟨s0, s1, s2, s3, s4⟩ := hSd.box.cells); (go_simp); (try with_reducible rfl))
    change wpAnyH _ _ _ _ _ _ _ (Act.put _ (some 55) _) _
    (try simp only [Act.put]); (try simp only [List.setIfInBounds_toArray]); (try simp only [List.set_cons_zero]); (try simp only [List.set_cons_succ])
    refine wpAnyH_take (i := 12) (v := ?v12) rfl (by kernel_rfl) (by kernel_rfl) (by kernel_rfl) (fun _ _ _ h => h) (Or.inl ⟨by kernel_rfl, ?hy12⟩) (by assumption) ?rest12
    case hy12 => ((intro wS hSw); (obtain ⟨hSa, hSb, hSc, hSd, -⟩ := hSw); (obtain ⟨p0, p1, p2, p3, p4⟩ := hSa.box.cells); (obtain ⟨q0, q1, q2, q3, q4⟩ := hSb.box.cells); (obtain ⟨r0, r1, r2, r3, r4⟩ := hSc.box.cells); (obtain ⟨s0, s1, s2, s3, s4⟩ := hSd.box.cells); (go_simp); (try with_reducible rfl))
    change wpAnyH _ _ _ _ _ _ _ (Act.put _ (some 56) _) _
    (try simp only [Act.put]); (try simp only [List.setIfInBounds_toArray]); (try simp only [List.set_cons_zero]); (try simp only [List.set_cons_succ])
    refine wpAnyH_take (i := 13) (v := ?v13) rfl (by kernel_rfl) (by kernel_rfl) (by kernel_rfl) (fun _ _ _ h => h) (Or.inl ⟨by kernel_rfl, ?hy13⟩) (by assumption) ?rest13
    case hy13 => ((intro wS hSw); (obtain ⟨hSa, hSb, hSc, hSd, -⟩ := hSw); (obtain ⟨p0, p1, p2, p3, p4⟩ := hSa.box.cells); (obtain ⟨q0, q1, q2, q3, q4⟩ := hSb.box.cells); (obtain ⟨r0, r1, r2, r3, r4⟩ := hSc.box.cells); (obtain ⟨s0, s1, s2, s3, s4⟩ := hSd.box.cells); (go_simp); (try with_reducible rfl))
    change wpAnyH _ _ _ _ _ _ _ (Act.put _ (some 57) _) _
    (try simp only [Act.put]); (try simp only [List.setIfInBounds_toArray]); (try simp only [List.set_cons_zero]); (try simp only [List.set_cons_succ])
    refine wpAnyH_ready (rs := [14]) (by kernel_rfl) (by simp) (AllReadyH.cons rfl (fun K hK => ?_) AllReadyH.nil)
    rw [if_pos (by kernel_rfl)]
    go_simp
    (obtain ⟨hA, hB, hC, hD, hE⟩ := HKEEP.out); go_at_call 32; refine (same_self _ zeroNd _ _ hB.own hC.own (HZR.out _ rfl)).mono ?_; (rintro e w_x ⟨rfl, hbx⟩); (have HK2 := hide (And.intro (hA.below hbx) (And.intro (hB.below hbx) (And.intro (hC.below hbx) (And.intro (hD.below hbx) (hE.trans (hbx.mono hE.size))))))); (clear hA hB hC hD hE hbx HKEEP); (have HKEEP := HK2); clear HK2
    refine hK.out _ _ ?_ (fun hHeld => ?_)
    · exact HKEEP.out
    clear hK K
    (try simp only [Act.put]); (try simp only [List.setIfInBounds_toArray]); (try simp only [List.set_cons_zero]); (try simp only [List.set_cons_succ])
    refine wpAnyH_take (i := 15) (v := ?v15) rfl (by kernel_rfl) (by kernel_rfl) (by kernel_rfl) (fun _ _ _ h => h) (Or.inl ⟨by kernel_rfl, ?hy15⟩) (by assumption) ?rest15
    case hy15 => ((intro wS hSw); (obtain ⟨hSa, hSb, hSc, hSd, -⟩ := hSw); (obtain ⟨p0, p1, p2, p3, p4⟩ := hSa.box.cells); (obtain ⟨q0, q1, q2, q3, q4⟩ := hSb.box.cells); (obtain ⟨r0, r1, r2, r3, r4⟩ := hSc.box.cells); (obtain ⟨s0, s1, s2, s3, s4⟩ := hSd.box.cells); (go_simp); (try with_reducible rfl))
    change wpAnyH _ _ _ _ _ _ _ (Act.put _ (some 59) _) _
    (try simp only [Act.put]); (try simp only [List.setIfInBounds_toArray]); (try simp only [List.set_cons_zero]); (try simp only [List.set_cons_succ])
    refine wpAnyH_take (i := 16) (v := ?v16) rfl (by kernel_rfl) (by kernel_rfl) (by kernel_rfl) (fun _ _ _ h => h) (Or.inl ⟨by kernel_rfl, ?hy16⟩) (by assumption) ?rest16
    case hy16 => ((intro wS hSw); (obtain ⟨hSa, hSb, hSc, hSd, -⟩ := hSw); (obtain ⟨p0, p1, p2, p3, p4⟩ := hSa.box.cells); (obtain ⟨q0, q1, q2, q3, q4⟩ := hSb.box.cells); (obtain ⟨r0, r1, r2, r3, r4⟩ := hSc.box.cells); (obtain ⟨s0, s1, s2, s3, s4⟩ := hSd.box.cells); (go_simp); (try with_reducible rfl))
    change wpAnyH _ _ _ _ _ _ _ (Act.put _ (some 60) _) _
    (try simp only [Act.put]); (try simp only [List.setIfInBounds_toArray]); (try simp only [List.set_cons_zero]); (try simp only [List.set_cons_succ])
    refine wpAnyH_take (i := 17) (v := ?v17) rfl (by kernel_rfl) (by kernel_rfl) (by kernel_rfl) (fun _ _ _ h => h) (Or.inl ⟨by kernel_rfl, ?hy17⟩) (by assumption) ?rest17
    case hy17 => ((intro wS hSw); (obtain ⟨hSa, hSb, hSc, hSd, -⟩ := hSw); (obtain ⟨p0, p1, p2, p3, p4⟩ := hSa.box.cells); (obtain ⟨q0, q1, q2, q3, q4⟩ := hSb.box.cells); (obtain ⟨r0, r1, r2, r3, r4⟩ := hSc.box.cells); (obtain ⟨s0, s1, s2, s3, s4⟩ := hSd.box.cells); (go_simp); (try with_reducible rfl))
    change wpAnyH _ _ _ _ _ _ _ (Act.put _ (some 61) _) _
    (try simp only [Act.put]); (try simp only [List.setIfInBounds_toArray]); (try simp only [List.set_cons_zero]); (try simp only [List.set_cons_succ])
    refine wpAnyH_ready (rs := [18]) (by kernel_rfl) (by simp) (AllReadyH.cons rfl (fun K hK => ?_) AllReadyH.nil)
    rw [if_pos (by kernel_rfl)]
    go_simp
    (obtain ⟨hA, hB, hC, hD, hE⟩ := HKEEP.out); go_at_call 50; refine (HINO.out _ _ hD.sl).mono ?_; (rintro e w_x ⟨rfl, hbx⟩); (have HK2 := hide (And.intro (hA.below hbx) (And.intro (hB.below hbx) (And.intro (hC.below hbx) (And.intro (hD.below hbx) (hE.trans (hbx.mono hE.size))))))); (clear hA hB hC hD hE hbx HKEEP); (have HKEEP := HK2); clear HK2
    refine hK.out _ _ ?_ (fun hHeld => ?_)
    · exact HKEEP.out
    clear hK K
    (try simp only [Act.put]); (try simp only [List.setIfInBounds_toArray]); (try simp only [List.set_cons_zero]); (try simp only [List.set_cons_succ])
    refine wpAnyH_take (i := 19) (v := ?v19) rfl (by kernel_rfl) (by kernel_rfl) (by kernel_rfl) (fun _ _ _ h => h) (Or.inl ⟨by kernel_rfl, ?hy19⟩) (by assumption) ?rest19
    case hy19 => ((intro wS hSw); (obtain ⟨hSa, hSb, hSc, hSd, -⟩ := hSw); (obtain ⟨p0, p1, p2, p3, p4⟩ := hSa.box.cells); (obtain ⟨q0, q1, q2, q3, q4⟩ := hSb.box.cells); (obtain ⟨r0, r1, r2, r3, r4⟩ := hSc.box.cells); (obtain ⟨s0, s1, s2, s3, s4⟩ := hSd.box.cells); (go_simp); (try with_reducible rfl))
    change wpAnyH _ _ _ _ _ _ _ (Act.put _ (some 63) _) _
    (try simp only [Act.put]); (try simp only [List.setIfInBounds_toArray]); (try simp only [List.set_cons_zero]); (try simp only [List.set_cons_succ])
    refine wpAnyH_take (i := 20) (v := ?v20) rfl (by kernel_rfl) (by kernel_rfl) (by kernel_rfl) (fun _ _ _ h => h) (Or.inl ⟨by kernel_rfl, ?hy20⟩) (by assumption) ?rest20
    case hy20 => ((intro wS hSw); (obtain ⟨hSa, hSb, hSc, hSd, -⟩ := hSw); (obtain ⟨p0, p1, p2, p3, p4⟩ := hSa.box.cells); (obtain ⟨q0, q1, q2, q3, q4⟩ := hSb.box.cells); (obtain ⟨r0, r1, r2, r3, r4⟩ := hSc.box.cells); (obtain ⟨s0, s1, s2, s3, s4⟩ := hSd.box.cells); (go_simp); (try with_reducible rfl))
    change wpAnyH _ _ _ _ _ _ _ (Act.put _ (some 64) _) _
    (try simp only [Act.put]); (try simp only [List.setIfInBounds_toArray]); (try simp only [List.set_cons_zero]); (try simp only [List.set_cons_succ])
    refine wpAnyH_take (i := 21) (v := ?v21) rfl (by kernel_rfl) (by kernel_rfl) (by kernel_rfl) (fun _ _ _ h => h) (Or.inl ⟨by kernel_rfl, ?hy21⟩) (by assumption) ?rest21
    case hy21 => ((intro wS hSw); (obtain ⟨hSa, hSb, hSc, hSd, -⟩ := hSw); (obtain ⟨p0, p1, p2, p3, p4⟩ := hSa.box.cells); (obtain ⟨q0, q1, q2, q3, q4⟩ := hSb.box.cells); (obtain ⟨r0, r1, r2, r3, r4⟩ := hSc.box.cells); (obtain ⟨s0, s1, s2, s3, s4⟩ := hSd.box.cells); (go_simp); (try with_reducible rfl))
    change wpAnyH _ _ _ _ _ _ _ (Act.put _ (some 65) _) _
    (try simp only [Act.put]); (try simp only [List.setIfInBounds_toArray]); (try simp only [List.set_cons_zero]); (try simp only [List.set_cons_succ])
    refine wpAnyH_take (i := 22) (v := ?v22) rfl (by kernel_rfl) (by kernel_rfl) (by kernel_rfl) (fun _ _ _ h => h) (Or.inl ⟨by kernel_rfl, ?hy22⟩) (by assumption) ?rest22
    case hy22 => ((intro wS hSw); (obtain ⟨hSa, hSb, hSc, hSd, -⟩ := hSw); (obtain ⟨p0, p1, p2, p3, p4⟩ := hSa.box.cells); (obtain ⟨q0, q1, q2, q3, q4⟩ := hSb.box.cells); (obtain ⟨r0, r1, r2, r3, r4⟩ := hSc.box.cells); (obtain ⟨s0, s1, s2, s3, s4⟩ := hSd.box.cells); (go_simp); (try with_reducible rfl))
    change wpAnyH _ _ _ _ _ _ _ (Act.put _ (some 66) _) _
    (try simp only [Act.put]); (try simp only [List.setIfInBounds_toArray]); (try simp only [List.set_cons_zero]); (try simp only [List.set_cons_succ])
    refine wpAnyH_take (i := 24) (v := ?v24) rfl (by kernel_rfl) (by kernel_rfl) (by kernel_rfl) (fun _ _ _ h => h) (Or.inl ⟨by kernel_rfl, ?hy24⟩) (by assumption) ?rest24
    case hy24 => ((intro wS hSw); (obtain ⟨hSa, hSb, hSc, hSd, -⟩ := hSw); (obtain ⟨p0, p1, p2, p3, p4⟩ := hSa.box.cells); (obtain ⟨q0, q1, q2, q3, q4⟩ := hSb.box.cells); (obtain ⟨r0, r1, r2, r3, r4⟩ := hSc.box.cells); (obtain ⟨s0, s1, s2, s3, s4⟩ := hSd.box.cells); (go_simp); (try with_reducible rfl))
    change wpAnyH _ _ _ _ _ _ _ (Act.put _ (some 68) _) _
    (try simp only [Act.put]); (try simp only [List.setIfInBounds_toArray]); (try simp only [List.set_cons_zero]); (try simp only [List.set_cons_succ])
    refine wpAnyH_ready (rs := [23]) (by kernel_rfl) (by simp) (AllReadyH.cons rfl (fun K hK => ?_) AllReadyH.nil)
    rw [if_pos (by kernel_rfl)]
    go_simp
    (obtain ⟨hA, hB, hC, hD, hE⟩ := HKEEP.out); go_at_call 48; refine (HIF.out _ _ hD.sl).mono ?_; (rintro e w_x ⟨rfl, hbx⟩); (have HK2 := hide (And.intro (hA.below hbx) (And.intro (hB.below hbx) (And.intro (hC.below hbx) (And.intro (hD.below hbx) (hE.trans (hbx.mono hE.size))))))); (clear hA hB hC hD hE hbx HKEEP); (have HKEEP := HK2); clear HK2
    refine hK.out _ _ ?_ (fun hHeld => ?_)
    · exact HKEEP.out
    clear hK K
    (try simp only [Act.put]); (try simp only [List.setIfInBounds_toArray]); (try simp only [List.set_cons_zero]); (try simp only [List.set_cons_succ])
    refine wpAnyH_ready (rs := [25]) (by kernel_rfl) (by simp) (AllReadyH.cons rfl (fun K hK => ?_) AllReadyH.nil)
    rw [if_pos (by kernel_rfl)]
    go_simp
    (obtain ⟨hA, hB, hC, hD, hE⟩ := HKEEP.out); go_at_call 33; refine (HIR.out _ _ hD.sl).mono ?_; (rintro e w_x ⟨rfl, hbx⟩); (have HK2 := hide (And.intro (hA.below hbx) (And.intro (hB.below hbx) (And.intro (hC.below hbx) (And.intro (hD.below hbx) (hE.trans (hbx.mono hE.size))))))); (clear hA hB hC hD hE hbx HKEEP); (have HKEEP := HK2); clear HK2
    refine hK.out _ _ ?_ (fun hHeld => ?_)
    · exact HKEEP.out
    clear hK K
    (try simp only [Act.put]); (try simp only [List.setIfInBounds_toArray]); (try simp only [List.set_cons_zero]); (try simp only [List.set_cons_succ])
    refine wpAnyH_take (i := 26) (v := ?v26) rfl (by kernel_rfl) (by kernel_rfl) (by kernel_rfl) (fun _ _ _ h => h) (Or.inl ⟨by kernel_rfl, ?hy26⟩) (by assumption) ?rest26
    case hy26 => ((intro wS hSw); (obtain ⟨hSa, hSb, hSc, hSd, -⟩ := hSw); (obtain ⟨p0, p1, p2, p3, p4⟩ := hSa.box.cells); (obtain ⟨q0, q1, q2, q3, q4⟩ := hSb.box.cells); (obtain ⟨r0, r1, r2, r3, r4⟩ := hSc.box.cells); (obtain ⟨s0, s1, s2, s3, s4⟩ := hSd.box.cells); (go_simp); (try with_reducible rfl))
    change wpAnyH _ _ _ _ _ _ _ (Act.put _ (some 70) _) _
    (try simp only [Act.put]); (try simp only [List.setIfInBounds_toArray]); (try simp only [List.set_cons_zero]); (try simp only [List.set_cons_succ])
    refine wpAnyH_take (i := 27) (v := ?v27) rfl (by kernel_rfl) (by kernel_rfl) (by kernel_rfl) (fun _ _ _ h => h) (Or.inl ⟨by kernel_rfl, ?hy27⟩) (by assumption) ?rest27
    case hy27 => ((intro wS hSw); (obtain ⟨hSa, hSb, hSc, hSd, -⟩ := hSw); (obtain ⟨p0, p1, p2, p3, p4⟩ := hSa.box.cells); (obtain ⟨q0, q1, q2, q3, q4⟩ := hSb.box.cells); (obtain ⟨r0, r1, r2, r3, r4⟩ := hSc.box.cells); (obtain ⟨s0, s1, s2, s3, s4⟩ := hSd.box.cells); (go_simp); (try with_reducible rfl))
    change wpAnyH _ _ _ _ _ _ _ (Act.put _ (some 71) _) _
    (try simp only [Act.put]); (try simp only [List.setIfInBounds_toArray]); (try simp only [List.set_cons_zero]); (try simp only [List.set_cons_succ])
    refine wpAnyH_take (i := 28) (v := ?v28) rfl (by kernel_rfl) (by kernel_rfl) (by kernel_rfl) (fun _ _ _ h => h) (Or.inl ⟨by kernel_rfl, ?hy28⟩) (by assumption) ?rest28
    case hy28 => ((intro wS hSw); (obtain ⟨hSa, hSb, hSc, hSd, -⟩ := hSw); (obtain ⟨p0, p1, p2, p3, p4⟩ := hSa.box.cells); (obtain ⟨q0, q1, q2, q3, q4⟩ := hSb.box.cells); (obtain ⟨r0, r1, r2, r3, r4⟩ := hSc.box.cells); (obtain ⟨s0, s1, s2, s3, s4⟩ := hSd.box.cells); (go_simp); (try with_reducible rfl))
    change wpAnyH _ _ _ _ _ _ _ (Act.put _ (some 72) _) _
    (try simp only [Act.put]); (try simp only [List.setIfInBounds_toArray]); (try simp only [List.set_cons_zero]); (try simp only [List.set_cons_succ])
    refine wpAnyH_take (i := 29) (v := ?v29) rfl (by kernel_rfl) (by kernel_rfl) (by kernel_rfl) (fun _ _ _ h => h) (Or.inl ⟨by kernel_rfl, ?hy29⟩) (by assumption) ?rest29
    case hy29 => ((intro wS hSw); (obtain ⟨hSa, hSb, hSc, hSd, -⟩ := hSw); (obtain ⟨p0, p1, p2, p3, p4⟩ := hSa.box.cells); (obtain ⟨q0, q1, q2, q3, q4⟩ := hSb.box.cells); (obtain ⟨r0, r1, r2, r3, r4⟩ := hSc.box.cells); (obtain ⟨s0, s1, s2, s3, s4⟩ := hSd.box.cells); (go_simp); (try with_reducible rfl))
    change wpAnyH _ _ _ _ _ _ _ (Act.put _ (some 2) _) _
    (try simp only [Act.put]); (try simp only [List.setIfInBounds_toArray]); (try simp only [List.set_cons_zero]); (try simp only [List.set_cons_succ])
    refine wpAnyH_done (by kernel_rfl) ?_ _
    have HBF := hide HKEEP.out.2.2.2.2
    go_wp2_with fail
    go_ret
    exact ⟨congrArg (fun b => Ending.returned (.bool b)) (show ((⟨#[]⟩ : ByteArray) ++ ⟨#[]⟩).toList.isEmpty = true by rw [ByteArray.toList_eq]; rfl), HBF.out⟩

theorem ginv_walk (w : World) (sv : Value) (l : List Nat) (hs : SlG elY w sv l) : Calls Tryd.prog 10 #[sv] w fun e w' => e = .returned (.bool true) ∧ Below w.heap.size w w' := by
  obtain ⟨a, c, rfl, h1, h2, h3⟩ := hs
  by_cases h : l.length ≤ 1048576
  · exact ginv_small w a c l ⟨a, c, rfl, h1, h2, h3⟩ h
  · exact ginv_big w a l.length c (by omega)
end Go.Proofs.YtgcefippeokmcaaDoor

/- The law FnGlobalRoles: its walk. -/
namespace Go.Proofs.YtgcefippeokmcaaDoor
open Go.RowKit

/-- The first letter. -/
def hd0 : List UInt8 → UInt8
  | [] => 0
  | c :: _ => c
def bsl (l : List UInt8) : ByteArray := ⟨l.toArray⟩
theorem bsl_size (a : List UInt8) : (bsl a).size = a.length := by simp [bsl, ByteArray.size]
theorem hd0_at {T : List UInt8} {p : Nat} (h : p < T.length) : ∃ hin : p < (bsl T).size, (bsl T)[p]'hin = hd0 (T.drop p) ∧ T.drop p = hd0 (T.drop p) :: T.drop (p + 1) := by
  refine ⟨by rw [bsl_size]; exact h, ?_, ?_⟩
  · conv => rhs; rw [List.drop_eq_getElem_cons h]
    rfl
  · conv => lhs; rw [List.drop_eq_getElem_cons h]
    rw [List.drop_eq_getElem_cons h]
    rfl
/-- Ascending letters of roles. -/
def seenB (L : List UInt8) : Bool := (List.range L.length).all fun k => (L.getD k 0 == 65 || L.getD k 0 == 66 || L.getD k 0 == 67) && (k == 0 || decide (L.getD (k - 1) 0 < L.getD k 0))
theorem seenB_setL (p : UInt8 → Bool) : seenB (setL p) = true := by
  unfold setL
  simp only [List.filter_cons, List.filter_nil]
  cases p 65 <;> cases p 66 <;> cases p 67 <;> decide
theorem role_let {c : UInt8} (h : roleB ⟨#[c]⟩ = true) : c = 65 ∨ c = 66 ∨ c = 67 := by
  unfold roleB at h
  simp only [ByteArray.toList_eq, Bool.or_eq_true, beq_iff_eq, List.cons.injEq, and_true] at h
  rcases h with (h | h) | h
  · exact Or.inl h
  · exact Or.inr (Or.inl h)
  · exact Or.inr (Or.inr h)
/-- Who talks does not talk alone. -/
theorem nam_two (c : UInt8) : ∀ (f : F) (b u : Int), wF f b u = true → namFb c f = true → ∃ c', (c' = 65 ∨ c' = 66 ∨ c' = 67) ∧ c' ≠ c ∧ namFb c' f = true := by
  intro f
  induction f with
  | nil => intro b u _ h; simp [namFb] at h
  | cons lab k fr tg ix kids rest ihk ihr =>
    intro b u hw h
    simp only [wF, Bool.and_eq_true] at hw
    obtain ⟨⟨hsh, hk⟩, hr⟩ := hw
    simp only [namFb, Bool.or_eq_true] at h ⊢
    rcases h with (h | h) | h
    · simp only [Bool.and_eq_true, beq_iff_eq] at h
      obtain ⟨rfl, h⟩ := h
      obtain ⟨e1, e2, e3, -⟩ := shape_msg hsh
      obtain ⟨x, rfl⟩ := one_of_size _ (role_size e1)
      obtain ⟨y, rfl⟩ := one_of_size _ (role_size e2)
      have hx := role_let e1
      have hy := role_let e2
      have hxy : x ≠ y := fun h => e3 (by rw [h])
      simp only [hasB, Bool.or_eq_true, List.contains_cons, List.contains_nil, Bool.or_false, beq_iff_eq] at h
      rcases h with rfl | rfl
      · exact ⟨y, hy, fun h => hxy h.symm, Or.inl (Or.inl (by simp [hasB]))⟩
      · exact ⟨x, hx, hxy, Or.inl (Or.inl (by simp [hasB]))⟩
    · have hw' : ∃ b' u', wF kids b' u' = true := by
        by_cases h4 : k = 4
        · have := shape_leaf hsh (by omega) (by omega)
          subst this
          exact ⟨0, 0, rfl⟩
        · rw [if_neg h4] at hk
          by_cases h3 : k = 3
          · rw [if_pos h3] at hk; exact ⟨_, _, hk⟩
          · rw [if_neg h3] at hk
            by_cases h2 : k = 2
            · rw [if_pos h2] at hk; exact ⟨_, _, hk⟩
            · have := shape_leaf hsh h2 h3
              subst this
              exact ⟨0, 0, rfl⟩
      obtain ⟨b', u', hw'⟩ := hw'
      obtain ⟨c', h1, h2, h3⟩ := ihk b' u' hw' h
      exact ⟨c', h1, h2, Or.inl (Or.inr h3)⟩
    · obtain ⟨c', h1, h2, h3⟩ := ihr b u hr h
      exact ⟨c', h1, h2, Or.inr h3⟩
theorem set_two {p : UInt8 → Bool} (h : ∀ c, (c = 65 ∨ c = 66 ∨ c = 67) → p c = true → ∃ c', (c' = 65 ∨ c' = 66 ∨ c' = 67) ∧ c' ≠ c ∧ p c' = true) : (setL p).length ≠ 1 := by
  intro hl
  obtain ⟨c, hc⟩ := List.length_eq_one_iff.1 hl
  have hm : c ∈ setL p := by rw [hc]; simp
  unfold setL at hm
  rw [List.mem_filter] at hm
  have hr : c = 65 ∨ c = 66 ∨ c = 67 := by simpa using hm.1
  obtain ⟨c', h1, h2, h3⟩ := h c hr hm.2
  have hm2 : c' ∈ setL p := by
    unfold setL
    rw [List.mem_filter]
    exact ⟨by simpa using h1, h3⟩
  rw [hc] at hm2
  exact h2 (by simpa using hm2)
theorem seenB_roles (k : Int) (fr tg : ByteArray) (ix : Int) (kids : F) : ∃ L : List UInt8, rolesN k fr tg ix kids = bsl L ∧ seenB L = true ∧ L.length ≤ 3 ∧ L.length ≠ 1 := by
  unfold rolesN
  split
  · rename_i h
    refine ⟨_, rfl, seenB_setL _, by unfold setL; exact List.length_filter_le _ _, set_two fun c hc hn => ?_⟩
    have hw := (okG_w (g := ⟨k, fr, tg, ix, kids⟩) h).1
    have e : ∀ c, namFb c (.cons ⟨#[]⟩ k fr tg ix kids .nil) = namNb c k fr tg kids := fun c => by simp only [namFb, namNb, Bool.or_false]
    obtain ⟨c', h1, h2, h3⟩ := nam_two c (.cons ⟨#[]⟩ k fr tg ix kids .nil) 0 0 (by simp only [wF, Bool.and_true]; exact hw) ((e c).trans hn)
    exact ⟨c', h1, h2, (e c').symm.trans h3⟩
  · exact ⟨[], rfl, rfl, by decide, by decide⟩
theorem seen_at {L : List UInt8} (h : seenB L = true) {k : Nat} (hk : k < L.length) : roleB ⟨#[hd0 (L.drop k)]⟩ = true ∧ (0 < k → (hd0 (L.drop (k - 1))).toNat < (hd0 (L.drop k)).toNat) := by
  have h1 := List.all_eq_true.1 h k (List.mem_range.2 hk)
  simp only [Bool.and_eq_true] at h1
  have hd : ∀ j, j < L.length → hd0 (L.drop j) = L.getD j 0 := by
    intro j hj
    rw [List.drop_eq_getElem_cons hj, List.getD_eq_getElem?_getD, List.getElem?_eq_getElem hj]
    rfl
  rw [hd k hk]
  refine ⟨?_, fun h0 => ?_⟩
  · have h2 := h1.1
    generalize L.getD k 0 = c at *
    simp only [Bool.or_eq_true, beq_iff_eq] at h2
    rcases h2 with (rfl | rfl) | rfl <;> (unfold roleB; simp [ByteArray.toList_eq])
  · rw [hd (k - 1) (by omega)]
    have h2 := h1.2
    have hk0 : (k == 0) = false := beq_eq_false_iff_ne.2 (by omega)
    rw [hk0, Bool.false_or] at h2
    exact UInt8.lt_iff_toNat_lt.1 (of_decide_eq_true h2)

/-- There are no roles exactly if the unfolded type is finished. -/
theorem roles_end {g : Nd} (h : unfOk g = true) : ((rolesN g.k g.fr g.tg g.ix g.kids).toList == []) = ((unfR g).k == 1) := by
  have hR : unfR g = unf g := by unfold unfR; rw [if_pos h]
  obtain ⟨r1, r2, r3, r4⟩ := unf_unf h
  rw [← unf_roles h, hR]
  have hok : okG (unf g) = true := by unfold unfOk at h; simp only [Bool.and_eq_true] at h; exact h.2
  generalize unf g = R at *
  obtain ⟨k, fr, tg, ix, kids⟩ := R
  have hw := (okG_w hok).1
  unfold okG at hok
  simp only at hok r3 r4 ⊢
  unfold rolesN
  rw [if_pos hok]
  unfold wN at hw
  simp only [Bool.and_eq_true] at hw
  have hsh := hw.1
  by_cases k1 : k = 1
  · subst k1
    obtain ⟨e1, e2, e3, rfl⟩ := shape_end hsh
    have he : (setS fun c => namNb c 1 fr tg .nil) = ⟨#[]⟩ := by unfold setS setL namNb namFb; rfl
    rw [he, ByteArray.toList_eq]
    rfl
  by_cases k2 : k = 2
  · subst k2
    obtain ⟨e1, e2, e3, -⟩ := shape_msg hsh
    obtain ⟨c, rfl⟩ := one_of_size _ (role_size e1)
    have hc := role_let e1
    have hnam : namNb c 2 ⟨#[c]⟩ tg kids = true := by
      unfold namNb
      simp [hasB]
    rw [show ((2 : Int) == 1) = false from rfl]
    refine beq_eq_false_iff_ne.2 (fun he => ?_)
    have hsame : (setS fun c' => namNb c' 2 ⟨#[c]⟩ tg kids).data.toList = [] := by rw [← ByteArray.toList_eq]; exact he
    have hm2 : c ∈ (setS fun c' => namNb c' 2 ⟨#[c]⟩ tg kids).data.toList := by
      unfold setS setL
      simp only [List.mem_filter]
      exact ⟨by rcases hc with rfl | rfl | rfl <;> simp, hnam⟩
    rw [hsame] at hm2
    cases hm2
  · simp [shapeB, k1, k2, r3, r4] at hsh

set_option maxHeartbeats 400000 in
theorem gro_big (w : World) (a : Option Addr) (n c : Nat) (hn : (1048576 : Int) < (n : Int)) :
    Calls Tryd.prog 8 #[.slice a n c] w fun e w' => e = .returned (.bool true) ∧ Below w.heap.size w w' := by
  go_enter Tryd.func8, Tryd.ntmps8
  go_wp2_with fail
  go_ret
  exact ⟨rfl, Below.refl _ _⟩

set_option maxHeartbeats 1000000 in
set_option maxRecDepth 100000 in
theorem drawR_calls (w : World) (sv : Value) (l : List Nat) (hs : SlG elY w sv l) : Calls Tryd.prog 40 #[sv] w (Drawn w) := by
  have HSV := hide hs
  have hx0 := Box5.now w (.int .i64 0) (.string ⟨#[]⟩) (.string ⟨#[]⟩) (.int .i64 0) (.slice none 0 0) ( /- t -/ 39)
  have hb0 := alloc_below w (.cells #[.int .i64 0, .string ⟨#[]⟩, .string ⟨#[]⟩, .int .i64 0, .slice none 0 0] ( /- t -/ 39))
  have hz0 : (w.alloc (.cells #[.int .i64 0, .string ⟨#[]⟩, .string ⟨#[]⟩, .int .i64 0, .slice none 0 0] ( /- t -/ 39))).heap.size = w.heap.size + 1 := by simp
  have HX0 := hide hx0
  have HB0 := hide hb0
  have HZ0 := hide hz0
  clear hx0 hb0 hz0 hs
  go_enter Tryd.func40, Tryd.ntmps40
  go_upto_region 1 with fail
  generalize w.alloc (.cells #[.int .i64 0, .string ⟨#[]⟩, .string ⟨#[]⟩, .int .i64 0, .slice none 0 0] ( /- t -/ 39)) = W at *
  go_wp2_with fail
  refine (draw_calls W sv l (HSV.out.still (Still.of_below HB0.out))).mono ?_
  rintro e w2 ⟨N, u, bs, rfl, how, hge, hnd, hb, hf, hsz⟩
  obtain ⟨ua, uc, rfl⟩ := how.val
  have HX2 := hide (HX0.out.below hb)
  have HB2 := hide (HB0.out.trans (hb.mono (by have := HZ0.out; omega)))
  have HG : Hid (∀ x, x ∈ bs → w.heap.size < x) := hide (fun x hx => by have := hge x hx; have := HZ0.out; omega)
  have HOW := hide how
  have HF := hide hf
  have HND := hide hnd
  obtain ⟨x0, x1, x2, x3, x4⟩ := HX2.out.cells
  have fx := HX2.out.frozen
  have lx := HX2.out.lt
  clear hge how hf hnd hb HB0 HX0
  go_wp2_with fail
  refine bodyPost_ret (v := .agg #[.int .i64 N.k, .string N.fr, .string N.tg, .int .i64 N.ix, .slice ua N.kids.len uc]) (by simp [results, Tryd.results40, go_sem, *]) rfl ?_
  exact drawn_set HOW.out HG.out HND.out HB2.out HF.out hsz _ _ _ _ _

/-- What holds at each head of the loop over the letters. -/
def PeRel (w : World) (b1 : Nat) (g : Nd) (u : Value) (L : List UInt8) (iv : Value) (wr : World) : Prop :=
  ∃ k : Nat, iv = .int .i64 (k : Int) ∧ k ≤ L.length ∧ Nv wr b1 g u ∧ Below w.heap.size w wr

set_option maxHeartbeats 4000000 in
set_option maxRecDepth 100000 in
theorem gro_small (w : World) (a : Option Addr) (c : Nat) (l : List Nat) (hs : SlG elY w (.slice a l.length c) l) (hl : l.length ≤ 1048576) :
    Calls Tryd.prog 8 #[.slice a l.length c] w fun e w' => e = .returned (.bool true) ∧ Below w.heap.size w w' := by
  have hl2 : ¬ (1048576 : Int) < (l.length : Int) := by omega
  have HSV := hide hs
  clear hs
  go_enter Tryd.func8, Tryd.ntmps8
  go_wp2_with fail
  refine (drawR_calls w _ l HSV.out).mono ?_
  rintro e w1 ⟨g, u, bs, rfl, how, -, -, hb1, hf, hsz⟩
  obtain ⟨ga, gc, rfl⟩ := how.val
  have HN1 := hide (Nv.now how ( /- t -/ 39))
  have HB1 := hide (hb1.alloc hb1.size (.cells #[.int .i64 g.k, .string g.fr, .string g.tg, .int .i64 g.ix, .slice ga g.kids.len gc] ( /- t -/ 39)))
  have HF := hide hf
  have HSZ := hide hsz
  clear how hb1 hf hsz HSV
  go_upto_region 4 with fail
  generalize w1.alloc (.cells #[.int .i64 g.k, .string g.fr, .string g.tg, .int .i64 g.ix, .slice ga g.kids.len gc] ( /- t -/ 39)) = W1 at *
  generalize w1.heap.size = b1 at *
  obtain ⟨x0, x1, x2, x3, x4⟩ := HN1.out.box.cells
  have lx := HN1.out.lt
  go_wp2_with fail
  refine (implRoles W1 g.k g.ix g.fr g.tg _ g.kids HN1.out.sl).mono ?_
  rintro e w2 ⟨rfl, hb⟩
  have HPE := hide (fun h => roles_end (g := g) h)
  obtain ⟨L, hL, hseen, hL3, hL1⟩ := seenB_roles g.k g.fr g.tg g.ix g.kids
  rw [hL] at HPE
  have HLS := hide hseen
  have HSP := hide (fun (W : World) (sv : Value) (hs : Sl W sv g.kids) => specRoles W g.k g.ix g.fr g.tg sv g.kids hs (by have := HSZ.out; omega))
  rw [hL] at HSP ⊢
  have hLz : (bsl L).size = L.length := bsl_size L
  have HN2 := hide (HN1.out.below hb)
  have HB2 := hide (HB1.out.trans (hb.mono HB1.out.size))
  clear hb HN1 HB1 x0 x1 x2 x3 x4 lx hL hseen
  obtain ⟨x0, x1, x2, x3, x4⟩ := HN2.out.box.cells
  have lx := HN2.out.lt
  go_wp2_with fail
  refine (HSP.out w2 _ HN2.out.sl).mono ?_
  rintro e w3 ⟨rfl, hb⟩
  have HN3 := hide (HN2.out.below hb)
  have HB3 := hide (HB2.out.trans (hb.mono HB2.out.size))
  have hself : ((bsl L).toList != (bsl L).toList) = false := by simp
  clear hb HN2 HB2 x0 x1 x2 x3 x4 lx
  go_wp2_with fail
  go_loopw [5] (fun iv wr => PeRel w b1 g (.slice ga g.kids.len gc) L iv wr) (fun iv _ => L.length - (intOf iv).toNat)
  case atStart => exact ⟨0, rfl, Nat.zero_le _, HN3.out, HB3.out⟩
  case round =>
    obtain ⟨k, rfl, hk, hn, hb⟩ := hrel
    have HN := hide hn
    have HB := hide hb
    clear hn hb HN3 HB3
    by_cases hkl : k < L.length
    case neg =>
      have hki : ¬ (k : Int) < (L.length : Int) := by omega
      obtain ⟨x0, x1, x2, x3, x4⟩ := HN.out.box.cells
      have lx := HN.out.lt
      go_wp2_with fail
      refine (implUnf wr g _ HN.out.sl HF.out).mono ?_
      rintro e w5 ⟨v, vbs, rfl, how, -, -, hb⟩
      obtain ⟨va, vc, rfl⟩ := how.val
      have HNv := hide (Nv.now how ( /- t -/ 39))
      have HB5 := hide ((HB.out.trans (hb.mono HB.out.size)).alloc (Nat.le_trans HB.out.size hb.size) (.cells #[.int .i64 (unfR g).k, .string (unfR g).fr, .string (unfR g).tg, .int .i64 (unfR g).ix, .slice va (unfR g).kids.len vc] ( /- t -/ 39)))
      clear how hb x0 x1 x2 x3 x4 lx
      go_upto_region 13 with fail
      generalize w5.alloc (.cells #[.int .i64 (unfR g).k, .string (unfR g).fr, .string (unfR g).tg, .int .i64 (unfR g).ix, .slice va (unfR g).kids.len vc] ( /- t -/ 39)) = W5 at *
      generalize w5.heap.size = b5 at *
      obtain ⟨y0, y1, y2, y3, y4⟩ := HNv.out.box.cells
      have ly := HNv.out.lt
      have hl1 : ¬ (L.length : Int) = 1 := by omega
      have hl1b : ((L.length : Int) != 1) = true := by simp [hl1]
      cases hok : unfOk g with
      | false =>
        go_wp2_with fail
        go_ret
        exact ⟨rfl, HB5.out⟩
      | true =>
        have HQ := hide (HPE.out hok)
        go_wp2_with fail
        go_ret
        refine ⟨?_, HB5.out⟩
        have hq : (bsl L).toList.isEmpty = ((unfR g).k == 1) := by
          rw [← HQ.out]
          cases (bsl L).toList <;> rfl
        simp [hq]
    case pos =>
      have hki : (k : Int) < (L.length : Int) := by omega
      obtain ⟨hrole, hlt⟩ := seen_at HLS.out hkl
      obtain ⟨hin, hget, hdr⟩ := hd0_at hkl
      have hex : (bsl L).extract k (k + 1) = ⟨#[hd0 (L.drop k)]⟩ := by
        apply ByteArray.ext
        simp only [bsl, ByteArray.data_extract, List.extract_toArray]
        rw [List.extract_eq_take_drop, show k + 1 - k = 1 by omega, hdr]
        rfl
      have hrq : ∀ W : World, Calls Tryd.prog 20 #[.string ⟨#[hd0 (L.drop k)]⟩] W fun e w' => e = .returned (.bool true) ∧ w' = W := fun W => by
        have h9 := implRole ⟨#[hd0 (L.drop k)]⟩ W
        rw [hrole] at h9
        exact h9.mono fun e w' h => ⟨h.1, h.2.symm⟩
      have HRQ := hide hrq
      by_cases hk0 : k = 0
      case pos =>
        subst hk0
        clear hrq hdr
        go_wp2_with fail
        go_quiet (first | (go_at_call 20; refine Calls.quiet_of_same (HRQ.out _)))
        go_wp2_with fail
        go_roundw
        case rel => exact ⟨1, rfl, by omega, HN.out.below (below_drewN (Below.refl _ _) _), below_drewN HB.out _⟩
        case measure => simp [intOf]; omega
      case neg =>
        obtain ⟨j, hjk⟩ : ∃ j, k = j + 1 := ⟨k - 1, by omega⟩
        obtain ⟨hinj, hgetj, -⟩ := hd0_at (show j < L.length by omega)
        have hlt2 := hlt (by omega)
        rw [show k - 1 = j by omega] at hlt2
        have hge : ¬ (((bsl L)[k]'hin).toNat : Int) ≤ (((bsl L)[j]'hinj).toNat : Int) := by rw [hget, hgetj]; omega
        have hj : (k : Int) - 1 = (j : Int) := by omega
        have hk1 : (0 : Int) < (k : Int) := by omega
        have hwk : IntKind.i64.wrap ((k : Int) + 1) = (k : Int) + 1 := by simp [IntKind.wrap, IntKind.bits, IntKind.signed]; omega
        have hkn : ((k : Int) + 1).toNat = k + 1 := by omega
        have hjl : j < L.length := by omega
        have q1 : (k : Int) + 1 ≤ ((bsl L).size : Int) := by omega
        have q2 : (k : Int) + 1 ≤ (L.length : Int) := by omega
        have q3 : k + 1 ≤ L.length := by omega
        have d1 : decide (0 < k) = true := decide_eq_true (by omega)
        have d2 : decide ((0 : Int) < (k : Int)) = true := decide_eq_true (by omega)
        have q4 : (k : Int) ≤ (k : Int) + 1 := by omega
        have q5 : (0 : Int) ≤ (k : Int) := by omega
        have q6 : (0 : Int) ≤ (k : Int) + 1 := by omega
        have HJK := hide hjk
        clear hrq hdr hget hgetj hlt hlt2 hk0 hjk
        go_wp2_with fail
        go_quiet (first | (go_at_call 20; refine Calls.quiet_of_same (HRQ.out _)))
        go_wp2_with fail
        go_roundw
        case rel => exact ⟨k + 1, congrArg (Value.int .i64) (by omega), by omega, HN.out.below (below_drewN (Below.refl _ _) _), below_drewN HB.out _⟩
        case measure => simp [intOf]; omega

theorem gro_walk (w : World) (sv : Value) (l : List Nat) (hs : SlG elY w sv l) : Calls Tryd.prog 8 #[sv] w fun e w' => e = .returned (.bool true) ∧ Below w.heap.size w w' := by
  obtain ⟨a, c, rfl, h1, h2, h3⟩ := hs
  by_cases h : l.length ≤ 1048576
  · exact gro_small w a c l ⟨a, c, rfl, h1, h2, h3⟩ h
  · exact gro_big w a l.length c (by omega)
end Go.Proofs.YtgcefippeokmcaaDoor

/- What a law's call owes, once it is known that it returns true and has written to no old block. -/
namespace Go.Proofs.YtgcefippeokmcaaDoor
open Go.ChangeShapes Go.WideShapes Go.ChangeAt Go.RowKit

theorem Tryd.own : ownKnob Tryd.prog.godebug = none := by kernel_rfl
theorem Tryd.laidOut : laidOutB Tryd.prog = true := by kernel_rfl

section
variable {H : Type} {enc : TypeId × Value → H} {P : Program}

theorem trodAll_below (hl : laidOutB P = true) {W W' : World} (hb : Below W.heap.size W W') : ∀ (ts : List TypeId) (vs : List Value) (ds : List (DataW H)) (ps : List MemPlace),
    (ts.all fun t => P.readableRec t && decide (t < P.types.size)) = true → DataW.TrodAll enc P W 0 (fun _ => true) true ts vs ds ps → (∀ x ∈ ps, x.block < W.heap.size) →
    DataW.TrodAll enc P W' 0 (fun b => decide (b < W.heap.size)) true ts vs ds ps := by
  intro ts
  induction ts with
  | nil =>
    intro vs ds ps _ h _
    cases vs <;> cases ds <;> first | exact h | exact h.elim
  | cons t ts ih =>
    intro vs ds ps ht h hlt
    cases vs with
    | nil => cases ds <;> exact h.elim
    | cons v vs =>
      cases ds with
      | nil => exact h.elim
      | cons d ds =>
        obtain ⟨p, q, h1, h2, rfl⟩ := h
        simp only [List.all_cons, Bool.and_eq_true, decide_eq_true_eq] at ht
        exact ⟨p, q, Below.trod hl ht.1.1 ht.1.2 h1 hb (fun x hx => hlt x (List.mem_append_left _ hx)), ih vs ds q ht.2 h2 (fun x hx => hlt x (List.mem_append_right _ hx)), rfl⟩

/-- A law that returned true, and below the old heap's size nothing has turned. -/
theorem law_post {f : Func} {s : ChangeSpec} {W W' : World} {args : Array Value} {ds gs : List (DataW H)} {before : List MemPlace} {tb : TypeId} (hl : laidOutB P = true)
    (hp : (f.params.toList.all fun t => P.readableRec t && decide (t < P.types.size)) = true) (hrt : f.resultTypes = #[tb]) (htb : P.underlying tb = some .bool) (hvars : s.vars = [])
    (hfn : s.fn H (ds ++ gs) = { results := [.lit (.bool true)], args := ds }) (hW : DataW.Whole enc P f.params.toList s.vars false W args.toList ds gs before) (hb : Below W.heap.size W W') :
    s.post enc P f false true false false W args (.bool true) W' := by
  have hlt : ∀ p ∈ before, p.block < W.heap.size := fun p hp => hW.lt p hp
  have hW2 := hW
  obtain ⟨p, q, hA, hV, rfl, _, _⟩ := hW2
  rw [hvars] at hV
  obtain ⟨rfl, rfl⟩ := trodVars_none hV
  refine ⟨ds, [], p ++ [], [], p, [], hW, ?_, ?_, ?_, hb.frame _, fun h => by cases h⟩
  · rw [hfn, hrt]
    exact trodAll_mk1 (shut_bool htb true)
  · rw [hfn]
    exact trodAll_below hl hb _ _ _ _ hp hA (fun x hx => hlt x (List.mem_append_left _ hx))
  · rw [hfn, hvars]
    rfl
end
end Go.Proofs.YtgcefippeokmcaaDoor

/- Arguments that are slices of any elements, opened. -/
namespace Go.Proofs.YtgcefippeokmcaaDoor
open Go.ChangeShapes Go.WideShapes Go.RowKit

section
variable {H : Type} {enc : TypeId × Value → H} {W : World} {sp : Nat → Bool}

theorem add_place (a : Addr) (i : Nat) (v : Value) (h : W.cell? (a.add i) = some v) : (a.add i) = ⟨a.block, a.off + i, none⟩ := by
  obtain ⟨b, o, s⟩ := a
  by_cases hi : i = 0
  · subst hi
    simp only [Addr.add, if_pos] at h ⊢
    cases s with
    | none => rfl
    | some t =>
      exfalso
      simp only [World.cell?] at h
      split at h <;> simp at h
  · simp [Addr.add, hi]

theorem open_rows {α : Type} {E : El α} (hst : 0 < E.st) {ts te : TypeId} (hu : Tryd.prog.underlying ts = some (.slice te)) (hc : Tryd.prog.cellsOf te = E.st)
    (hel : ∀ (fuel : Nat) (cs : List Value) (x : DataW H × List MemPlace), DataW.trod enc Tryd.prog W 0 sp true fuel te cs = some x → cs.length = E.st → ∀ b o, (∀ k, k < E.st → W.cell? ⟨b, o + k, none⟩ = cs[k]?) → ∃ y, E.P W b o y)
    {fuel : Nat} {sv : Value} {x : DataW H × List MemPlace} (h : DataW.trod enc Tryd.prog W 0 sp true fuel ts [sv] = some x) : ∃ l, SlG E W sv l := by
  rcases DataW.trod_slice hu h with ⟨h0, -⟩ | ⟨a, len, cap, elems, rest, n, rfl, h0, -, -, hl, hm, hlen, hel', -, -⟩
  · simp only [List.cons.injEq, and_true] at h0
    exact ⟨[], h0 ▸ SlG.nil⟩
  · simp only [List.cons.injEq, and_true] at h0
    subst h0
    rw [hc] at hel'
    have one : ∀ i, i < len → (i = 0 → a = ⟨a.block, a.off, none⟩) ∧ ∃ y, E.P W a.block (a.off + i * E.st) y := by
      intro i hi
      have key := hel' i hi
      rw [List.getElem?_eq_getElem (by omega)] at key
      obtain ⟨cs', h1, h2⟩ := Option.bind_eq_some_iff.1 key
      obtain ⟨-, hl6, hat⟩ := World.cells?_some h1
      have a0 := hat 0 hst
      rw [List.getElem?_eq_getElem (by omega)] at a0
      have e := add_place a (i * E.st) _ (show W.cell? (a.add (i * E.st)) = some cs'[0] by simpa [Addr.add] using a0)
      refine ⟨?_, hel n cs' _ h2 hl6 _ _ (fun k hk => ?_)⟩
      · rintro rfl
        simpa [Addr.add] using e
      · have := hat k hk
        rw [e] at this
        simp only [Addr.add] at this
        split at this
        · rename_i hk0
          subst hk0
          exact this
        · exact this
    have down : ∀ j, j ≤ len → ∃ g : List α, g.length = j ∧ RowG E W a.block (a.off + (len - j) * E.st) g := by
      intro j
      induction j with
      | zero => intro _; exact ⟨[], rfl, trivial⟩
      | succ j ihj =>
        intro hj
        obtain ⟨g, hg, hr⟩ := ihj (by omega)
        obtain ⟨-, y, hy⟩ := one (len - (j + 1)) (by omega)
        refine ⟨y :: g, by simp only [List.length_cons]; omega, hy, ?_⟩
        rw [show a.off + (len - (j + 1)) * E.st + E.st = a.off + (len - j) * E.st by rw [show len - j = (len - (j + 1)) + 1 by omega, Nat.succ_mul, Nat.add_assoc]]
        exact hr
    obtain ⟨f, hf, hr⟩ := down len (Nat.le_refl _)
    refine ⟨f, some a, cap, by rw [hf], by omega, hm, ?_⟩
    cases f with
    | nil => exact Or.inl rfl
    | cons y rest' =>
      right
      simp only [List.length_cons] at hf
      obtain ⟨ha, -⟩ := one 0 (by omega)
      refine ⟨a.block, a.off, by rw [← ha rfl], ?_⟩
      simpa using hr

end
end Go.Proofs.YtgcefippeokmcaaDoor

/- An argument that is a row of bytes, opened. -/
namespace Go.Proofs.YtgcefippeokmcaaDoor
open Go.ChangeShapes Go.WideShapes Go.RowKit

section
variable {H : Type} {enc : TypeId × Value → H} {W : World} {sp : Nat → Bool}

theorem cells_u8 : Tryd.prog.cellsOf ( /- t -/ 5) = elY.st := by kernel_rfl
theorem open_bytes {v : Value} {d : DataW H} {p : List MemPlace} {ts : TypeId} (hu : Tryd.prog.underlying ts = some (.slice ( /- t -/ 5))) (hv : ∃ a len cap, v = .slice a len cap)
    (h : DataW.Trod enc Tryd.prog W 0 sp true ts v d p) : ∃ l, SlG elY W v l := by
  obtain ⟨fuel, hf⟩ := h
  obtain ⟨a, len, cap, rfl⟩ := hv
  refine open_rows (E := elY) (by decide) hu cells_u8 (fun fuel cs x hx hl b o hcell => ?_) hf
  obtain ⟨n, rfl, rfl, hw⟩ := DataW.trod_int (k := .u8) (show Tryd.prog.underlying ( /- t -/ 5) = some (.int .u8) by kernel_rfl) hx
  have hb : 0 ≤ n ∧ n < 256 := by
    simp [Lit.wf, IntKind.min, IntKind.max, IntKind.bits, IntKind.signed] at hw
    omega
  obtain ⟨m, rfl⟩ : ∃ m : Nat, n = (m : Int) := ⟨n.toNat, by omega⟩
  exact ⟨m, by omega, hcell 0 (by decide)⟩
end
end Go.Proofs.YtgcefippeokmcaaDoor
