/- StepLocal of the program. -/
import Derived.Test.YtkepinjpihmjkabLVs
namespace Go.Proofs.Ytkepinjpihmjkab.Lo
open Go.RowKit

set_option maxHeartbeats 4000000 in
set_option maxRecDepth 100000 in
theorem implStep (w : World) (g : Nd) (sv : Value) (s : ByteArray) (hs : Sl w sv g.kids) :
    Calls Try.prog 13 #[.agg #[.int .i64 g.k, .string g.fr, .int .i64 g.ix, sv], .string s] w (MadeR (stepR g s) (stepOk g s) w) := by
  have HS := hide hs
  have hb0 := (alloc_below w (.cells #[.int .i64 g.k, .string g.fr, .int .i64 g.ix, sv] ( /- t -/ 28))).alloc (by simp) (.cells #[.int .i64 0, .string ⟨#[]⟩, .int .i64 0, .slice none 0 0] ( /- t -/ 28))
  have hz0 := Box4.now (w.alloc (.cells #[.int .i64 g.k, .string g.fr, .int .i64 g.ix, sv] ( /- t -/ 28))) (.int .i64 0) (.string ⟨#[]⟩) (.int .i64 0) (.slice none 0 0) ( /- t -/ 28)
  rw [show (w.alloc (.cells #[.int .i64 g.k, .string g.fr, .int .i64 g.ix, sv] ( /- t -/ 28))).heap.size = w.heap.size + 1 from by simp] at hz0
  have HB0 := hide hb0
  have HZ0 := hide hz0
  clear hs hb0 hz0
  obtain ⟨R, hR⟩ : ∃ R, R = unfR g := ⟨_, rfl⟩
  obtain ⟨ok, hok⟩ : ∃ ok, ok = unfOk g := ⟨_, rfl⟩
  have HR := hide hR
  have HOK := hide hok
  clear hR hok
  go_enter Try.func13, Try.ntmps13
  go_wp2_with fail
  generalize (w.alloc (.cells #[.int .i64 g.k, .string g.fr, .int .i64 g.ix, sv] ( /- t -/ 28))).alloc (.cells #[.int .i64 0, .string ⟨#[]⟩, .int .i64 0, .slice none 0 0] ( /- t -/ 28)) = W at *
  refine (implUnf W g sv (HS.out.still (Still.of_below HB0.out))).mono ?_
  rw [← HR.out, ← HOK.out]
  rintro e w1 ⟨u, bs, rfl, how, hge, hnd, hb⟩
  obtain ⟨ua, uc, rfl⟩ := how.val
  have hWl := HZ0.out.lt
  have hRl : R.kids.len ≤ 9223372036854775807 := by
    obtain ⟨_, _, _, e1, e2, _⟩ := id how
    unfold maxLen at e2
    omega
  have hbA := alloc_below w1 (.cells #[.int .i64 R.k, .string R.fr, .int .i64 R.ix, .slice ua R.kids.len uc] ( /- t -/ 28))
  have h1 := HB0.out.trans (hb.mono HB0.out.size)
  have HST : Hid (StS w (w1.alloc (.cells #[.int .i64 R.k, .string R.fr, .int .i64 R.ix, .slice ua R.kids.len uc] ( /- t -/ 28))) R (.slice ua R.kids.len uc) bs w1.heap.size) :=
    hide ⟨h1.trans (hbA.mono h1.size), (HZ0.out.below hb).below hbA, Box4.now w1 _ _ _ _ _, how.same (Same.of_below hbA how.lt), fun x hx => by have := hge x hx; omega, hnd⟩
  clear how hge hnd hb hbA h1 HZ0 HB0 HS
  obtain ⟨X, hX⟩ : ∃ X, X = w1.heap.size := ⟨_, rfl⟩
  rw [← hX] at HST
  obtain ⟨y0, y1, y2, y3⟩ := HST.out.hx.cells
  have yl := HST.out.hx.lt
  cases hok : ok with
  | false =>
    have hno : stepO g s = none := by unfold stepO; rw [← HOK.out, hok]; rfl
    have HNO := hide hno
    obtain ⟨z0, z1, z2, z3⟩ := HST.out.hz.cells
    have fz := HST.out.hz.frozen
    have zl := HST.out.hz.lt
    clear hno hX
    go_wp2_with fail
    refine bodyPost_ret (v := .tuple #[.agg #[.int .i64 0, .string ⟨#[]⟩, .int .i64 0, .slice none 0 0], .bool false]) (by simp [results, Try.results13, go_sem, *]) rfl ?_
    rw [show stepOk g s = false by unfold stepOk; rw [HNO.out]; rfl, show stepR g s = zeroNd by unfold stepR; rw [HNO.out]; rfl]
    refine MadeR.zero ?_
    repeat (refine Below.setCell ?_ (by first | (simp; done) | (simp; omega)) _)
    exact HST.out.hb
  | true =>
    have HST2 : Hid (StRel w R s (.slice ua R.kids.len uc) bs X (.int .i64 0) (w1.alloc (.cells #[.int .i64 R.k, .string R.fr, .int .i64 R.ix, .slice ua R.kids.len uc] ( /- t -/ 28)))) := hide ⟨.nil, R.kids, rfl, rfl, rfl, HST.out⟩
    clear HST
    go_wp2_with fail
    clear hX y0 y1 y2 y3 yl
    go_loopw [21] (fun iv wr => StRel w R s (.slice ua R.kids.len uc) bs X iv wr) (fun iv _ => R.kids.len - (intOf iv).toNat)
    case atStart => exact HST2.out
    case round =>
      obtain ⟨p, q, he, rfl, hfind, hst⟩ := hrel
      cases q with
      | nil =>
        rw [F.app_nil] at he
        have hge : R.kids.len ≤ p.len := by rw [he]; exact Nat.le_refl _
        have hno : stepO g s = none := by rw [stepO_of, ← HR.out, hfind]; rfl
        have HNO := hide hno
        obtain ⟨z0, z1, z2, z3⟩ := hst.hz.cells
        have fz := hst.hz.frozen
        have zl := hst.hz.lt
        have HSS := hide hst
        clear hno he hfind hst HST2
        go_wp2_with fail
        refine bodyPost_ret (v := .tuple #[.agg #[.int .i64 0, .string ⟨#[]⟩, .int .i64 0, .slice none 0 0], .bool false]) (by simp [results, Try.results13, go_sem, *]) rfl ?_
        rw [show stepOk g s = false by unfold stepOk; rw [HNO.out]; rfl, show stepR g s = zeroNd by unfold stepR; rw [HNO.out]; rfl]
        refine MadeR.zero ?_
        repeat (refine Below.setCell ?_ (by first | (simp; done) | (simp; omega)) _)
        exact HSS.out.hb
      | cons lab kd fr' ix' kids' rest =>
        have hlt : p.len < R.kids.len := by rw [he, F.len_app]; simp only [F.len]; omega
        obtain ⟨b, cap, a5, c5, ks, hu, c0, c1, c2, c3, cc5, hko, hks, hkn⟩ := hst.ho.sub hst.hn he
        simp only [Value.slice.injEq, true_and] at hu
        obtain ⟨rfl, rfl⟩ := hu
        have hbl := World.block_lt_of_cell? _ _ c0
        have hbB := alloc_below wr (.cells #[.string lab, .int .i64 kd, .string fr', .int .i64 ix', .slice a5 kids'.len c5] ( /- t -/ 51))
        have HE := hide (And.intro he hfind)
        have HS5 := hide (hst.below hbB)
        have HSS := hide hst
        have HK := hide (And.intro hko (And.intro hks hkn))
        obtain ⟨z0, z1, z2, z3⟩ := hst.hz.cells
        have fz := hst.hz.frozen
        have zl := hst.hz.lt
        clear he hfind hst hko hks hkn HST2 hbB
        cases hl : (lab.toList == s.toList) with
        | true =>
          have hl3 : lab.toList = s.toList := by simpa using hl
          have hno : stepO g s = some ⟨kd, fr', ix', kids'⟩ := by
            rw [stepO_of, ← HR.out, HE.out.2]
            unfold findF
            rw [hl]
            rfl
          have HNO := hide hno
          clear hno
          go_wp2_with fail
          refine bodyPost_ret (v := .tuple #[.agg #[.int .i64 kd, .string fr', .int .i64 ix', .slice a5 kids'.len c5], .bool true]) (by simp [results, Try.results13, go_sem, *]) rfl ?_
          rw [show stepOk g s = true by unfold stepOk; rw [HNO.out]; rfl, show stepR g s = ⟨kd, fr', ix', kids'⟩ by unfold stepR; rw [HNO.out]; rfl]
          exact MadeR.below (MadeR.sub (N := ⟨kd, fr', ix', kids'⟩) HSS.out HK.out.1 HK.out.2.1 HK.out.2.2 _ _ _ _) (alloc_below _ _)
        | false =>
          have hl3 : ¬ lab.toList = s.toList := by simpa using hl
          have hnx : findF R.kids s = findF rest s := by
            rw [HE.out.2]
            conv => lhs; unfold findF
            rw [hl]
            rfl
          have HREL : Hid (StRel w R s (.slice (some ⟨b, 0, none⟩) R.kids.len uc) bs X (.int .i64 ((p.len + 1 : Nat) : Int)) (wr.alloc (.cells #[.string lab, .int .i64 kd, .string fr', .int .i64 ix', .slice a5 kids'.len c5] ( /- t -/ 51)))) :=
            hide ⟨p.app (.cons lab kd fr' ix' kids' .nil), rest, by rw [HE.out.1, F.app_assoc]; rfl, by rw [F.len_app]; rfl, hnx, HS5.out⟩
          clear hnx z0 z1 z2 z3 fz zl
          go_wp2_with fail
          exact ⟨HREL.out, by simp [intOf]; omega⟩

end Go.Proofs.Ytkepinjpihmjkab.Lo
