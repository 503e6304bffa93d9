/- UnfoldLocal of the program. -/
import Derived.Test.YtkepinjpihmjkabLKb
import Derived.Deep.LoopGhost
namespace Go.Proofs.Ytkepinjpihmjkab.Lo
open Go.RowKit

set_option maxHeartbeats 2000000 in
set_option maxRecDepth 100000 in
/-- unfoldLinked of the program. -/
theorem unfL_calls (w0 w : World) (g : Nd) (v : Value) (ks : List Nat) (hk : LkN w0 g.k g.fr g.ix g.kids [] v ks) (hw : wN g 0 0 = true) (hh : hN g ≤ 40) (hB : Below w0.heap.size w0 w) :
    Calls Try.prog 20 #[v] w fun e w' => ∃ (es : List (Nat × Nd)) (N : Nd) (v' : Value) (ks' : List Nat), e = .returned v' ∧ LkN w0 N.k N.fr N.ix N.kids (blks es) v' ks' ∧ EnvL w0 es ∧ cpN (lvals es) N = unf g ∧ wN N (es.length : Int) 0 = true ∧ es.length ≤ 41 ∧ (∃ T x, v' = .iface T x) ∧ Below w.heap.size w w' := by
  obtain ⟨T, hT⟩ : ∃ T, T = unf g := ⟨_, rfl⟩
  have HST : Hid (∃ (es : List (Nat × Nd)) (N : Nd) (ks' : List Nat), UlIs T (g.kids.sz + 1) (lvals es) N ∧ LkN w0 N.k N.fr N.ix N.kids (blks es) v ks' ∧ EnvL w0 es ∧ Below w.heap.size w w) :=
    hide ⟨[], g, ks, by rw [hT]; exact UlIs.start hw hh, hk, trivial, Below.refl _ _⟩
  have HB := hide hB
  rw [← hT]
  clear hk hw hh hB hT
  go_enter Try.func20, Try.ntmps20
  go_wp2_with fail
  go_loopg [0] (g.kids.sz + 1) (fun n vv wr => ∃ (es : List (Nat × Nd)) (N : Nd) (ks' : List Nat), UlIs T n (lvals es) N ∧ LkN w0 N.k N.fr N.ix N.kids (blks es) vv ks' ∧ EnvL w0 es ∧ Below w.heap.size w wr)
  case atStart => exact HST.out
  case round =>
    obtain ⟨es, N, ks', hul, hln, he, hb⟩ := hrel
    clear HST
    have hlw := hul.w
    have hlh := hul.h
    rw [lvals_len] at hlw hlh
    have h41 : es.length ≤ 41 := by omega
    have hw0 := wN_u _ _ _ 0 hlw (by omega)
    have hnv := not_var hlw
    rcases id hln with ⟨h1, rfl, -⟩ | ⟨h5, -⟩ | ⟨h4, L, s, u, k2, rfl, -⟩ | ⟨h2, A, r, cp, cs, xs, k2, rfl, -⟩
    · have HE := hide (And.intro (hul.stop (by omega)) (And.intro hw0 (And.intro hln he)))
      have n1 := taEndLoop
      have n2 := taEndVar
      clear hul hln he hlw hlh hw0 hnv
      go_wp2_with fail
      go_ret
      exact ⟨es, N, _, ks', rfl, HE.out.2.2.1, HE.out.2.2.2, HE.out.1, HE.out.2.1, h41, ⟨_, _, rfl⟩, hb⟩
    · exact absurd h5 hnv
    · obtain ⟨lab, k', fr', ix', kids', hkid, hw'⟩ := rec_kid hlw h4
      cases gk with
      | zero => exact absurd hul.sz (by omega)
      | succ n =>
      have hfit : Fit (cpN (lvals es) N) := cpN_fit (EnvL.fits es he (by omega)) (fit_of_w hw0 (by omega) (by omega))
      have hstep := hul.step h4 hfit hkid (by rw [lvals_len]; exact hw')
      have hln2 := hln
      rw [h4, hkid] at hln2
      obtain ⟨L2, T2, x, ks2, hv2, hbL, hLp, hln3⟩ := linked_rec hln2
      have hLL : L = L2 := by
        injection hv2 with _ hv2
        injection hv2 with hv2
        injection hv2 with hv2
        injection hv2 with hv2
      subst hLL
      have henv : EnvL w0 ((L, N) :: es) := ⟨h4, hw0, ⟨ks', hln⟩, hLp, he⟩
      have HR : Hid (∃ (es : List (Nat × Nd)) (N : Nd) (ks' : List Nat), UlIs T n (lvals es) N ∧ LkN w0 N.k N.fr N.ix N.kids (blks es) (.iface T2 x) ks' ∧ EnvL w0 es ∧ Below w.heap.size w wr) :=
        hide ⟨(L, N) :: es, ⟨k', fr', ix', kids'⟩, ks2, hstep, by rw [blks_cons]; exact hln3, henv, hb⟩
      have y0 : wr.cell? ⟨L, 0, none⟩ = some (.iface T2 x) := ((hbL.below HB.out).below hb).cell 0
      have yl := World.block_lt_of_cell? _ _ y0
      have n1 := taLoopLoop
      clear hul hln he hlw hlh hw0 hnv hln2 hln3 hbL hLp henv hstep hfit hkid hw' hv2 h4
      go_wp2_with fail
      go_roundg n
      case measure => omega
      case rel => exact HR.out
    · have HE := hide (And.intro (hul.stop (by omega)) (And.intro hw0 (And.intro hln he)))
      have n1 := taActLoop
      have n2 := taActVar
      clear hul hln he hlw hlh hw0 hnv
      go_wp2_with fail
      go_ret
      exact ⟨es, N, _, ks', rfl, HE.out.2.2.1, HE.out.2.2.2, HE.out.1, HE.out.2.1, h41, ⟨_, _, rfl⟩, hb⟩

/-- Whether a tree keeps the limits. -/
def smallN (N : Nd) : Bool := decide (hN N ≤ 40) && decide (N.kids.sz + 1 ≤ 400)
theorem smallN_iff (N : Nd) : smallN N = true ↔ (0 + (N.kids.sz + 1) ≤ 400 ∧ (1 : Int) + (hF N.kids : Int) ≤ 40) := by
  unfold smallN hN
  simp only [Bool.and_eq_true, decide_eq_true_eq]
  omega

set_option maxHeartbeats 2000000 in
set_option maxRecDepth 100000 in
/-- unlinkLocal of the program. -/
theorem unlinkL_calls (w0 w : World) (N R : Nd) (v : Value) (es : List (Nat × Nd)) (ks : List Nat) (hl : es.length ≤ 1000) (hk : LkN w0 N.k N.fr N.ix N.kids (blks es) v ks) (he : EnvL w0 es) (hw : wN N (es.length : Int) 0 = true) (hB : Below w0.heap.size w0 w) (hv : ∃ T x, v = .iface T x) (hR : cpN (lvals es) N = R) :
    Calls Try.prog 19 #[v] w (MadeR (if smallN R = true then R else zeroNd) (smallN R) w) := by
  obtain ⟨T, x, rfl⟩ := hv
  have hA := alloc_below w (.cells #[.int .i64 0, .string ⟨#[]⟩, .int .i64 0, .slice none 0 0] ( /- t -/ 28))
  have hA2 := hA.alloc (by simp) (.cells #[.int .i64 0] ( /- t -/ 3))
  have hz0 := (Box4.now w (.int .i64 0) (.string ⟨#[]⟩) (.int .i64 0) (.slice none 0 0) ( /- t -/ 28)).below (alloc_below _ (.cells #[.int .i64 0] ( /- t -/ 3)))
  have hc : Ctr ((w.alloc (.cells #[.int .i64 0, .string ⟨#[]⟩, .int .i64 0, .slice none 0 0] ( /- t -/ 28))).alloc (.cells #[.int .i64 0] ( /- t -/ 3))) (w.heap.size + 1) 0 :=
    ⟨_, by have := alloc_last (w.alloc (.cells #[.int .i64 0, .string ⟨#[]⟩, .int .i64 0, .slice none 0 0] ( /- t -/ 28))) #[.int .i64 0] ( /- t -/ 3); simpa using this⟩
  have hs := hB.size
  have HC : Hid (Calls Try.prog 32 #[.iface T x, .agg #[.int .i64 1, .slice none 0 0, .int .i64 0], .pointer (some ⟨w.heap.size + 1, 0, none⟩)] ((w.alloc (.cells #[.int .i64 0, .string ⟨#[]⟩, .int .i64 0, .slice none 0 0] ( /- t -/ 28))).alloc (.cells #[.int .i64 0] ( /- t -/ 3))) (CpPost (w.heap.size + 1) R 1 0 ((w.alloc (.cells #[.int .i64 0, .string ⟨#[]⟩, .int .i64 0, .slice none 0 0] ( /- t -/ 28))).alloc (.cells #[.int .i64 0] ( /- t -/ 3))))) :=
    hide (by rw [← hR]; exact unlink_calls w0 _ (w.heap.size + 1) N.k N.ix N.fr (.iface T x) N.kids es ks hl hk he hw (hB.trans (hA2.mono hs)) (by omega) hc)
  have HZ := hide hz0
  have HA := hide hA2
  obtain ⟨ok, hok⟩ : ∃ ok, ok = smallN R := ⟨_, rfl⟩
  obtain ⟨Q, hQ⟩ : ∃ Q, Q = (if smallN R = true then R else zeroNd) := ⟨_, rfl⟩
  rw [← hQ, ← hok]
  have HQ := hide (And.intro hok hQ)
  clear hA hA2 hz0 hc hk he hw hB hR hl hok hQ
  go_enter Try.func19, Try.ntmps19
  go_wp2_with fail
  refine HC.out.mono ?_
  clear HC
  have hW0 : ((w.alloc (.cells #[.int .i64 0, .string ⟨#[]⟩, .int .i64 0, .slice none 0 0] ( /- t -/ 28))).alloc (.cells #[.int .i64 0] ( /- t -/ 3))).heap.size = w.heap.size + 2 := by simp
  generalize (w.alloc (.cells #[.int .i64 0, .string ⟨#[]⟩, .int .i64 0, .slice none 0 0] ( /- t -/ 28))).alloc (.cells #[.int .i64 0] ( /- t -/ 3)) = W at *
  rintro e w1 ⟨a', ho, hc, hcase⟩
  have hz1 := HZ.out.only ho (by omega)
  have hb1 : Below w.heap.size w w1 := HA.out.trans (ho.to_below (by omega) (by omega))
  obtain ⟨z0, z1, z2, z3⟩ := hz1.cells
  have fz := hz1.frozen
  have hzl := hz1.lt
  have HB1 := hide hb1
  clear hz1 hb1 ho hc
  rcases hcase with ⟨h1, h2, h3, u, bs, rfl, how, hge, hnd⟩ | ⟨hno, rfl⟩
  · obtain ⟨ua, uc, rfl⟩ := how.val
    have hsm : ok = true ∧ Q = R := by
      have h9 := (smallN_iff R).2 ⟨h1, h2⟩
      exact ⟨HQ.out.1.trans h9, HQ.out.2.trans (if_pos h9)⟩
    have HSM := hide hsm
    have HOW := hide how
    have HGE := hide hge
    clear how hge h1 h2 h3 hsm
    go_wp2_with fail
    refine bodyPost_ret (v := .tuple #[.agg #[.int .i64 R.k, .string R.fr, .int .i64 R.ix, .slice ua R.kids.len uc], .bool true]) (by simp [results, Try.results19, go_sem, *]) rfl ?_
    have q : ∀ b, b ∈ bs → w.heap.size < b := fun b h => by have := HGE.out b h; omega
    rw [HSM.out.1, HSM.out.2]
    refine ⟨_, bs, rfl, HOW.out.same (same_setAll (fun b hb => Nat.ne_of_gt (q b hb)) _ _ _ _), fun b hb => Nat.le_of_lt (q b hb), hnd, ?_⟩
    exact (((HB1.out.setCell (Nat.le_refl _) _).setCell (Nat.le_refl _) _).setCell (Nat.le_refl _) _).setCell (Nat.le_refl _) _
  · have hsm : smallN R = false := by
      cases h : smallN R with
      | false => rfl
      | true => exact absurd ((smallN_iff R).1 h) hno
    have HSM : Hid (ok = false ∧ Q = zeroNd) := hide ⟨HQ.out.1.trans hsm, HQ.out.2.trans (if_neg (by rw [hsm]; decide))⟩
    clear hno hsm
    go_wp2_with fail
    refine bodyPost_ret (v := .tuple #[.agg #[.int .i64 0, .string ⟨#[]⟩, .int .i64 0, .slice none 0 0], .bool false]) (by simp [results, Try.results19, go_sem, *]) rfl ?_
    rw [HSM.out.1, HSM.out.2]
    refine MadeR.zero ?_
    exact (((HB1.out.setCell (Nat.le_refl _) _).setCell (Nat.le_refl _) _).setCell (Nat.le_refl _) _).setCell (Nat.le_refl _) _

set_option maxHeartbeats 2000000 in
set_option maxRecDepth 100000 in
/-- UnfoldLocal of the program. -/
theorem implUnf (w : World) (g : Nd) (sv : Value) (hs : Sl w sv g.kids) :
    Calls Try.prog 8 #[.agg #[.int .i64 g.k, .string g.fr, .int .i64 g.ix, sv]] w (MadeR (unfR g) (unfOk g) w) := by
  have HS := hide hs
  have hb0 := (alloc_below w (.cells #[.int .i64 g.k, .string g.fr, .int .i64 g.ix, sv] ( /- t -/ 28))).alloc (by simp) (.cells #[.int .i64 0, .string ⟨#[]⟩, .int .i64 0, .slice none 0 0] ( /- t -/ 28))
  have hz0 := Box4.now (w.alloc (.cells #[.int .i64 g.k, .string g.fr, .int .i64 g.ix, sv] ( /- t -/ 28))) (.int .i64 0) (.string ⟨#[]⟩) (.int .i64 0) (.slice none 0 0) ( /- t -/ 28)
  rw [show (w.alloc (.cells #[.int .i64 g.k, .string g.fr, .int .i64 g.ix, sv] ( /- t -/ 28))).heap.size = w.heap.size + 1 from by simp] at hz0
  have HB0 := hide hb0
  have HZ0 := hide hz0
  obtain ⟨ok, hok⟩ : ∃ ok, ok = unfOk g := ⟨_, rfl⟩
  obtain ⟨R, hR⟩ : ∃ R, R = unfR g := ⟨_, rfl⟩
  rw [← hR, ← hok]
  have HRK := hide (And.intro hok hR)
  clear hs hb0 hz0 hok hR
  go_enter Try.func8, Try.ntmps8
  go_wp2_with fail
  generalize (w.alloc (.cells #[.int .i64 g.k, .string g.fr, .int .i64 g.ix, sv] ( /- t -/ 28))).alloc (.cells #[.int .i64 0, .string ⟨#[]⟩, .int .i64 0, .slice none 0 0] ( /- t -/ 28)) = W at *
  refine (implLink W g.k g.ix g.fr sv g.kids (HS.out.still (Still.of_below HB0.out))).mono ?_
  rintro e w1 ⟨u, bs, rfl, hu, hb, hok⟩
  have HZ1 := hide (HZ0.out.below hb)
  have HB1 := hide (HB0.out.trans (hb.mono HB0.out.size))
  have HOK := hide hok
  clear hb HZ0 HB0 hok
  cases hok : okN g.k g.fr g.ix g.kids with
  | false =>
    have hr : unfOk g = false := by unfold unfOk okG; rw [hok]; rfl
    have HR := hide hr
    obtain ⟨z0, z1, z2, z3⟩ := HZ1.out.cells
    have fz := HZ1.out.frozen
    have hzl := HZ1.out.lt
    clear hok hr HOK
    rcases hu with rfl | ⟨T, x, rfl⟩
    all_goals
      go_wp2_with fail
      refine bodyPost_ret (v := .tuple #[.agg #[.int .i64 0, .string ⟨#[]⟩, .int .i64 0, .slice none 0 0], .bool false]) (by simp [results, Try.results8, go_sem, *]) rfl ?_
      have e1 : unfR g = zeroNd := by unfold unfR; rw [HR.out]; rfl
      rw [HRK.out.1, HRK.out.2, HR.out, e1]
      refine MadeR.zero ?_
      repeat (refine Below.setCell ?_ (by first | (simp; done) | (simp; omega)) _)
      exact HB1.out
  | true =>
    have hg : okG g = true := hok
    obtain ⟨hw, hh, hsz⟩ := okG_w hg
    have hln := (HOK.out hok).1
    obtain ⟨T, x, rfl⟩ := hln.val
    have hwT : wN (unf g) 0 0 = true := unfN_w _ _ _ (fun x hx => by simp at hx) hw
    have hOK : unfOk g = smallN (unf g) := by unfold unfOk smallN; rw [hg, okG_of_w hwT, Bool.true_and]
    have hRR : unfR g = if smallN (unf g) = true then unf g else zeroNd := by unfold unfR; rw [hOK]
    have HH := hide (And.intro hln (And.intro hw hh))
    have HRR := hide (And.intro (HRK.out.1.trans hOK) (HRK.out.2.trans hRR))
    clear hok hg hw hh hsz hln hwT hOK hRR HOK hu
    go_wp2_with fail
    refine (unfL_calls w1 w1 g _ bs HH.out.1 HH.out.2.1 HH.out.2.2 (Below.refl _ _)).mono ?_
    rintro e w2 ⟨es, N, v', ks', rfl, hln, he, hcp, hwN, h41, ⟨T2, x2, rfl⟩, hb2⟩
    have HZ2 := hide (HZ1.out.below hb2)
    have HB2 := hide (HB1.out.trans (hb2.mono HB1.out.size))
    have HL := hide (And.intro hln (And.intro he (And.intro hcp (And.intro hwN hb2))))
    clear hln he hcp hwN hb2 HZ1 HH
    go_wp2_with fail
    refine (unlinkL_calls w1 w2 N (unf g) _ es ks' (by omega) HL.out.1 HL.out.2.1 HL.out.2.2.2.1 HL.out.2.2.2.2 ⟨_, _, rfl⟩ HL.out.2.2.1).mono ?_
    rw [← HRR.out.2, ← HRR.out.1]
    rintro e w3 ⟨u3, bs3, rfl, how, hge, hnd, hb3⟩
    obtain ⟨ua, uc, rfl⟩ := how.val
    have hz3 := HZ2.out.below hb3
    have hw2l := HZ2.out.lt
    have HB3 := hide (HB2.out.trans (hb3.mono HB2.out.size))
    obtain ⟨z0, z1, z2, z3⟩ := hz3.cells
    have fz := hz3.frozen
    have hzl := hz3.lt
    have HOW := hide how
    have HGE := hide hge
    clear how hge hb3 hz3 HL HB1 HB2
    go_wp2_with fail
    refine bodyPost_ret (v := .tuple #[.agg #[.int .i64 R.k, .string R.fr, .int .i64 R.ix, .slice ua R.kids.len uc], .bool ok]) (by simp [results, Try.results8, go_sem, *]) rfl ?_
    have q : ∀ b, b ∈ bs3 → w.heap.size + 1 < b := fun b h => by have := HGE.out b h; omega
    refine ⟨_, bs3, rfl, HOW.out.same (same_setAll (fun b hb => Nat.ne_of_gt (q b hb)) _ _ _ _), fun b hb => by have := q b hb; omega, hnd, ?_⟩
    repeat (refine Below.setCell ?_ (by first | (simp; done) | (simp; omega)) _)
    exact HB3.out
end Go.Proofs.Ytkepinjpihmjkab.Lo
