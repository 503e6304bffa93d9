/- LKb, LKu, LEa, LJb, LJd, LSt, LJc, LJm, LJr, LJs, LJe -/
import Derived.Test.YtpjbffggeegdaaaM11
import Derived.Test.YtpjbffggeegdaaaM12
import Derived.Deep.LoopGhost
import Derived.Test.YtpjbffggeegdaaaM08
import Derived.Test.YtpjbffggeegdaaaProg
import Derived.Maps.Own
import Derived.Maps.OwnOps
import Derived.LaidEqlPtr
import Derived.Laws.StructEq
import Derived.ChangeKeysEq
import Derived.Deep.AppendLies
/- unlinkNode of the program, whole. -/
namespace Go.Proofs.Ytpjbffggeegdaaa.Lo
open Go.RowKit

theorem un_all : ∀ q n, UnAt q n := by
  intro q
  induction q using Nat.strongRecOn with
  | _ q ihq =>
  intro n
  induction n with
  | zero => intro w0 w c a dp un k ix fr v lv kids es m ks hn; omega
  | succ n ihn =>
    intro w0 w c a dp un k ix fr v lv kids es m ks hn hq hk he hw hB hc0 hc ha hd1 hd2 hmd hu1 hu2 hq2 hp
    have hw2 := hw
    unfold wN at hw2
    simp only [Bool.and_eq_true] at hw2
    obtain ⟨hsh, hsc⟩ := hw2
    have hps := hp.ps.val
    have hpl : (blks (es.take m)).length = m := scope_len es m (by omega)
    by_cases h1 : k = 1
    · subst h1
      obtain ⟨hf, rfl, rfl⟩ := shape_end hsh
      have hf1 := empty_of hf
      subst hf1
      have hv : v = .iface ( /- t -/ 85) (.agg #[]) := by
        rcases hk with ⟨-, h, -⟩ | ⟨h, -⟩ | ⟨h, -⟩ | ⟨h, -⟩
        · exact h
        · omega
        · omega
        · omega
      subst hv
      have e : cpN (lenv m es) ⟨1, ⟨#[]⟩, 0, .nil⟩ = ⟨1, ⟨#[]⟩, 0, .nil⟩ := by
        rw [cpN_k (show (1 : Int) ≠ 5 by decide)]
        rfl
      rw [e]
      exact un_end w c a dp un lv (blks (es.take m)) hc ha hd1 hd2 hp
    by_cases h2 : k = 2 ∨ k = 3
    · exact un_act q n ihn w0 w c a dp un k ix fr v lv kids es m ks h2 hn hq hk he hw hB hc0 hc ha hd1 hd2 hmd hq2 hp
    by_cases h4 : k = 4
    · subst h4
      obtain ⟨hf, rfl, lab, k', fr', ix', kids', rfl, hl0⟩ := shape_rec hsh
      obtain ⟨L, T, x, ks', rfl, hbL, hLp, hln⟩ := linked_rec hk
      exact un_loop q n ihn w0 w c a dp un un fr 0 _ lv lv _ es m L ks none false hn hq hk he hw hB hc0 hc ha hd1 hd2 hmd hu1 hu2 hq2 hp (by obtain ⟨a1, c1, e, -⟩ := hps; exact ⟨a1, _, c1, e⟩) (Or.inl ⟨rfl, rfl, rfl, rfl, rfl⟩)
    by_cases h5 : k = 5
    · subst h5
      obtain ⟨hf, rfl⟩ := shape_var hsh
      have hf1 := empty_of hf
      subst hf1
      obtain ⟨p, b, g, t, rfl, rfl, rfl⟩ := linked_var hk
      have hlen : (p ++ (b, g) :: t).length = p.length + 1 + t.length := by simp; omega
      by_cases hin : p.length < m
      · have e : cpN (lenv m (p ++ (b, g) :: t)) ⟨5, ⟨#[]⟩, (p.length : Int), .nil⟩ = ⟨5, ⟨#[]⟩, (p.length : Int), .nil⟩ := by
          unfold cpN
          simp only [if_true, Int.toNat_natCast]
          rw [lenv_in m p.length _ hin (by omega)]
          rfl
        rw [e]
        obtain ⟨s1, s2⟩ := scope_in p b g t m hin (by omega)
        refine un_var w0 w c a dp un p.length (m - 1 - p.length) b lv _ hB hc0 hc ha hd1 hd2 hp (scope_nodup _ _ he) (fun x hx => he.blk _ x (scope_mem hx)) s1 s2 ?_
        rw [hpl]
        omega
      · have e : cpN (lenv m (p ++ (b, g) :: t)) ⟨5, ⟨#[]⟩, (p.length : Int), .nil⟩ = cpN (lvals t) g := by
          conv => lhs; unfold cpN
          simp only [if_true, Int.toNat_natCast]
          rw [lenv_out m p b g t (by omega)]
        rw [e]
        obtain ⟨g4, gw, ⟨kg, gl⟩, gb, ge⟩ := EnvL.suffix p _ he
        obtain ⟨gk, gf, gi, gq⟩ := g
        simp only at g4
        subst g4
        have hq' : t.length < q := by omega
        exact un_loop t.length (gq.sz + 1) (ihq _ hq' _) w0 w c a dp un 0 gf gi _ lv (.slice none 0 0) gq t 0 b kg (some ⟨b, 0, none⟩) true (by omega) rfl gl ge gw hB hc0 hc ha hd1 hd2 (by omega) (by omega) (by omega) (by omega) (by rw [List.take_zero]; exact Pt.nil w)
          (by obtain ⟨a1, c1, e, -⟩ := hps; exact ⟨a1, _, c1, e⟩) (Or.inr ⟨rfl, rfl, rfl, rfl, rfl, rfl, _, hp, scope_out p b _ t m (by omega) he, by rw [hpl]; omega, fun x hx => he.blk _ x (scope_mem hx)⟩)
    · simp [shapeB, h1, h2, h4, h5] at hsh

/-- unlinkNode, at a place without recursions around. -/
theorem unlink_calls (w0 w : World) (c : Nat) (k ix : Int) (fr : ByteArray) (v : Value) (kids : F) (es : List (Nat × Nd)) (ks : List Nat) (hl : es.length ≤ 1000) (hk : LkN w0 k fr ix kids (blks es) v ks) (he : EnvL w0 es) (hw : wN ⟨k, fr, ix, kids⟩ (es.length : Int) 0 = true)
    (hB : Below w0.heap.size w0 w) (hc0 : w0.heap.size ≤ c) (hc : Ctr w c 0) :
    Calls Try.prog 24 #[v, .agg #[.int .i64 1, .slice none 0 0, .int .i64 0], .pointer (some ⟨c, 0, none⟩)] w (CpPost c (cpN (lvals es) ⟨k, fr, ix, kids⟩) 1 0 w) :=
  un_all es.length (kids.sz + 1) w0 w c 0 1 0 k ix fr v (.slice none 0 0) kids es 0 ks (Nat.lt_succ_self _) rfl hk he hw hB hc0 hc (by omega) (by omega) (by omega) (by omega) (by omega) (by omega) hl (by rw [List.take_zero]; exact Pt.nil w)
end Go.Proofs.Ytpjbffggeegdaaa.Lo

/- UnfoldLocal of the program. -/
namespace Go.Proofs.Ytpjbffggeegdaaa.Lo
open Go.RowKit

set_option maxHeartbeats 2000000 in
set_option maxRecDepth 100000 in
/-- unfoldLinked of the program. -/
theorem unfL_calls (w0 w : World) (g : Nd) (v : Value) (ks : List Nat) (hk : LkN w0 g.k g.fr g.ix g.kids [] v ks) (hw : wN g 0 0 = true) (hh : hN g ≤ 40) (hB : Below w0.heap.size w0 w) :
    Calls Try.prog 13 #[v] w fun e w' => ∃ (es : List (Nat × Nd)) (N : Nd) (v' : Value) (ks' : List Nat), e = .returned v' ∧ LkN w0 N.k N.fr N.ix N.kids (blks es) v' ks' ∧ EnvL w0 es ∧ cpN (lvals es) N = unf g ∧ wN N (es.length : Int) 0 = true ∧ es.length ≤ 41 ∧ (∃ T x, v' = .iface T x) ∧ Below w.heap.size w w' := by
  obtain ⟨T, hT⟩ : ∃ T, T = unf g := ⟨_, rfl⟩
  have HST : Hid (∃ (es : List (Nat × Nd)) (N : Nd) (ks' : List Nat), UlIs T (g.kids.sz + 1) (lvals es) N ∧ LkN w0 N.k N.fr N.ix N.kids (blks es) v ks' ∧ EnvL w0 es ∧ Below w.heap.size w w) :=
    hide ⟨[], g, ks, by rw [hT]; exact UlIs.start hw hh, hk, trivial, Below.refl _ _⟩
  have HB := hide hB
  rw [← hT]
  clear hk hw hh hB hT
  go_enter Try.func13, Try.ntmps13
  go_wp2_with fail
  go_loopg [0] (g.kids.sz + 1) (fun n vv wr => ∃ (es : List (Nat × Nd)) (N : Nd) (ks' : List Nat), UlIs T n (lvals es) N ∧ LkN w0 N.k N.fr N.ix N.kids (blks es) vv ks' ∧ EnvL w0 es ∧ Below w.heap.size w wr)
  case atStart => exact HST.out
  case round =>
    obtain ⟨es, N, ks', hul, hln, he, hb⟩ := hrel
    clear HST
    have hlw := hul.w
    have hlh := hul.h
    rw [lvals_len] at hlw hlh
    have h41 : es.length ≤ 41 := by omega
    have hw0 := wN_u _ _ _ 0 hlw (by omega)
    have hnv := not_var hlw
    rcases id hln with ⟨h1, rfl, -⟩ | ⟨h5, -⟩ | ⟨h4, L, s, u, k2, rfl, -⟩ | ⟨h2, A, r, cp, cs, xs, k2, rfl, -⟩
    · have HE := hide (And.intro (hul.stop (by omega)) (And.intro hw0 (And.intro hln he)))
      have n1 := taEndLoop
      have n2 := taEndVar
      clear hul hln he hlw hlh hw0 hnv
      go_wp2_with fail
      go_ret
      exact ⟨es, N, _, ks', rfl, HE.out.2.2.1, HE.out.2.2.2, HE.out.1, HE.out.2.1, h41, ⟨_, _, rfl⟩, hb⟩
    · exact absurd h5 hnv
    · obtain ⟨lab, k', fr', ix', kids', hkid, hw'⟩ := rec_kid hlw h4
      cases gk with
      | zero => exact absurd hul.sz (by omega)
      | succ n =>
      have hfit : Fit (cpN (lvals es) N) := cpN_fit (EnvL.fits es he (by omega)) (fit_of_w hw0 (by omega) (by omega))
      have hstep := hul.step h4 hfit hkid (by rw [lvals_len]; exact hw')
      have hln2 := hln
      rw [h4, hkid] at hln2
      obtain ⟨L2, T2, x, ks2, hv2, hbL, hLp, hln3⟩ := linked_rec hln2
      have hLL : L = L2 := by
        injection hv2 with _ hv2
        injection hv2 with hv2
        injection hv2 with hv2
        injection hv2 with hv2
      subst hLL
      have henv : EnvL w0 ((L, N) :: es) := ⟨h4, hw0, ⟨ks', hln⟩, hLp, he⟩
      have HR : Hid (∃ (es : List (Nat × Nd)) (N : Nd) (ks' : List Nat), UlIs T n (lvals es) N ∧ LkN w0 N.k N.fr N.ix N.kids (blks es) (.iface T2 x) ks' ∧ EnvL w0 es ∧ Below w.heap.size w wr) :=
        hide ⟨(L, N) :: es, ⟨k', fr', ix', kids'⟩, ks2, hstep, by rw [blks_cons]; exact hln3, henv, hb⟩
      have y0 : wr.cell? ⟨L, 0, none⟩ = some (.iface T2 x) := ((hbL.below HB.out).below hb).cell 0
      have yl := World.block_lt_of_cell? _ _ y0
      have n1 := taLoopLoop
      clear hul hln he hlw hlh hw0 hnv hln2 hln3 hbL hLp henv hstep hfit hkid hw' hv2 h4
      go_wp2_with fail
      go_roundg n
      case measure => omega
      case rel => exact HR.out
    · have HE := hide (And.intro (hul.stop (by omega)) (And.intro hw0 (And.intro hln he)))
      have n1 := taActLoop
      have n2 := taActVar
      clear hul hln he hlw hlh hw0 hnv
      go_wp2_with fail
      go_ret
      exact ⟨es, N, _, ks', rfl, HE.out.2.2.1, HE.out.2.2.2, HE.out.1, HE.out.2.1, h41, ⟨_, _, rfl⟩, hb⟩

/-- Whether a tree keeps the limits. -/
def smallN (N : Nd) : Bool := decide (hN N ≤ 40) && decide (N.kids.sz + 1 ≤ 400)
theorem smallN_iff (N : Nd) : smallN N = true ↔ (0 + (N.kids.sz + 1) ≤ 400 ∧ (1 : Int) + (hF N.kids : Int) ≤ 40) := by
  unfold smallN hN
  simp only [Bool.and_eq_true, decide_eq_true_eq]
  omega

set_option maxHeartbeats 2000000 in
set_option maxRecDepth 100000 in
/-- unlinkLocal of the program. -/
theorem unlinkL_calls (w0 w : World) (N R : Nd) (v : Value) (es : List (Nat × Nd)) (ks : List Nat) (hl : es.length ≤ 1000) (hk : LkN w0 N.k N.fr N.ix N.kids (blks es) v ks) (he : EnvL w0 es) (hw : wN N (es.length : Int) 0 = true) (hB : Below w0.heap.size w0 w) (hv : ∃ T x, v = .iface T x) (hR : cpN (lvals es) N = R) :
    Calls Try.prog 12 #[v] w (MadeR (if smallN R = true then R else zeroNd) (smallN R) w) := by
  obtain ⟨T, x, rfl⟩ := hv
  have hA := alloc_below w (.cells #[.int .i64 0, .string ⟨#[]⟩, .int .i64 0, .slice none 0 0] ( /- t -/ 25))
  have hA2 := hA.alloc (by simp) (.cells #[.int .i64 0] ( /- t -/ 3))
  have hz0 := (Box4.now w (.int .i64 0) (.string ⟨#[]⟩) (.int .i64 0) (.slice none 0 0) ( /- t -/ 25)).below (alloc_below _ (.cells #[.int .i64 0] ( /- t -/ 3)))
  have hc : Ctr ((w.alloc (.cells #[.int .i64 0, .string ⟨#[]⟩, .int .i64 0, .slice none 0 0] ( /- t -/ 25))).alloc (.cells #[.int .i64 0] ( /- t -/ 3))) (w.heap.size + 1) 0 :=
    ⟨_, by have := alloc_last (w.alloc (.cells #[.int .i64 0, .string ⟨#[]⟩, .int .i64 0, .slice none 0 0] ( /- t -/ 25))) #[.int .i64 0] ( /- t -/ 3); simpa using this⟩
  have hs := hB.size
  have HC : Hid (Calls Try.prog 24 #[.iface T x, .agg #[.int .i64 1, .slice none 0 0, .int .i64 0], .pointer (some ⟨w.heap.size + 1, 0, none⟩)] ((w.alloc (.cells #[.int .i64 0, .string ⟨#[]⟩, .int .i64 0, .slice none 0 0] ( /- t -/ 25))).alloc (.cells #[.int .i64 0] ( /- t -/ 3))) (CpPost (w.heap.size + 1) R 1 0 ((w.alloc (.cells #[.int .i64 0, .string ⟨#[]⟩, .int .i64 0, .slice none 0 0] ( /- t -/ 25))).alloc (.cells #[.int .i64 0] ( /- t -/ 3))))) :=
    hide (by rw [← hR]; exact unlink_calls w0 _ (w.heap.size + 1) N.k N.ix N.fr (.iface T x) N.kids es ks hl hk he hw (hB.trans (hA2.mono hs)) (by omega) hc)
  have HZ := hide hz0
  have HA := hide hA2
  obtain ⟨ok, hok⟩ : ∃ ok, ok = smallN R := ⟨_, rfl⟩
  obtain ⟨Q, hQ⟩ : ∃ Q, Q = (if smallN R = true then R else zeroNd) := ⟨_, rfl⟩
  rw [← hQ, ← hok]
  have HQ := hide (And.intro hok hQ)
  clear hA hA2 hz0 hc hk he hw hB hR hl hok hQ
  go_enter Try.func12, Try.ntmps12
  go_wp2_with fail
  refine HC.out.mono ?_
  clear HC
  have hW0 : ((w.alloc (.cells #[.int .i64 0, .string ⟨#[]⟩, .int .i64 0, .slice none 0 0] ( /- t -/ 25))).alloc (.cells #[.int .i64 0] ( /- t -/ 3))).heap.size = w.heap.size + 2 := by simp
  generalize (w.alloc (.cells #[.int .i64 0, .string ⟨#[]⟩, .int .i64 0, .slice none 0 0] ( /- t -/ 25))).alloc (.cells #[.int .i64 0] ( /- t -/ 3)) = W at *
  rintro e w1 ⟨a', ho, hc, hcase⟩
  have hz1 := HZ.out.only ho (by omega)
  have hb1 : Below w.heap.size w w1 := HA.out.trans (ho.to_below (by omega) (by omega))
  obtain ⟨z0, z1, z2, z3⟩ := hz1.cells
  have fz := hz1.frozen
  have hzl := hz1.lt
  have HB1 := hide hb1
  clear hz1 hb1 ho hc
  rcases hcase with ⟨h1, h2, h3, u, bs, rfl, how, hge, hnd⟩ | ⟨hno, rfl⟩
  · obtain ⟨ua, uc, rfl⟩ := how.val
    have hsm : ok = true ∧ Q = R := by
      have h9 := (smallN_iff R).2 ⟨h1, h2⟩
      exact ⟨HQ.out.1.trans h9, HQ.out.2.trans (if_pos h9)⟩
    have HSM := hide hsm
    have HOW := hide how
    have HGE := hide hge
    clear how hge h1 h2 h3 hsm
    go_wp2_with fail
    refine bodyPost_ret (v := .tuple #[.agg #[.int .i64 R.k, .string R.fr, .int .i64 R.ix, .slice ua R.kids.len uc], .bool true]) (by simp [results, Try.results12, go_sem, *]) rfl ?_
    have q : ∀ b, b ∈ bs → w.heap.size < b := fun b h => by have := HGE.out b h; omega
    rw [HSM.out.1, HSM.out.2]
    refine ⟨_, bs, rfl, HOW.out.same (same_setAll (fun b hb => Nat.ne_of_gt (q b hb)) _ _ _ _), fun b hb => Nat.le_of_lt (q b hb), hnd, ?_⟩
    exact (((HB1.out.setCell (Nat.le_refl _) _).setCell (Nat.le_refl _) _).setCell (Nat.le_refl _) _).setCell (Nat.le_refl _) _
  · have hsm : smallN R = false := by
      cases h : smallN R with
      | false => rfl
      | true => exact absurd ((smallN_iff R).1 h) hno
    have HSM : Hid (ok = false ∧ Q = zeroNd) := hide ⟨HQ.out.1.trans hsm, HQ.out.2.trans (if_neg (by rw [hsm]; decide))⟩
    clear hno hsm
    go_wp2_with fail
    refine bodyPost_ret (v := .tuple #[.agg #[.int .i64 0, .string ⟨#[]⟩, .int .i64 0, .slice none 0 0], .bool false]) (by simp [results, Try.results12, go_sem, *]) rfl ?_
    rw [HSM.out.1, HSM.out.2]
    refine MadeR.zero ?_
    exact (((HB1.out.setCell (Nat.le_refl _) _).setCell (Nat.le_refl _) _).setCell (Nat.le_refl _) _).setCell (Nat.le_refl _) _

set_option maxHeartbeats 2000000 in
set_option maxRecDepth 100000 in
/-- UnfoldLocal of the program. -/
theorem implUnf (w : World) (g : Nd) (sv : Value) (hs : Sl w sv g.kids) :
    Calls Try.prog 6 #[.agg #[.int .i64 g.k, .string g.fr, .int .i64 g.ix, sv]] w (MadeR (unfR g) (unfOk g) w) := by
  have HS := hide hs
  have hb0 := (alloc_below w (.cells #[.int .i64 g.k, .string g.fr, .int .i64 g.ix, sv] ( /- t -/ 25))).alloc (by simp) (.cells #[.int .i64 0, .string ⟨#[]⟩, .int .i64 0, .slice none 0 0] ( /- t -/ 25))
  have hz0 := Box4.now (w.alloc (.cells #[.int .i64 g.k, .string g.fr, .int .i64 g.ix, sv] ( /- t -/ 25))) (.int .i64 0) (.string ⟨#[]⟩) (.int .i64 0) (.slice none 0 0) ( /- t -/ 25)
  rw [show (w.alloc (.cells #[.int .i64 g.k, .string g.fr, .int .i64 g.ix, sv] ( /- t -/ 25))).heap.size = w.heap.size + 1 from by simp] at hz0
  have HB0 := hide hb0
  have HZ0 := hide hz0
  obtain ⟨ok, hok⟩ : ∃ ok, ok = unfOk g := ⟨_, rfl⟩
  obtain ⟨R, hR⟩ : ∃ R, R = unfR g := ⟨_, rfl⟩
  rw [← hR, ← hok]
  have HRK := hide (And.intro hok hR)
  clear hs hb0 hz0 hok hR
  go_enter Try.func6, Try.ntmps6
  go_wp2_with fail
  generalize (w.alloc (.cells #[.int .i64 g.k, .string g.fr, .int .i64 g.ix, sv] ( /- t -/ 25))).alloc (.cells #[.int .i64 0, .string ⟨#[]⟩, .int .i64 0, .slice none 0 0] ( /- t -/ 25)) = W at *
  refine (implLink W g.k g.ix g.fr sv g.kids (HS.out.still (Still.of_below HB0.out))).mono ?_
  rintro e w1 ⟨u, bs, rfl, hu, hb, hok⟩
  have HZ1 := hide (HZ0.out.below hb)
  have HB1 := hide (HB0.out.trans (hb.mono HB0.out.size))
  have HOK := hide hok
  clear hb HZ0 HB0 hok
  cases hok : okN g.k g.fr g.ix g.kids with
  | false =>
    have hr : unfOk g = false := by unfold unfOk okG; rw [hok]; rfl
    have HR := hide hr
    obtain ⟨z0, z1, z2, z3⟩ := HZ1.out.cells
    have fz := HZ1.out.frozen
    have hzl := HZ1.out.lt
    clear hok hr HOK
    rcases hu with rfl | ⟨T, x, rfl⟩
    all_goals
      go_wp2_with fail
      refine bodyPost_ret (v := .tuple #[.agg #[.int .i64 0, .string ⟨#[]⟩, .int .i64 0, .slice none 0 0], .bool false]) (by simp [results, Try.results6, go_sem, *]) rfl ?_
      have e1 : unfR g = zeroNd := by unfold unfR; rw [HR.out]; rfl
      rw [HRK.out.1, HRK.out.2, HR.out, e1]
      refine MadeR.zero ?_
      repeat (refine Below.setCell ?_ (by first | (simp; done) | (simp; omega)) _)
      exact HB1.out
  | true =>
    have hg : okG g = true := hok
    obtain ⟨hw, hh, hsz⟩ := okG_w hg
    have hln := (HOK.out hok).1
    obtain ⟨T, x, rfl⟩ := hln.val
    have hwT : wN (unf g) 0 0 = true := unfN_w _ _ _ (fun x hx => by simp at hx) hw
    have hOK : unfOk g = smallN (unf g) := by unfold unfOk smallN; rw [hg, okG_of_w hwT, Bool.true_and]
    have hRR : unfR g = if smallN (unf g) = true then unf g else zeroNd := by unfold unfR; rw [hOK]
    have HH := hide (And.intro hln (And.intro hw hh))
    have HRR := hide (And.intro (HRK.out.1.trans hOK) (HRK.out.2.trans hRR))
    clear hok hg hw hh hsz hln hwT hOK hRR HOK hu
    go_wp2_with fail
    refine (unfL_calls w1 w1 g _ bs HH.out.1 HH.out.2.1 HH.out.2.2 (Below.refl _ _)).mono ?_
    rintro e w2 ⟨es, N, v', ks', rfl, hln, he, hcp, hwN, h41, ⟨T2, x2, rfl⟩, hb2⟩
    have HZ2 := hide (HZ1.out.below hb2)
    have HB2 := hide (HB1.out.trans (hb2.mono HB1.out.size))
    have HL := hide (And.intro hln (And.intro he (And.intro hcp (And.intro hwN hb2))))
    clear hln he hcp hwN hb2 HZ1 HH
    go_wp2_with fail
    refine (unlinkL_calls w1 w2 N (unf g) _ es ks' (by omega) HL.out.1 HL.out.2.1 HL.out.2.2.2.1 HL.out.2.2.2.2 ⟨_, _, rfl⟩ HL.out.2.2.1).mono ?_
    rw [← HRR.out.2, ← HRR.out.1]
    rintro e w3 ⟨u3, bs3, rfl, how, hge, hnd, hb3⟩
    obtain ⟨ua, uc, rfl⟩ := how.val
    have hz3 := HZ2.out.below hb3
    have hw2l := HZ2.out.lt
    have HB3 := hide (HB2.out.trans (hb3.mono HB2.out.size))
    obtain ⟨z0, z1, z2, z3⟩ := hz3.cells
    have fz := hz3.frozen
    have hzl := hz3.lt
    have HOW := hide how
    have HGE := hide hge
    clear how hge hb3 hz3 HL HB1 HB2
    go_wp2_with fail
    refine bodyPost_ret (v := .tuple #[.agg #[.int .i64 R.k, .string R.fr, .int .i64 R.ix, .slice ua R.kids.len uc], .bool ok]) (by simp [results, Try.results6, go_sem, *]) rfl ?_
    have q : ∀ b, b ∈ bs3 → w.heap.size + 1 < b := fun b h => by have := HGE.out b h; omega
    refine ⟨_, bs3, rfl, HOW.out.same (same_setAll (fun b hb => Nat.ne_of_gt (q b hb)) _ _ _ _), fun b hb => by have := q b hb; omega, hnd, ?_⟩
    repeat (refine Below.setCell ?_ (by first | (simp; done) | (simp; omega)) _)
    exact HB3.out
end Go.Proofs.Ytpjbffggeegdaaa.Lo

/- What the walks of the drawn laws share: unfolded trees. -/
namespace Go.Proofs.Ytpjbffggeegdaaa.Lo
open Go.RowKit

theorem unfR_sz (g : Nd) : (unfR g).kids.sz ≤ 1048576 := by
  unfold unfR
  split
  · rename_i h
    unfold unfOk at h
    simp only [Bool.and_eq_true] at h
    have := (okG_w h.2).2.2
    omega
  · exact Nat.zero_le _
theorem zeroNd_fit : Fit zeroNd := ⟨Nat.zero_le _, show (Lit.int .i64 0).wf = true by decide, show (Lit.int .i64 0).wf = true by decide⟩
end Go.Proofs.Ytpjbffggeegdaaa.Lo

/- The linked nodes of a local type as closed trees: what a value stands for, what it unfolds to, what an action's row says. -/
namespace Go.Proofs.Ytpjbffggeegdaaa.Lo
open Go.RowKit

theorem EnvL.va {w0 : World} : ∀ (es : List (Nat × Nd)), EnvL w0 es → VaS (lvals es)
  | [], _ => va_nil
  | (b, g) :: es, h => by
    have ih := EnvL.va es h.2.2.2.2
    intro x hx
    simp only [lvals, List.mem_cons] at hx
    rcases hx with rfl | hx
    · exact ⟨_, rfl, cpN_w _ ih g (by rw [lvals_len]; exact h.2.1)⟩
    · exact ih x hx

/-- The recursions' own blocks lie among bs. -/
def EnvB (w : World) (bs : List Nat) : List (Nat × Nd) → Prop
  | [] => True
  | (b, g) :: es => (∃ ks, LkN w g.k g.fr g.ix g.kids (blks es) (.iface ( /- t -/ 56) (.pointer (some ⟨b, 0, none⟩))) ks ∧ ∀ x, x ∈ ks → x ∈ bs) ∧ EnvB w bs es
theorem EnvB.suffix {w : World} {bs : List Nat} : ∀ (p es : List (Nat × Nd)), EnvB w bs (p ++ es) → EnvB w bs es
  | [], _, h => h
  | (_, _) :: p, es, h => EnvB.suffix p es h.2
theorem EnvB.same {w w' : World} {bs : List Nat} (hb : Same w w' (List.range w.heap.size)) : ∀ (es : List (Nat × Nd)), EnvB w bs es → EnvB w' bs es
  | [], _ => trivial
  | (b, g) :: es, h => by
    obtain ⟨⟨ks, h3, h4⟩, h5⟩ := h
    exact ⟨⟨ks, h3.same (fun x hx => hb x (List.mem_range.2 (h3.lt x hx))), h4⟩, EnvB.same hb es h5⟩

/-- A value that is linked as a closed tree, in the blocks bs. -/
def Rep (w : World) (bs : List Nat) (v : Value) (T : Nd) : Prop :=
  ∃ (es : List (Nat × Nd)) (N : Nd) (ks : List Nat), LkN w N.k N.fr N.ix N.kids (blks es) v ks ∧ (∀ x, x ∈ ks → x ∈ bs) ∧ EnvL w es ∧ EnvB w bs es ∧ cpN (lvals es) N = T ∧ wN N (es.length : Int) 0 = true
theorem Rep.w {w : World} {bs : List Nat} {v : Value} {T : Nd} (h : Rep w bs v T) : wN T 0 0 = true := by
  obtain ⟨es, N, ks, -, -, h2, -, rfl, h4⟩ := h
  exact cpN_w _ (EnvL.va es h2) N (by rw [lvals_len]; exact h4)
theorem Rep.root {w : World} {v : Value} {g : Nd} {ks : List Nat} (h : LkN w g.k g.fr g.ix g.kids [] v ks) (hw : wN g 0 0 = true) : Rep w ks v g :=
  ⟨[], g, ks, h, fun _ h => h, trivial, trivial, cpN_nil g, hw⟩
theorem Rep.same {w w' : World} {bs : List Nat} {v : Value} {T : Nd} (h : Rep w bs v T) (hb : Same w w' (List.range w.heap.size)) : Rep w' bs v T := by
  obtain ⟨es, N, ks, h1, h0, h2, h5, h3, h4⟩ := h
  exact ⟨es, N, ks, h1.same (fun x hx => hb x (List.mem_range.2 (h1.lt x hx))), h0, EnvL.below hb es h2, EnvB.same hb es h5, h3, h4⟩
theorem Rep.val {w : World} {bs : List Nat} {v : Value} {T : Nd} (h : Rep w bs v T) : ∃ U x, v = .iface U x := by
  obtain ⟨es, N, ks, h1, -⟩ := h
  exact h1.val

/-- The row of an action's branches: a label and a value each. -/
def RepF (w : World) (bs : List Nat) : F → List Value → Prop
  | .nil, xs => xs = []
  | .cons lab k fr ix kids rest, xs => ∃ v ys, xs = .string lab :: v :: ys ∧ Rep w bs v ⟨k, fr, ix, kids⟩ ∧ RepF w bs rest ys
/-- What stands in an action's block. -/
def RowOf (w : World) (A : Nat) (k : Int) (fr : ByteArray) (xs : List Value) : Prop :=
  ∃ (r n cap : Nat) (cs : Array Value), Blk w A #[.int .i64 k, .string fr, .slice (some ⟨r, 0, none⟩) n cap] ∧ n ≤ cap ∧ cap ≤ maxLen ∧ Blk w r cs ∧ cs.toList.take (n * 2) = xs ∧ xs.length = n * 2
def Act (w : World) (bs : List Nat) (A : Nat) (T : Nd) : Prop := A ∈ bs ∧ ∃ xs, RowOf w A T.k T.fr xs ∧ RepF w bs T.kids xs

theorem Blk.one {w : World} {b : Nat} {cs ds : Array Value} (h : Blk w b cs) (h' : Blk w b ds) : cs = ds := by
  obtain ⟨t, h⟩ := h
  obtain ⟨t', h'⟩ := h'
  rw [h] at h'
  simp only [Option.some.injEq, Obj.cells.injEq] at h'
  exact h'.1
theorem RowOf.one {w : World} {A : Nat} {k k' : Int} {fr fr' : ByteArray} {xs xs' : List Value} (h : RowOf w A k fr xs) (h' : RowOf w A k' fr' xs') : k = k' ∧ fr = fr' ∧ xs = xs' := by
  obtain ⟨r, n, cap, cs, h1, -, -, h2, rfl, -⟩ := h
  obtain ⟨r', n', cap', cs', h1', -, -, h2', rfl, -⟩ := h'
  have e := h1.one h1'
  simp only [Array.mk.injEq, List.cons.injEq, Value.int.injEq, Value.string.injEq, Value.slice.injEq, Option.some.injEq, Addr.mk.injEq, true_and, and_true] at e
  obtain ⟨e1, e2, e3, e4, e5⟩ := e
  subst e1 e2 e3 e4 e5
  have e := h2.one h2'
  subst e
  exact ⟨rfl, rfl, rfl⟩

/-- The value behind a label. -/
def valF : List Value → List UInt8 → Option Value
  | .string lab :: v :: ys, l => if lab.toList = l then some v else valF ys l
  | _, _ => none
theorem br_row {w : World} {bs : List Nat} : ∀ (f : F) (xs : List Value) (l : List UInt8), RepF w bs f xs → (brF f l = none ∧ valF xs l = none) ∨ ∃ u v, brF f l = some u ∧ valF xs l = some v ∧ Rep w bs v u
  | .nil, xs, l, h => by
    have e : xs = [] := h
    subst e
    exact Or.inl ⟨rfl, rfl⟩
  | .cons lab k fr ix kids rest, xs, l, h => by
    obtain ⟨v, ys, rfl, h1, h2⟩ := h
    unfold brF valF
    by_cases e : lab.toList = l
    · rw [if_pos e, if_pos e]
      exact Or.inr ⟨_, _, rfl, rfl, h1⟩
    · rw [if_neg e, if_neg e]
      exact br_row rest ys l h2
theorem RepF.br {w : World} {bs : List Nat} {f : F} {xs : List Value} (h : RepF w bs f xs) (l : List UInt8) : (brF f l = none ∧ valF xs l = none) ∨ ∃ u v, brF f l = some u ∧ valF xs l = some v ∧ Rep w bs v u := br_row f xs l h
theorem rep_some {w : World} {bs bs' : List Nat} {f f' : F} {xs : List Value} {l : List UInt8} (h : RepF w bs f xs) (h' : RepF w bs' f' xs) : (brF f l).isSome = (brF f' l).isSome := by
  rcases h.br l with ⟨e1, e2⟩ | ⟨u, v, e1, e2, -⟩ <;> rcases h'.br l with ⟨e3, e4⟩ | ⟨u', v', e3, e4, -⟩ <;> rw [e1, e3]
  · rw [e2] at e4; cases e4
  · rw [e2] at e4; cases e4
  · rfl
theorem subsF_same {w : World} {bs bs' cs cs' : List Nat} {f f' g g' : F} {xs ys : List Value} (h : RepF w bs f xs) (h' : RepF w bs' f' xs) (q : RepF w cs g ys) (q' : RepF w cs' g' ys) : subsF f g = subsF f' g' := by
  have e : subsF f g = true ↔ subsF f' g' = true := by
    rw [subsF_iff, subsF_iff]
    constructor
    · intro H l hl
      rw [← rep_some q q']
      exact H l (by rw [rep_some h h']; exact hl)
    · intro H l hl
      rw [rep_some q q']
      exact H l (by rw [← rep_some h h']; exact hl)
  cases h1 : subsF f g <;> cases h2 : subsF f' g' <;> simp [h1, h2] at e ⊢
theorem fitB_same {w : World} {bs bs' cs cs' : List Nat} {A B : Nat} {x x' y y' : Nd} (sub : Bool) (h : Act w bs A x) (h' : Act w bs' A x') (q : Act w cs B y) (q' : Act w cs' B y') : fitB sub x y = fitB sub x' y' := by
  obtain ⟨-, xs, r1, f1⟩ := h
  obtain ⟨-, xs', r1', f1'⟩ := h'
  obtain ⟨-, ys, r2, f2⟩ := q
  obtain ⟨-, ys', r2', f2'⟩ := q'
  obtain ⟨e1, e2, rfl⟩ := r1.one r1'
  obtain ⟨e3, e4, rfl⟩ := r2.one r2'
  unfold fitB
  rw [e1, e2, e3, e4, subsF_same f1 f1' f2 f2', subsF_same f2 f2' f1 f1']

/-- The copies of the nodes of a linked row. -/
theorem rep_row {w : World} {bs : List Nat} {es : List (Nat × Nd)} (he : EnvL w es) (heb : EnvB w bs es) : ∀ (f : F) (xs : List Value) (ks : List Nat), Lk w f (blks es) xs ks → (∀ x, x ∈ ks → x ∈ bs) → wF f (es.length : Int) 0 = true → RepF w bs (cpF (lvals es) f) xs
  | .nil, xs, ks, h, _, _ => by
    rw [cpF]
    exact h.1
  | .cons lab k fr ix kids rest, xs, _, h, hsub, hw => by
    obtain ⟨v, ys, ks, rs, rfl, rfl, hn, hr⟩ := h
    simp only [wF, Bool.and_eq_true] at hw
    rw [cpF_cons]
    refine ⟨v, ys, rfl, ⟨es, ⟨k, fr, ix, kids⟩, ks, hn, fun x hx => hsub x (List.mem_append_left _ hx), he, heb, rfl, ?_⟩, rep_row he heb rest ys rs hr (fun x hx => hsub x (List.mem_append_right _ hx)) hw.2⟩
    unfold wN
    simp only [Bool.and_eq_true]
    exact hw.1

theorem linked_rec2 {w0 : World} {fr lab fr' : ByteArray} {ix k' ix' : Int} {kids' : F} {ps ks : List Nat} {v : Value} (h : LkN w0 4 fr ix (.cons lab k' fr' ix' kids' .nil) ps v ks) :
    ∃ L T x ks', v = .iface ( /- t -/ 56) (.pointer (some ⟨L, 0, none⟩)) ∧ Blk w0 L #[.iface T x] ∧ L ∉ ps ∧ LkN w0 k' fr' ix' kids' (ps ++ [L]) (.iface T x) ks' ∧ ∀ x, x ∈ ks' → x ∈ ks := by
  rcases h with ⟨h, -⟩ | ⟨h, -⟩ | ⟨-, L, s, u, ks', rfl, hb, hL, rfl, v', ys, k1, rs, e1, e2, hn, hr⟩ | ⟨h, -⟩
  · exact absurd h (by decide)
  · exact absurd h (by decide)
  · injection e1 with _ e1
    injection e1 with e1 _
    subst e1
    have hln : LkN w0 k' fr' ix' kids' (ps ++ [L]) u k1 := hn
    obtain ⟨T, x, rfl⟩ := hln.val
    exact ⟨L, T, x, k1, rfl, hb, hL, hln, fun x hx => List.mem_cons_of_mem _ (by rw [e2]; exact List.mem_append_left _ hx)⟩
  · rcases h with h | h <;> exact absurd h (by decide)
theorem linked_act2 {w0 : World} {k ix : Int} {fr : ByteArray} {kids : F} {ps ks : List Nat} {v : Value} (hk : k = 2 ∨ k = 3) (h : LkN w0 k fr ix kids ps v ks) :
    ∃ A r cap cs xs ks', v = .iface ( /- t -/ 40) (.pointer (some ⟨A, 0, none⟩)) ∧ Blk w0 A #[.int .i64 k, .string fr, .slice (some ⟨r, 0, none⟩) kids.len cap] ∧ kids.len ≤ cap ∧ cap ≤ maxLen ∧ Blk w0 r cs ∧ cs.toList.take (kids.len * 2) = xs ∧ Lk w0 kids ps xs ks' ∧ (∀ x, x ∈ ks' → x ∈ ks) ∧ A ∈ ks := by
  rcases h with ⟨h, -⟩ | ⟨h, -⟩ | ⟨h, -⟩ | ⟨-, A, r, cap, cs, xs, ks', h1, h2, h3, h4, h5, h6, h7, h8⟩
  · omega
  · omega
  · omega
  · exact ⟨A, r, cap, cs, xs, ks', h1, h2, h3, h4, h5, h6, h8, fun x hx => by rw [h7]; simp [hx], by rw [h7]; simp⟩
/-- How many blocks a linked tree has. -/
theorem Lk.blen {w : World} : ∀ (f : F) (ps : List Nat) (xs : List Value) (bs : List Nat), Lk w f ps xs bs → bs.length ≤ 2 * f.sz := by
  intro f
  induction f with
  | nil => intro ps xs bs h; rw [h.2]; simp
  | cons lab k fr ix kids rest ihk ihr =>
    intro ps xs bs h
    obtain ⟨v, ys, ks, rs, e1, rfl, hn, hr⟩ := h
    have h2 := ihr _ _ _ hr
    have h1 : ks.length ≤ 2 * kids.sz + 2 := by
      rcases hn with ⟨-, -, rfl⟩ | ⟨-, -, rfl⟩ | ⟨h1, b', s, u, ks', h2, h3, h4, rfl, h6⟩ | ⟨h1, b', r, cap, cs, xs, ks', h2, h3, h4, h5, h6, h7, rfl, h9⟩
      · simp
      · simp
      · have := ihk _ _ _ h6
        simp only [List.length_cons]
        omega
      · have := ihk _ _ _ h9
        simp only [List.length_cons]
        omega
    rw [List.length_append]
    simp only [F.sz]
    omega
theorem LkN.blen {w : World} {k : Int} {fr : ByteArray} {ix : Int} {kids : F} {ps : List Nat} {v : Value} {bs : List Nat} (h : LkN w k fr ix kids ps v bs) : bs.length ≤ 2 * (kids.sz + 1) := by
  have := Lk.blen (.cons ⟨#[]⟩ k fr ix kids .nil) ps [.string ⟨#[]⟩, v] bs ⟨v, [], bs, [], rfl, by simp, h, rfl, rfl⟩
  simp only [F.sz] at this
  omega

/-- What a linked value is, kind by kind. -/
theorem Rep.cases {w : World} {bs : List Nat} {v : Value} {T : Nd} (h : Rep w bs v T) :
    (T.k = 1 ∧ T.kids = .nil ∧ v = .iface ( /- t -/ 85) (.agg #[])) ∨
    (∃ b, v = .iface ( /- t -/ 60) (.agg #[.pointer (some ⟨b, 0, none⟩)]) ∧ Rep w bs (.iface ( /- t -/ 56) (.pointer (some ⟨b, 0, none⟩))) T) ∨
    (∃ L U x, v = .iface ( /- t -/ 56) (.pointer (some ⟨L, 0, none⟩)) ∧ T.k = 4 ∧ Blk w L #[.iface U x] ∧ Rep w bs (.iface U x) (once T)) ∨
    (∃ A, v = .iface ( /- t -/ 40) (.pointer (some ⟨A, 0, none⟩)) ∧ (T.k = 2 ∨ T.k = 3) ∧ Act w bs A T) := by
  obtain ⟨es, N, ks, hl, hsub, he, heb, rfl, hw⟩ := h
  have hva := EnvL.va es he
  have hwl : wN N ((lvals es).length : Int) 0 = true := by rw [lvals_len]; exact hw
  rcases id hl with ⟨h1, rfl, -⟩ | ⟨h5, -⟩ | ⟨h4, -⟩ | ⟨h2, -⟩
  · left
    have hn : N.kids = .nil := by
      have := hw
      unfold wN at this
      simp only [Bool.and_eq_true] at this
      exact shape_leaf this.1 (by omega) (by omega)
    rw [cpN_k (by omega)]
    refine ⟨h1, ?_, rfl⟩
    simp only [hn, cpF]
  · right; left
    have hl2 := hl
    rw [h5] at hl2
    obtain ⟨p, b, g, t, rfl, hix, rfl⟩ := linked_var hl2
    obtain ⟨g4, gw, -, gb, gt⟩ := EnvL.suffix p _ he
    obtain ⟨⟨gk, gl, gsub⟩, gtb⟩ := EnvB.suffix p _ heb
    have e : cpN (lvals (p ++ (b, g) :: t)) N = cpN (lvals t) g := by
      have := lenv_out 0 p b g t (by omega)
      unfold lenv at this
      unfold cpN
      rw [if_pos h5, hix, Int.toNat_natCast, this]
      rfl
    exact ⟨b, rfl, t, g, gk, gl, gsub, gt, gtb, e.symm, gw⟩
  · right; right; left
    obtain ⟨lab, k, fr, ix, kids, e, hw2⟩ := rec_kid hw h4
    have hl2 := hl
    rw [h4, e] at hl2
    obtain ⟨L, U, x, ks2, hv, hbL, hLp, hln, hk2⟩ := linked_rec2 hl2
    refine ⟨L, U, x, hv, ?_, hbL, (L, N) :: es, ⟨k, fr, ix, kids⟩, ks2, by rw [blks_cons]; exact hln, fun x hx => hsub x (hk2 x hx), ?_, ?_, ?_, ?_⟩
    · rw [cpN_k (by omega)]; exact h4
    · rw [hv] at hl
      exact ⟨h4, hw, ⟨ks, hl⟩, hLp, he⟩
    · rw [hv] at hl
      exact ⟨⟨ks, hl, hsub⟩, heb⟩
    · rw [once_cp hva h4 e hwl]
      rfl
    · rw [show ((((L, N) :: es).length : Nat) : Int) = (es.length : Int) + 1 by simp]
      exact wN_u _ _ _ 0 hw2 (by omega)
  · right; right; right
    obtain ⟨A, r, cap, cs, xs, ks', rfl, hA, hc1, hc2, hr, hx, hlk, hk2, hAk⟩ := linked_act2 h2 hl
    have hk : cpN (lvals es) N = ⟨N.k, N.fr, N.ix, cpF (lvals es) N.kids⟩ := by
      rw [cpN_k (by omega), if_neg (by omega)]
    have hwf : wF N.kids (es.length : Int) 0 = true := by
      have := hw
      unfold wN at this
      simp only [Bool.and_eq_true] at this
      have := this.2
      rw [if_neg (by omega), if_neg (by omega), if_pos h2] at this
      exact this
    rw [hk]
    exact ⟨A, rfl, h2, hsub A hAk, xs, ⟨r, _, cap, cs, hA, hc1, hc2, hr, hx, hlk.length⟩, rep_row he heb _ _ _ hlk (fun x hx => hsub x (hk2 x hx)) hwf⟩

/-- What a value unfolds to, as the memory says: nothing more, or an action. -/
inductive UnfTo (w : World) : Value → Option Nat → Prop
  | fin : UnfTo w (.iface ( /- t -/ 85) (.agg #[])) none
  | act (A : Nat) : UnfTo w (.iface ( /- t -/ 40) (.pointer (some ⟨A, 0, none⟩))) (some A)
  | var (b : Nat) (r : Option Nat) (h : UnfTo w (.iface ( /- t -/ 56) (.pointer (some ⟨b, 0, none⟩))) r) : UnfTo w (.iface ( /- t -/ 60) (.agg #[.pointer (some ⟨b, 0, none⟩)])) r
  | loop (L : Nat) (U : TypeId) (x : Value) (r : Option Nat) (hb : Blk w L #[.iface U x]) (h : UnfTo w (.iface U x) r) : UnfTo w (.iface ( /- t -/ 56) (.pointer (some ⟨L, 0, none⟩))) r

/-- What a value unfolds to stands for the unfolded tree. -/
theorem UnfTo.rep {w : World} {bs : List Nat} {v : Value} {r : Option Nat} (h : UnfTo w v r) : ∀ T, Rep w bs v T → (r = none ∧ (unf T).k = 1 ∧ (unf T).kids = .nil) ∨ ∃ A, r = some A ∧ ((unf T).k = 2 ∨ (unf T).k = 3) ∧ Act w bs A (unf T) := by
  induction h with
  | fin =>
    intro T hT
    have hw := hT.w
    rcases hT.cases with ⟨h1, h2, -⟩ | ⟨b, e, -⟩ | ⟨L, U, x, e, -⟩ | ⟨A, e, -⟩
    · left
      rw [unf_stop hw (by omega)]
      exact ⟨rfl, h1, h2⟩
    · injection e with e; exact absurd e (by decide)
    · injection e with e; exact absurd e (by decide)
    · injection e with e; exact absurd e (by decide)
  | act A =>
    intro T hT
    have hw := hT.w
    rcases hT.cases with ⟨-, -, e⟩ | ⟨b, e, -⟩ | ⟨L, U, x, e, -⟩ | ⟨A', e, h2, h3⟩
    · injection e with e; exact absurd e (by decide)
    · injection e with e; exact absurd e (by decide)
    · injection e with e; exact absurd e (by decide)
    · right
      simp only [Value.iface.injEq, Value.pointer.injEq, Option.some.injEq, Addr.mk.injEq, and_true, true_and] at e
      subst e
      rw [unf_stop hw (by omega)]
      exact ⟨A, rfl, h2, h3⟩
  | var b r h ih =>
    intro T hT
    rcases hT.cases with ⟨-, -, e⟩ | ⟨b', e, h2⟩ | ⟨L, U, x, e, -⟩ | ⟨A', e, h2, h3⟩
    · injection e with e; exact absurd e (by decide)
    · simp only [Value.iface.injEq, Value.agg.injEq, Array.mk.injEq, List.cons.injEq, Value.pointer.injEq, Option.some.injEq, Addr.mk.injEq, and_true, true_and] at e
      subst e
      exact ih T h2
    · injection e with e; exact absurd e (by decide)
    · injection e with e; exact absurd e (by decide)
  | loop L U x r hb h ih =>
    intro T hT
    have hw := hT.w
    rcases hT.cases with ⟨-, -, e⟩ | ⟨b', e, h2⟩ | ⟨L', U', x', e, h4, hb', h2⟩ | ⟨A', e, h2, h3⟩
    · injection e with e; exact absurd e (by decide)
    · injection e with e; exact absurd e (by decide)
    · simp only [Value.iface.injEq, Value.pointer.injEq, Option.some.injEq, Addr.mk.injEq, and_true, true_and] at e
      subst e
      have e2 := hb.one hb'
      simp only [Array.mk.injEq, List.cons.injEq, Value.iface.injEq, and_true] at e2
      obtain ⟨rfl, rfl⟩ := e2
      rw [unf_rec hw h4]
      exact ih _ h2
    · injection e with e; exact absurd e (by decide)

/-- A linked value unfolds to something, in at most 2 * m + 1 steps. -/
theorem Rep.unfTo {w : World} {bs : List Nat} : ∀ (m : Nat) (v : Value) (T : Nd), Rep w bs v T → (iter m T).k ≠ 4 → ∃ r, UnfTo w v r
  | m, v, T, h, hm => by
    have hw := h.w
    rcases h.cases with ⟨h1, h2, rfl⟩ | ⟨b, rfl, h2⟩ | ⟨L, U, x, rfl, h4, hb, h2⟩ | ⟨A, rfl, -⟩
    · exact ⟨_, .fin⟩
    · rcases h2.cases with ⟨-, -, e⟩ | ⟨b', e, -⟩ | ⟨L, U, x, e, h4, hb, h3⟩ | ⟨A, e, -⟩
      · injection e with e; exact absurd e (by decide)
      · injection e with e; exact absurd e (by decide)
      · cases m with
        | zero => exact absurd h4 hm
        | succ m =>
          unfold iter at hm
          rw [if_pos h4] at hm
          obtain ⟨r, hr⟩ := Rep.unfTo m _ _ h3 hm
          simp only [Value.iface.injEq, Value.pointer.injEq, Option.some.injEq, Addr.mk.injEq, and_true, true_and] at e
          subst e
          exact ⟨r, .var _ r (.loop _ U x r hb hr)⟩
      · injection e with e; exact absurd e (by decide)
    · cases m with
      | zero => exact absurd h4 hm
      | succ m =>
        unfold iter at hm
        rw [if_pos h4] at hm
        obtain ⟨r, hr⟩ := Rep.unfTo m _ _ h2 hm
        exact ⟨r, .loop L U x r hb hr⟩
    · exact ⟨_, .act A⟩
end Go.Proofs.Ytpjbffggeegdaaa.Lo

/- The comparison of two linked types by a list of pairs: what holds between its rounds. -/
namespace Go.Proofs.Ytpjbffggeegdaaa.Lo
open Go.RowKit

/-! ### Labels ascend, so each names one branch -/
theorem blt_trans : ∀ a b c : List UInt8, Op.bytesLess a b = true → Op.bytesLess b c = true → Op.bytesLess a c = true
  | _, [], _, h, _ => by cases ‹List UInt8› <;> simp [Op.bytesLess] at h
  | [], _ :: _, [], _, h => by simp [Op.bytesLess] at h
  | [], _ :: _, _ :: _, _, _ => by simp [Op.bytesLess]
  | _ :: _, _ :: _, [], _, h => by simp [Op.bytesLess] at h
  | x :: a, y :: b, z :: c, h1, h2 => by
    simp only [Op.bytesLess] at h1 h2 ⊢
    have ih := blt_trans a b c
    have ex : ∀ u v : UInt8, u < v ↔ u.toNat < v.toNat := fun u v => UInt8.lt_iff_toNat_lt
    have ey : ∀ u v : UInt8, u = v ↔ u.toNat = v.toNat := fun u v => ⟨fun h => by rw [h], fun h => UInt8.toNat_inj.1 h⟩
    simp only [Bool.or_eq_true, Bool.and_eq_true, decide_eq_true_eq, beq_iff_eq, ex, ey] at h1 h2 ⊢
    rcases h1 with h1 | ⟨h1, h1'⟩ <;> rcases h2 with h2 | ⟨h2, h2'⟩
    · exact Or.inl (by omega)
    · exact Or.inl (by omega)
    · exact Or.inl (by omega)
    · exact Or.inr ⟨by omega, ih h1' h2'⟩
theorem blt_irrefl : ∀ a : List UInt8, Op.bytesLess a a = false
  | [] => rfl
  | x :: a => by
    simp only [Op.bytesLess, blt_irrefl a]
    simp
theorem asc_br : ∀ (f : F) (q : ByteArray) (l : List UInt8), ascB (some q) f = true → (brF f l).isSome = true → Op.bytesLess q.toList l = true
  | .nil, _, _, _, h => by simp [brF] at h
  | .cons lab k fr ix kids rest, q, l, ha, h => by
    simp only [ascB, Bool.and_eq_true] at ha
    obtain ⟨⟨-, h1⟩, h2⟩ := ha
    unfold brF at h
    split at h
    · rename_i e
      rw [← e]; exact h1
    · exact blt_trans _ _ _ h1 (asc_br rest lab l h2 h)

/-- The pairs that follow the labels that both rows have. -/
def pairsF : List Value → List Value → List (Value × Value)
  | .string lab :: v :: rest, ys => (match valF ys lab.toList with | some v' => [(v, v')] | none => []) ++ pairsF rest ys
  | _, _ => []
theorem pairs_in : ∀ (xs ys : List Value) (l : List UInt8) (v v' : Value), valF xs l = some v → valF ys l = some v' → (v, v') ∈ pairsF xs ys
  | [], ys, l, v, v', h, _ => by simp [valF] at h
  | [x], ys, l, v, v', h, _ => by cases x <;> simp [valF] at h
  | x :: u :: rest, ys, l, v, v', h, h' => by
    cases x with
    | string lab =>
      unfold valF at h
      unfold pairsF
      by_cases e : lab.toList = l
      · rw [if_pos e] at h
        cases h
        rw [e, h']
        simp
      · rw [if_neg e] at h
        exact List.mem_append_right _ (pairs_in rest ys l v v' h h')
    | _ => simp [valF] at h
theorem pairs_br {w : World} {bs : List Nat} : ∀ (f : F) (xs ys : List Value) (q : Option ByteArray), RepF w bs f xs → ascB q f = true → ∀ v v', (v, v') ∈ pairsF xs ys → ∃ l u, brF f l = some u ∧ Rep w bs v u ∧ valF ys l = some v'
  | .nil, xs, ys, _, h, _, v, v', hm => by
    have e : xs = [] := h
    subst e
    simp [pairsF] at hm
  | .cons lab k fr ix kids rest, xs, ys, q, h, ha, v, v', hm => by
    obtain ⟨u, zs, rfl, h1, h2⟩ := h
    simp only [ascB, Bool.and_eq_true] at ha
    unfold pairsF at hm
    rcases List.mem_append.1 hm with hm | hm
    · cases hv : valF ys lab.toList with
      | none => rw [hv] at hm; simp at hm
      | some x =>
        rw [hv] at hm
        simp only [List.mem_singleton, Prod.mk.injEq] at hm
        obtain ⟨rfl, rfl⟩ := hm
        exact ⟨lab.toList, _, by unfold brF; rw [if_pos rfl], h1, hv⟩
    · obtain ⟨l, t, e1, e2, e3⟩ := pairs_br rest zs ys (some lab) h2 ha.2 v v' hm
      refine ⟨l, t, ?_, e2, e3⟩
      unfold brF
      rw [if_neg]
      · exact e1
      · rintro rfl
        have := asc_br rest lab _ ha.2 (by rw [e1]; rfl)
        rw [blt_irrefl] at this
        cases this
theorem pairs_len : ∀ (n : Nat) (xs ys : List Value), xs.length ≤ n * 2 → (pairsF xs ys).length ≤ n
  | n, [], ys, _ => by simp [pairsF]
  | n, [x], ys, _ => by cases x <;> simp [pairsF]
  | n, x :: u :: rest, ys, h => by
    cases n with
    | zero => simp at h
    | succ n =>
      have := pairs_len n rest ys (by simp only [List.length_cons] at h; omega)
      cases x with
      | string lab =>
        unfold pairsF
        rw [List.length_append]
        split <;> simp <;> omega
      | _ => simp [pairsF]

/-! ### The pairs -/

/-- A pair of values is settled: it waits, both are finished, or the pair of their actions was seen. -/
def Fine (w : World) (W : List (Value × Value)) (S : List (Nat × Nat)) (v v' : Value) : Prop :=
  (v, v') ∈ W ∨ (UnfTo w v none ∧ UnfTo w v' none) ∨ ∃ A B, UnfTo w v (some A) ∧ UnfTo w v' (some B) ∧ (A, B) ∈ S
/-- A pair of actions that was seen fits, and what follows is settled. -/
def Done (sub : Bool) (w : World) (ks bs : List Nat) (W : List (Value × Value)) (S : List (Nat × Nat)) (e : Nat × Nat) : Prop :=
  ∃ (x y : Nd) (xs ys : List Value), e.1 ∈ ks ∧ e.2 ∈ bs ∧ RowOf w e.1 x.k x.fr xs ∧ RepF w ks x.kids xs ∧ RowOf w e.2 y.k y.fr ys ∧ RepF w bs y.kids ys ∧ fitB sub x y = true ∧
    ∀ l v v', valF xs l = some v → valF ys l = some v' → Fine w W S v v'

theorem Fine.mono {w : World} {W W' : List (Value × Value)} {S S' : List (Nat × Nat)} {v v' : Value} (h : Fine w W S v v') (hW : ∀ p, p ∈ W → Fine w W' S' p.1 p.2) (hS : ∀ e, e ∈ S → e ∈ S') : Fine w W' S' v v' := by
  rcases h with h | h | ⟨A, B, h1, h2, h3⟩
  · exact hW _ h
  · exact Or.inr (Or.inl h)
  · exact Or.inr (Or.inr ⟨A, B, h1, h2, hS _ h3⟩)
theorem Done.mono {sub : Bool} {w : World} {ks bs : List Nat} {W W' : List (Value × Value)} {S S' : List (Nat × Nat)} {e : Nat × Nat} (h : Done sub w ks bs W S e) (hW : ∀ p, p ∈ W → Fine w W' S' p.1 p.2) (hS : ∀ e, e ∈ S → e ∈ S') : Done sub w ks bs W' S' e := by
  obtain ⟨x, y, xs, ys, h1, h2, h3, h4, h5, h6, h7, h8⟩ := h
  exact ⟨x, y, xs, ys, h1, h2, h3, h4, h5, h6, h7, fun l v v' hv hv' => (h8 l v v' hv hv').mono hW hS⟩

/-- If nothing waits, settled pairs are alike. -/
theorem fine_sim {sub : Bool} {w : World} {ks bs : List Nat} {S : List (Nat × Nat)} (hS : ∀ e, e ∈ S → Done sub w ks bs [] S e) : ∀ (n : Nat) (v v' : Value) (T T' : Nd), Rep w ks v T → Rep w bs v' T' → Fine w [] S v v' → Sim sub n T T'
  | 0, _, _, _, _, _, _, _ => trivial
  | n + 1, v, v', T, T', hT, hT', hf => by
    rcases hf with h | ⟨h1, h2⟩ | ⟨A, B, h1, h2, h3⟩
    · simp at h
    · rcases h1.rep T hT with ⟨-, k1, q1⟩ | ⟨_, e, -⟩
      · rcases h2.rep T' hT' with ⟨-, k2, q2⟩ | ⟨_, e, -⟩
        · refine ⟨?_, fun l u u' hu _ => ?_⟩
          · rw [fitB_iff]
            have w1 := unf_w hT.w
            have w2 := unf_w hT'.w
            unfold wN at w1 w2
            simp only [Bool.and_eq_true] at w1 w2
            rw [k1] at w1
            rw [k2] at w2
            refine ⟨by rw [k1, k2], by rw [(shape_end w1.1).1, (shape_end w2.1).1], ?_⟩
            rw [q1, q2]
            simp [subsF]
          · rw [q1] at hu
            simp [brF] at hu
        · cases e
      · cases e
    · rcases h1.rep T hT with ⟨e, -⟩ | ⟨A', e, hk1, -, xs0, r1, f1⟩
      · cases e
      · cases e
        rcases h2.rep T' hT' with ⟨e, -⟩ | ⟨B', e, hk2, -, ys0, r2, f2⟩
        · cases e
        · cases e
          obtain ⟨x, y, xs, ys, m1, m2, r3, f3, r4, f4, hfit, hnext⟩ := hS _ h3
          have hfb := fitB_same sub (w := w) (bs := ks) (bs' := ks) (cs := bs) (cs' := bs) (A := A) (B := B) (x := x) (x' := unf T) (y := y) (y' := unf T') ⟨m1, xs, r3, f3⟩ ⟨m1, xs0, r1, f1⟩ ⟨m2, ys, r4, f4⟩ ⟨m2, ys0, r2, f2⟩
          obtain ⟨-, -, rfl⟩ := r1.one r3
          obtain ⟨-, -, rfl⟩ := r2.one r4
          refine ⟨by rw [← hfb]; exact hfit, fun l u u' hu hu' => ?_⟩
          rcases f1.br l with ⟨e1, -⟩ | ⟨u0, p, e1, e2, e3⟩
          · rw [hu] at e1; cases e1
          · rw [hu] at e1; cases e1
            rcases f2.br l with ⟨e4, -⟩ | ⟨u1, p', e4, e5, e6⟩
            · rw [hu'] at e4; cases e4
            · rw [hu'] at e4; cases e4
              exact fine_sim hS n p p' _ _ e3 e6 (hnext l p p' e2 e5)

/-- What holds between two rounds of the comparison. -/
structure Cmp (sub : Bool) (w : World) (ks bs : List Nat) (va vb : Value) (root : Bool) (W : List (Value × Value)) (S : List (Nat × Nat)) : Prop where
  need : root = true → ∀ p, p ∈ W → ∃ T T', Rep w ks p.1 T ∧ Rep w bs p.2 T' ∧ Like sub T T'
  reps : ∀ p, p ∈ W → (∃ T, Rep w ks p.1 T) ∧ ∃ T, Rep w bs p.2 T
  seen : ∀ e, e ∈ S → Done sub w ks bs W S e
  start : Fine w W S va vb
  nodup : S.Nodup

theorem Cmp.begin {sub : Bool} {w : World} {ks bs : List Nat} {va vb : Value} {a b : Nd} (ha : Rep w ks va a) (hb : Rep w bs vb b) : Cmp sub w ks bs va vb (alikeB sub a b) [(va, vb)] [] where
  need h p hp := by
    rw [List.mem_singleton] at hp
    subst hp
    exact ⟨a, b, ha, hb, (alikeB_iff _ _ _).1 h⟩
  reps p hp := by
    rw [List.mem_singleton] at hp
    subst hp
    exact ⟨⟨a, ha⟩, ⟨b, hb⟩⟩
  seen e he := by simp at he
  start := Or.inl (by simp)
  nodup := List.nodup_nil
theorem Cmp.done {sub : Bool} {w : World} {ks bs : List Nat} {va vb : Value} {a b : Nd} {S : List (Nat × Nat)} (h : Cmp sub w ks bs va vb (alikeB sub a b) [] S) (ha : Rep w ks va a) (hb : Rep w bs vb b) : alikeB sub a b = true :=
  (alikeB_iff _ _ _).2 fun n => fine_sim h.seen n va vb a b ha hb h.start

section
variable {sub root : Bool} {w : World} {ks bs : List Nat} {va vb v v' : Value} {W : List (Value × Value)} {S : List (Nat × Nat)}

/-- The last pair is settled already. -/
theorem Cmp.pop (h : Cmp sub w ks bs va vb root (W ++ [(v, v')]) S) (hf : Fine w W S v v') : Cmp sub w ks bs va vb root W S := by
  have hW : ∀ p, p ∈ W ++ [(v, v')] → Fine w W S p.1 p.2 := fun p hp => by
    rcases List.mem_append.1 hp with hp | hp
    · exact Or.inl hp
    · rw [List.mem_singleton] at hp
      subst hp
      exact hf
  exact ⟨fun hr p hp => h.need hr p (by simp [hp]), fun p hp => h.reps p (by simp [hp]), fun e he => (h.seen e he).mono hW (fun _ h => h), h.start.mono hW (fun _ h => h), h.nodup⟩

/-- The last pair's roots do not fit. -/
theorem Cmp.no (h : Cmp sub w ks bs va vb root (W ++ [(v, v')]) S) (hf : ∀ T T', Rep w ks v T → Rep w bs v' T' → fitB sub (unf T) (unf T') = false) : root = false := by
  cases hr : root with
  | false => rfl
  | true =>
    obtain ⟨T, T', h1, h2, h3⟩ := h.need hr (v, v') (by simp)
    have := (Like.step.1 h3).1
    rw [hf T T' h1 h2] at this
    cases this

/-- The last pair's roots fit: what follows their common labels waits. -/
theorem Cmp.push {A B : Nat} {xs ys : List Value} {x y : Nd} (h : Cmp sub w ks bs va vb root (W ++ [(v, v')]) S) (hv : UnfTo w v (some A)) (hv' : UnfTo w v' (some B)) (hn : (A, B) ∉ S) (hA : A ∈ ks) (hB : B ∈ bs)
    (r1 : RowOf w A x.k x.fr xs) (f1 : RepF w ks x.kids xs) (r2 : RowOf w B y.k y.fr ys) (f2 : RepF w bs y.kids ys) (hfit : fitB sub x y = true) :
    Cmp sub w ks bs va vb root (W ++ pairsF xs ys) (S ++ [(A, B)]) := by
  have hW : ∀ p, p ∈ W ++ [(v, v')] → Fine w (W ++ pairsF xs ys) (S ++ [(A, B)]) p.1 p.2 := fun p hp => by
    rcases List.mem_append.1 hp with hp | hp
    · exact Or.inl (by simp [hp])
    · rw [List.mem_singleton] at hp
      subst hp
      exact Or.inr (Or.inr ⟨A, B, hv, hv', by simp⟩)
  have hS : ∀ e, e ∈ S → e ∈ S ++ [(A, B)] := fun e he => by simp [he]
  obtain ⟨⟨T0, hT0⟩, ⟨T1, hT1⟩⟩ := h.reps (v, v') (by simp)
  have hasc : ∀ {v : Value} {T : Nd} {cs : List Nat} {A : Nat} {zs : List Value}, Rep w cs v T → UnfTo w v (some A) → RepF w cs (unf T).kids zs → ascB none (unf T).kids = true := by
    intro v T cs A zs hT hu _
    have hw := unf_w hT.w
    rcases hu.rep T hT with ⟨e, -⟩ | ⟨A', -, hk, -⟩
    · cases e
    · unfold wN at hw
      simp only [Bool.and_eq_true] at hw
      have := (shape_act hk hw.1).2.2
      unfold branchesB at this
      simp only [Bool.and_eq_true] at this
      exact this.1
  refine ⟨fun hr p hp => ?_, fun p hp => ?_, fun e he => ?_, h.start.mono hW hS, ?_⟩
  · rcases List.mem_append.1 hp with hp | hp
    · exact h.need hr p (by simp [hp])
    · obtain ⟨T, T', h1, h2, h3⟩ := h.need hr (v, v') (by simp)
      simp only at h1 h2
      rcases hv.rep T h1 with ⟨e, -⟩ | ⟨A', e, -, -, xs0, q1, g1⟩
      · cases e
      · cases e
        rcases hv'.rep T' h2 with ⟨e, -⟩ | ⟨B', e, -, -, ys0, q2, g2⟩
        · cases e
        · cases e
          obtain ⟨-, -, rfl⟩ := q1.one r1
          obtain ⟨-, -, rfl⟩ := q2.one r2
          obtain ⟨l, u, e1, e2, e3⟩ := pairs_br _ _ _ none g1 (hasc h1 hv g1) p.1 p.2 hp
          rcases g2.br l with ⟨-, e4⟩ | ⟨u', p', e4, e5, e6⟩
          · rw [e3] at e4; cases e4
          · rw [e3] at e5; cases e5
            exact ⟨u, u', e2, e6, (Like.step.1 h3).2 l u u' e1 e4⟩
  · rcases List.mem_append.1 hp with hp | hp
    · exact h.reps p (by simp [hp])
    · rcases hv.rep T0 hT0 with ⟨e, -⟩ | ⟨A', e, -, -, xs0, q1, g1⟩
      · cases e
      · cases e
        obtain ⟨-, -, rfl⟩ := q1.one r1
        obtain ⟨l, u, e1, e2, e3⟩ := pairs_br _ _ _ none g1 (hasc hT0 hv g1) p.1 p.2 hp
        rcases f2.br l with ⟨-, e4⟩ | ⟨u', p', e4, e5, e6⟩
        · rw [e3] at e4; cases e4
        · rw [e3] at e5; cases e5
          exact ⟨⟨u, e2⟩, ⟨u', e6⟩⟩
  · rcases List.mem_append.1 he with he | he
    · exact (h.seen e he).mono hW hS
    · rw [List.mem_singleton] at he
      subst he
      exact ⟨x, y, xs, ys, hA, hB, r1, f1, r2, f2, hfit, fun l p p' hp hp' => Or.inl (List.mem_append_right _ (pairs_in xs ys l p p' hp hp'))⟩
  · exact List.nodup_append.2 ⟨h.nodup, by simp, fun a ha b hb => by rw [List.mem_singleton] at hb; rintro rfl; rw [hb] at ha; exact hn ha⟩
end

/-! ### How many pairs there are -/
theorem len_nodup {α : Type} [DecidableEq α] : ∀ (S L : List α), S.Nodup → (∀ x, x ∈ S → x ∈ L) → S.length ≤ L.length
  | [], L, _, _ => Nat.zero_le _
  | a :: S, L, hn, hs => by
    rw [List.nodup_cons] at hn
    have ha := hs a (by simp)
    have h := len_nodup S (L.erase a) hn.2 (fun x hx => (List.mem_erase_of_ne (by rintro rfl; exact hn.1 hx)).2 (hs x (by simp [hx])))
    rw [List.length_erase_of_mem ha] at h
    have : 0 < L.length := List.length_pos_of_mem ha
    simp only [List.length_cons]
    omega
def prodL (ks bs : List Nat) : List (Nat × Nat) := ks.flatMap fun a => bs.map fun b => (a, b)
theorem prodL_len : ∀ (ks bs : List Nat), (prodL ks bs).length = ks.length * bs.length
  | [], bs => by simp [prodL]
  | a :: ks, bs => by
    have := prodL_len ks bs
    simp only [prodL] at this ⊢
    simp only [List.flatMap_cons, List.length_append, List.length_map, List.length_cons, this, Nat.succ_mul]
    omega
theorem Cmp.bound {sub root : Bool} {w : World} {ks bs : List Nat} {va vb : Value} {W : List (Value × Value)} {S : List (Nat × Nat)} (h : Cmp sub w ks bs va vb root W S) : S.length ≤ ks.length * bs.length := by
  rw [← prodL_len]
  refine len_nodup S _ h.nodup (fun e he => ?_)
  obtain ⟨x, y, xs, ys, h1, h2, -⟩ := h.seen e he
  exact List.mem_flatMap.2 ⟨e.1, h1, List.mem_map.2 ⟨e.2, h2, rfl⟩⟩
end Go.Proofs.Ytpjbffggeegdaaa.Lo

/- A choice with one label less: a subtype if it is a send, a supertype if it is a receive, and never an equivalent. -/
namespace Go.Proofs.Ytpjbffggeegdaaa.Lo
open Go.RowKit

theorem asc_drop {p : Option ByteArray} {lab : ByteArray} {k : Int} {fr : ByteArray} {ix : Int} {kids rest : F} (h : ascB p (.cons lab k fr ix kids rest) = true) : ascB none rest = true := by
  simp only [ascB, Bool.and_eq_true] at h
  cases rest with
  | nil => rfl
  | cons lab' k' fr' ix' kids' rest' =>
    have h2 := h.2
    simp only [ascB, Bool.and_eq_true] at h2 ⊢
    exact ⟨⟨h2.1.1, trivial⟩, h2.2⟩
theorem bytesLess_irrefl : ∀ l : List UInt8, Op.bytesLess l l = false := by
  intro l
  induction l with
  | nil => rfl
  | cons x l ih => simp [Op.bytesLess, ih]
/-- The first label of a valid choice stands nowhere behind it. -/
theorem asc_first {p : Option ByteArray} {lab : ByteArray} {k : Int} {fr : ByteArray} {ix : Int} {kids rest : F} (h : ascB p (.cons lab k fr ix kids rest) = true) : brF rest lab.toList = none := by
  simp only [ascB, Bool.and_eq_true] at h
  cases hb : brF rest lab.toList with
  | none => rfl
  | some g =>
    have := asc_br rest lab lab.toList h.2 (by rw [hb]; rfl)
    rw [bytesLess_irrefl] at this
    cases this

/-- A choice of two labels or more is valid without its first. -/
theorem okG_less {k : Int} {fr : ByteArray} {ix : Int} {lab : ByteArray} {k1 : Int} {fr1 : ByteArray} {ix1 : Int} {kd rest : F} (hk : k = 2 ∨ k = 3) (hr : 1 ≤ rest.len)
    (h : okG (⟨k, fr, ix, .cons lab k1 fr1 ix1 kd rest⟩ : Nd) = true) : okG (⟨k, fr, ix, rest⟩ : Nd) = true := by
  unfold okG okN vldN nodeB branchesB at h ⊢
  have n1 : k ≠ 1 := by omega
  have n5 : k ≠ 5 := by omega
  have n4 : k ≠ 4 := by omega
  simp only [if_neg n1, if_neg n5, if_neg n4, if_pos hk, Bool.and_eq_true, decide_eq_true_eq] at h ⊢
  obtain ⟨⟨⟨hd, hf⟩, ⟨hro, hasc, hlen⟩, hv⟩, hsz⟩ := h
  simp only [vldF, Bool.and_eq_true] at hv
  refine ⟨⟨⟨hd, hf⟩, ⟨hro, asc_drop hasc, hr, ?_⟩, hv.2⟩, ?_⟩
  · have := hlen.2
    simp only [F.len] at this
    omega
  · simp only [F.sz] at hsz
    omega

/-- What one label less makes of the comparisons; l is a type that unfolds to the choice. -/
theorem less_facts {l u : Nd} {lab : ByteArray} {k1 : Int} {fr1 : ByteArray} {ix1 : Int} {kd rest : F} (hl : okG l = true) (hu : unf l = u) (hU : okG u = true) (hk : u.k = 2 ∨ u.k = 3) (hkids : u.kids = .cons lab k1 fr1 ix1 kd rest) (hr : 1 ≤ rest.len) :
    cmpB (decide (u.k = 2)) (⟨u.k, u.fr, u.ix, rest⟩ : Nd) l = cmpB (decide (u.k = 2)) (⟨u.k, u.fr, u.ix, rest⟩ : Nd) l ∧
    (u.k = 2 → cmpB true (⟨u.k, u.fr, u.ix, rest⟩ : Nd) l = true ∧ cmpB true l (⟨u.k, u.fr, u.ix, rest⟩ : Nd) = false) ∧
    (u.k = 3 → cmpB true l (⟨u.k, u.fr, u.ix, rest⟩ : Nd) = true ∧ cmpB true (⟨u.k, u.fr, u.ix, rest⟩ : Nd) l = false) ∧
    cmpB false l (⟨u.k, u.fr, u.ix, rest⟩ : Nd) = false := by
  have hF : okG (⟨u.k, u.fr, u.ix, rest⟩ : Nd) = true := by
    refine okG_less (lab := lab) (k1 := k1) (fr1 := fr1) (ix1 := ix1) (kd := kd) hk hr ?_
    rw [← hkids]
    exact hU
  have hw := (okG_w hF).1
  have hfu : unf (⟨u.k, u.fr, u.ix, rest⟩ : Nd) = (⟨u.k, u.fr, u.ix, rest⟩ : Nd) := unf_stop hw (by show u.k ≠ 4; omega)
  have hasc : brF rest lab.toList = none := by
    have h := hU
    unfold okG okN vldN nodeB branchesB at h
    have n1 : u.k ≠ 1 := by omega
    have n5 : u.k ≠ 5 := by omega
    have n4 : u.k ≠ 4 := by omega
    simp only [if_neg n1, if_neg n5, if_neg n4, if_pos hk, Bool.and_eq_true, decide_eq_true_eq] at h
    obtain ⟨⟨-, ⟨-, ha, -⟩, -⟩, -⟩ := h
    rw [hkids] at ha
    exact asc_first ha
  -- the longer list has the labels of the shorter, and one more
  have hbr : ∀ t g, brF rest t = some g → brF u.kids t = some g := by
    intro t g h
    rw [hkids]
    simp only [brF]
    by_cases e : lab.toList = t
    · rw [← e, hasc] at h; cases h
    · rw [if_neg e]; exact h
  have hs1 : subsF rest u.kids = true := (subsF_iff _ _).2 fun t ht => by
    obtain ⟨g, hg⟩ := Option.isSome_iff_exists.1 ht
    rw [hbr t g hg]; rfl
  have hs2 : subsF u.kids rest = false := by
    cases h : subsF u.kids rest with
    | false => rfl
    | true =>
      have := (subsF_iff _ _).1 h lab.toList (by rw [hkids]; simp [brF])
      rw [hasc] at this
      cases this
  have hno : ∀ (sub : Bool) (x y : Nd), okG x = true → okG y = true → fitB sub (unf x) (unf y) = false → cmpB sub x y = false := by
    intro sub x y hx hy h
    unfold cmpB
    rw [hx, hy]
    simp only [Bool.true_and]
    cases h2 : alikeB sub x y with
    | false => rfl
    | true =>
      have := (Like.step.1 ((alikeB_iff _ _ _).1 h2)).1
      rw [h] at this
      cases this
  have hyes : ∀ (sub : Bool) (x y : Nd), okG x = true → okG y = true → Like sub x y → cmpB sub x y = true := by
    intro sub x y hx hy h
    unfold cmpB
    rw [hx, hy, (alikeB_iff _ _ _).2 h]
    rfl
  have one : ∀ t a b, brF u.kids t = some a → brF rest t = some b → a = b := by
    intro t a b h1 h2
    rw [hbr t b h2] at h1
    exact (Option.some.inj h1).symm
  refine ⟨rfl, fun h2 => ⟨hyes true _ _ hF hl ?_, hno true _ _ hl hF ?_⟩, fun h3 => ⟨hyes true _ _ hl hF ?_, hno true _ _ hF hl ?_⟩, hno false _ _ hl hF ?_⟩
  · rw [Like.step, hfu, hu]
    refine ⟨?_, fun t a b ha hb => by rw [one t b a hb ha]; exact Like.refl _ _⟩
    unfold fitB
    simp [h2, hs1]
  · rw [hfu, hu]
    unfold fitB
    simp [h2, hs2]
  · rw [Like.step, hfu, hu]
    refine ⟨?_, fun t a b ha hb => by rw [one t a b ha hb]; exact Like.refl _ _⟩
    unfold fitB
    simp [h3, hs1]
  · rw [hfu, hu]
    unfold fitB
    simp [h3, hs2]
  · rw [hfu, hu]
    unfold fitB
    simp [hs2]
end Go.Proofs.Ytpjbffggeegdaaa.Lo

/- The small functions of the comparison of local types: next, covers, the two ways to fit, unfoldLinked from any linked value. -/
namespace Go.Proofs.Ytpjbffggeegdaaa.Lo
open Go.RowKit

theorem RepF.next {w : World} {bs : List Nat} {lab : ByteArray} {k : Int} {fr : ByteArray} {ix : Int} {kids rest : F} {xs : List Value} {r n i : Nat} {cs : Array Value}
    (h : RepF w bs (.cons lab k fr ix kids rest) (xs.drop (i * 2))) (hr : Blk w r cs) (hx : cs.toList.take (n * 2) = xs) :
    ∃ U x, w.cell? ⟨r, i * 2, none⟩ = some (.string lab) ∧ w.cell? ⟨r, i * 2 + 1, none⟩ = some (.iface U x) ∧ Rep w bs (.iface U x) ⟨k, fr, ix, kids⟩ ∧ RepF w bs rest (xs.drop ((i + 1) * 2)) ∧ xs.drop (i * 2) = .string lab :: .iface U x :: xs.drop ((i + 1) * 2) := by
  obtain ⟨v, ys, e, hn, hrest⟩ := h
  obtain ⟨U, x, rfl⟩ := hn.val
  have g : ∀ j, xs[i * 2 + j]? = (Value.string lab :: Value.iface U x :: ys)[j]? := fun j => by rw [← e, List.getElem?_drop]
  have cc : ∀ j v, xs[j]? = some v → w.cell? ⟨r, j, none⟩ = some v := fun j v h => by
    rw [hr.cell j]
    rw [← hx, List.getElem?_take] at h
    split at h
    · simpa using h
    · cases h
  have e2 : xs.drop ((i + 1) * 2) = ys := by
    rw [show (i + 1) * 2 = i * 2 + 2 by omega, ← List.drop_drop, e]
    rfl
  refine ⟨U, x, cc _ _ (g 0), cc _ _ (g 1), hn, by rw [e2]; exact hrest, by rw [e2]; exact e⟩
theorem RepF.len {w : World} {bs : List Nat} : ∀ (f : F) (xs : List Value), RepF w bs f xs → xs.length = f.len * 2
  | .nil, xs, h => by
    have e : xs = [] := h
    subst e
    rfl
  | .cons lab k fr ix kids rest, xs, h => by
    obtain ⟨v, ys, rfl, -, h2⟩ := h
    have := RepF.len rest ys h2
    simp only [List.length_cons, F.len]
    omega

set_option maxHeartbeats 2000000 in
set_option maxRecDepth 100000 in
/-- next of the program: what follows a label, or nil. -/
theorem next_calls (w0 w : World) (bs : List Nat) (A : Nat) (x : Nd) (xs : List Value) (s : ByteArray) (hr : RowOf w0 A x.k x.fr xs) (hf : RepF w0 bs x.kids xs) (hB : Below w0.heap.size w0 w) :
    Calls Try.prog 29 #[.pointer (some ⟨A, 0, none⟩), .string s] w fun e w' => e = .returned ((valF xs s.toList).getD .nilIface) ∧ Below w.heap.size w w' := by
  obtain ⟨r, n, cap, cs, hA, hn1, hn2, hcs, hx, hxl⟩ := hr
  have hk := RepF.len _ _ hf
  have hA1 := hA.below hB
  have a2 : w.cell? ⟨A, 2, none⟩ = some (.slice (some ⟨r, 0, none⟩) n cap) := hA1.cell 2
  have al := hA1.lt
  have hnl : n ≤ 9223372036854775807 := by unfold maxLen at hn2; omega
  have HB := hide hB
  have HCS := hide hcs
  have HX := hide hx
  have HST : Hid (RepF w0 bs x.kids (xs.drop (0 * 2)) ∧ 0 + x.kids.len = n) := hide ⟨by simpa using hf, by omega⟩
  have HXL := hide hxl
  clear hA hn2 hcs hx hxl hA1 hB hf hk
  go_enter Try.func29, Try.ntmps29
  go_wp2_with fail
  go_loopw [12] (fun iv wr => ∃ (g : F) (i : Nat), i + g.len = n ∧ iv = .int .i64 i ∧ RepF w0 bs g (xs.drop (i * 2)) ∧ valF xs s.toList = valF (xs.drop (i * 2)) s.toList ∧ Below w.heap.size w wr) (fun iv _ => n - (intOf iv).toNat)
  case atStart => exact ⟨x.kids, 0, HST.out.2, rfl, HST.out.1, by simp, Below.refl _ _⟩
  case round =>
    obtain ⟨g, i, hi, rfl, hg, hv, hb⟩ := hrel
    clear HST
    cases g with
    | nil =>
      have hge : n ≤ i := by simp [F.len] at hi; omega
      have hnone : (valF xs s.toList).getD .nilIface = .nilIface := by
        rw [hv]
        have e : xs.drop (i * 2) = [] := hg
        rw [e]
        rfl
      have HNO := hide hnone
      clear hi hg hv hnone
      go_wp2_with fail
      go_ret
      exact ⟨by rw [HNO.out]; rfl, hb⟩
    | cons lab k fr ix kids rest =>
      obtain ⟨U, v, q0, q1, hrep, hrest, hdr⟩ := hg.next HCS.out HX.out
      have hlt : i < n := by simp only [F.len] at hi; omega
      have hst := Still.of_below (HB.out.trans (hb.mono HB.out.size))
      have d0 := hst _ _ q0
      have d1 := hst _ _ q1
      have dl := World.block_lt_of_cell? _ _ d0
      have HV := hide (And.intro hi (And.intro hv (And.intro hrest hdr)))
      clear hi hg hv hrep hrest hdr hst q0 q1
      cases hl : (lab.toList == s.toList) with
      | true =>
        have hl3 : lab.toList = s.toList := by simpa using hl
        have hres : (valF xs s.toList).getD .nilIface = .iface U v := by
          rw [HV.out.2.1, HV.out.2.2.2]
          unfold valF
          rw [if_pos hl3]
          rfl
        have HRES := hide hres
        clear hres
        go_wp2_with fail
        go_ret
        exact ⟨by rw [HRES.out]; rfl, hb.alloc hb.size _⟩
      | false =>
        have hl3 : ¬ lab.toList = s.toList := by simpa using hl
        have hres : valF xs s.toList = valF (xs.drop ((i + 1) * 2)) s.toList := by
          rw [HV.out.2.1, HV.out.2.2.2]
          conv => lhs; unfold valF
          rw [if_neg hl3]
        have HRES := hide hres
        clear hres
        go_wp2_with fail
        refine ⟨⟨rest, i + 1, by have := HV.out.1; simp only [F.len] at this; omega, by go_num, HV.out.2.2.1, HRES.out, hb.alloc hb.size _⟩, by simp [intOf]; omega⟩

/-- Whether a row has all the labels of a list. -/
theorem val_some {w : World} {bs : List Nat} {f : F} {xs : List Value} (h : RepF w bs f xs) (l : List UInt8) : (∃ U v, (valF xs l).getD .nilIface = .iface U v ∧ (brF f l).isSome = true) ∨ ((valF xs l).getD .nilIface = .nilIface ∧ (brF f l).isSome = false) := by
  rcases h.br l with ⟨e1, e2⟩ | ⟨u, v, e1, e2, e3⟩
  · right
    rw [e1, e2]
    exact ⟨rfl, rfl⟩
  · left
    obtain ⟨U, y, rfl⟩ := e3.val
    rw [e1, e2]
    exact ⟨U, y, rfl, rfl⟩

set_option maxHeartbeats 2000000 in
set_option maxRecDepth 100000 in
/-- covers of the program: whether x has all the labels of y. -/
theorem covers_calls (w0 w : World) (ks bs : List Nat) (A B : Nat) (x y : Nd) (hx : Act w0 ks A x) (hy : Act w0 bs B y) (hB : Below w0.heap.size w0 w) :
    Calls Try.prog 18 #[.pointer (some ⟨A, 0, none⟩), .pointer (some ⟨B, 0, none⟩)] w fun e w' => e = .returned (.bool (subsF y.kids x.kids)) ∧ Below w.heap.size w w' := by
  obtain ⟨-, xs, hxr, hxf⟩ := hx
  obtain ⟨-, ys, hyr, hyf⟩ := hy
  have HN := hide (fun (w : World) (s : ByteArray) (hB : Below w0.heap.size w0 w) => next_calls w0 w ks A x xs s hxr hxf hB)
  have HXF := hide hxf
  obtain ⟨r, n, cap, cs, hA, hn1, hn2, hcs, hx, hxl⟩ := hyr
  have hk := RepF.len _ _ hyf
  have hA1 := hA.below hB
  have a2 : w.cell? ⟨B, 2, none⟩ = some (.slice (some ⟨r, 0, none⟩) n cap) := hA1.cell 2
  have al := hA1.lt
  have hnl : n ≤ 9223372036854775807 := by unfold maxLen at hn2; omega
  have HB := hide hB
  have HCS := hide hcs
  have HX := hide hx
  have HST : Hid (RepF w0 bs y.kids (ys.drop (0 * 2)) ∧ 0 + y.kids.len = n) := hide ⟨by simpa using hyf, by omega⟩
  clear hA hn2 hcs hx hxl hA1 hB hxf hyf hxr hk
  go_enter Try.func18, Try.ntmps18
  go_wp2_with fail
  go_loopw [12] (fun iv wr => ∃ (g : F) (i : Nat), i + g.len = n ∧ iv = .int .i64 i ∧ RepF w0 bs g (ys.drop (i * 2)) ∧ subsF y.kids x.kids = subsF g x.kids ∧ Below w.heap.size w wr) (fun iv _ => n - (intOf iv).toNat)
  case atStart => exact ⟨y.kids, 0, HST.out.2, rfl, HST.out.1, rfl, Below.refl _ _⟩
  case round =>
    obtain ⟨g, i, hi, rfl, hg, hv, hb⟩ := hrel
    clear HST
    cases g with
    | nil =>
      have hge : n ≤ i := by simp [F.len] at hi; omega
      have HNO := hide hv
      clear hi hg hv
      go_wp2_with fail
      go_ret
      exact ⟨by rw [HNO.out]; rfl, hb⟩
    | cons lab k fr ix kids rest =>
      obtain ⟨U, v, q0, q1, hrep, hrest, hdr⟩ := hg.next HCS.out HX.out
      have hlt : i < n := by simp only [F.len] at hi; omega
      have hbw := HB.out.trans (hb.mono HB.out.size)
      have hst := Still.of_below hbw
      have d0 := hst _ _ q0
      have d1 := hst _ _ q1
      have dl := World.block_lt_of_cell? _ _ d0
      have HV := hide (And.intro hi (And.intro hv hrest))
      have HBW := hide hbw
      clear hi hg hv hrep hrest hdr hst q0 q1 hbw
      go_wp2_with fail
      refine (HN.out _ lab (HBW.out.alloc HBW.out.size _)).mono ?_
      rintro e w2 ⟨rfl, hb2⟩
      have hb3 := hb.trans ((alloc_then hb2).mono hb.size)
      have HB3 := hide hb3
      clear hb2 hb3
      rcases val_some HXF.out lab.toList with ⟨U2, v2, e1, e2⟩ | ⟨e1, e2⟩
      · have hres : subsF y.kids x.kids = subsF rest x.kids := by
          rw [HV.out.2.1]
          conv => lhs; unfold subsF
          rw [e2, Bool.true_and]
        have HRES := hide hres
        rw [e1]
        clear hres e1 e2
        go_wp2_with fail
        refine ⟨⟨rest, i + 1, by have := HV.out.1; simp only [F.len] at this; omega, by go_num, HV.out.2.2, HRES.out, HB3.out⟩, by simp [intOf]; omega⟩
      · have hres : subsF y.kids x.kids = false := by
          rw [HV.out.2.1]
          unfold subsF
          rw [e2, Bool.false_and]
        have HRES := hide hres
        rw [e1]
        clear hres e1 e2
        go_wp2_with fail
        go_ret
        exact ⟨by rw [HRES.out]; rfl, HB3.out⟩

/-- The labels of two roots of one kind and peer, compared ks asked. -/
def labB2 (sub : Bool) (x y : Nd) : Bool := if sub = true then (if x.k = 2 then subsF x.kids y.kids else subsF y.kids x.kids) else subsF x.kids y.kids && subsF y.kids x.kids
theorem fitB_eq (sub : Bool) (x y : Nd) : fitB sub x y = ((x.k == y.k) && ((x.fr.toList == y.fr.toList) && labB2 sub x y)) := rfl

theorem taVarLoop (v : Value) (w : World) : (Instr.typeAssert (.iface ( /- t -/ 60) v) ( /- t -/ 32) ( /- t -/ 56) true).run Try.prog w = .ok (.tuple #[.pointer none, .bool false]) w := by kernel_rfl

/-- 1 at a linked variable. -/
def isVar : Value → Nat
  | .iface t _ => if t = ( /- t -/ 60) then 1 else 0
  | _ => 0
theorem isVar_le (v : Value) : isVar v ≤ 1 := by
  unfold isVar
  split
  · split <;> omega
  · omega

/-- What unfoldLinked gives: nothing more, or an action. -/
def UnfPost (w0 : World) (v : Value) (w : World) (e : Ending) (w' : World) : Prop :=
  Below w.heap.size w w' ∧ ((UnfTo w0 v none ∧ e = .returned (.iface ( /- t -/ 85) (.agg #[]))) ∨ ∃ A, UnfTo w0 v (some A) ∧ e = .returned (.iface ( /- t -/ 40) (.pointer (some ⟨A, 0, none⟩))))

set_option maxHeartbeats 2000000 in
set_option maxRecDepth 100000 in
/-- unfoldLinked of the program, from any linked value. -/
theorem unfV_calls (w0 w : World) (bs : List Nat) (v : Value) (T : Nd) (h : Rep w0 bs v T) (hB : Below w0.heap.size w0 w) :
    Calls Try.prog 13 #[v] w (UnfPost w0 v w) := by
  have hm : (iter (T.kids.sz + 1) T).k ≠ 4 := by
    rw [← unf_iter h.w]
    exact unf_k h.w
  have HST : Hid (∃ (m : Nat) (T' : Nd), Rep w0 bs v T' ∧ (iter m T').k ≠ 4 ∧ (∀ r, UnfTo w0 v r → UnfTo w0 v r) ∧ 2 * m + 1 ≤ 2 * (T.kids.sz + 1) + 1 ∧ Below w.heap.size w w) :=
    hide ⟨T.kids.sz + 1, T, h, hm, fun r hr => hr, Nat.le_refl _, Below.refl _ _⟩
  have HB := hide hB
  clear h hm hB
  go_enter Try.func13, Try.ntmps13
  go_wp2_with fail
  go_loopg [0] (2 * (T.kids.sz + 1) + 1) (fun n vv wr => ∃ (m : Nat) (T' : Nd), Rep w0 bs vv T' ∧ (iter m T').k ≠ 4 ∧ (∀ r, UnfTo w0 vv r → UnfTo w0 v r) ∧ 2 * m + isVar vv ≤ n ∧ Below w.heap.size w wr)
  case atStart =>
    obtain ⟨m, T', h1, h2, h3, h4, h5⟩ := HST.out
    exact ⟨m, T', h1, h2, h3, by have := isVar_le v; omega, h5⟩
  case round =>
    obtain ⟨m, T', hrep, hm, hto, hn, hb⟩ := hrel
    clear HST
    rcases hrep.cases with ⟨h1, h2, rfl⟩ | ⟨b, rfl, h2⟩ | ⟨L, U, x, rfl, h4, hbk, h2⟩ | ⟨A, rfl, h2, h3⟩
    · have HE := hide (hto _ .fin)
      have n1 := taEndLoop
      have n2 := taEndVar
      clear hrep hm hto hn h1 h2
      go_wp2_with fail
      go_ret
      exact ⟨hb, Or.inl ⟨HE.out, rfl⟩⟩
    · rw [show ∀ z, isVar (.iface ( /- t -/ 60) z) = 1 from fun _ => rfl] at hn
      obtain ⟨gk', rfl⟩ : ∃ gk', gk = gk' + 1 := ⟨gk - 1, by omega⟩
      have HR : Hid (∃ (m : Nat) (T' : Nd), Rep w0 bs (.iface ( /- t -/ 56) (.pointer (some ⟨b, 0, none⟩))) T' ∧ (iter m T').k ≠ 4 ∧ (∀ r, UnfTo w0 (.iface ( /- t -/ 56) (.pointer (some ⟨b, 0, none⟩))) r → UnfTo w0 v r) ∧ 2 * m + isVar (.iface ( /- t -/ 56) (.pointer (some ⟨b, 0, none⟩))) ≤ gk' ∧ Below w.heap.size w wr) :=
        hide ⟨m, T', h2, hm, fun r hr => hto _ (.var b r hr), by rw [show ∀ z, isVar (.iface ( /- t -/ 56) z) = 0 from fun _ => rfl]; omega, hb⟩
      have n1 := taVarLoop
      have n2 := taVarVar
      clear hrep hm hto hn h2
      go_wp2_with fail
      go_roundg gk'
      case measure => omega
      case rel =>
        obtain ⟨m, T', h1, h2, h3, h4, h5⟩ := HR.out
        exact ⟨m, T', h1, h2, h3, h4, h5.alloc h5.size _⟩
    · rw [show ∀ z, isVar (.iface ( /- t -/ 56) z) = 0 from fun _ => rfl] at hn
      cases m with
      | zero => exact absurd h4 hm
      | succ m =>
        unfold iter at hm
        rw [if_pos h4] at hm
        obtain ⟨gk', rfl⟩ : ∃ gk', gk = gk' + 1 := ⟨gk - 1, by omega⟩
        have HR : Hid (∃ (m : Nat) (T' : Nd), Rep w0 bs (.iface U x) T' ∧ (iter m T').k ≠ 4 ∧ (∀ r, UnfTo w0 (.iface U x) r → UnfTo w0 v r) ∧ 2 * m + isVar (.iface U x) ≤ gk' ∧ Below w.heap.size w wr) :=
          hide ⟨m, once T', h2, hm, fun r hr => hto _ (.loop L U x r hbk hr), by have := isVar_le (.iface U x); omega, hb⟩
        have y0 : wr.cell? ⟨L, 0, none⟩ = some (.iface U x) := ((hbk.below HB.out).below hb).cell 0
        have yl := World.block_lt_of_cell? _ _ y0
        have n1 := taLoopLoop
        clear hrep hm hto hn h2 h4 hbk
        go_wp2_with fail
        go_roundg gk'
        case measure => omega
        case rel => exact HR.out
    · have HE := hide (hto _ (.act A))
      have n1 := taActLoop
      have n2 := taActVar
      clear hrep hm hto hn h2 h3
      go_wp2_with fail
      go_ret
      exact ⟨hb, Or.inr ⟨A, HE.out, rfl⟩⟩
end Go.Proofs.Ytpjbffggeegdaaa.Lo

/- A set of pairs of actions in a map that the call makes: what a look-up finds, what a store adds. A pair that is asked for may hold nil. -/
namespace Go.Proofs.Ytpjbffggeegdaaa.Lo
open Go.RowKit

/-- A pointer, or nil. -/
def ptrO : Option Nat → Value
  | none => .pointer none
  | some p => .pointer (some ⟨p, 0, none⟩)
def kyV (x : Option Nat × Option Nat) : Value := .agg #[ptrO x.1, ptrO x.2]
def kyS (e : Nat × Nat) : Option Nat × Option Nat := (some e.1, some e.2)
def kyB (x : Option Nat × Option Nat) (e : Nat × Nat) : Bool := (x.1 == some e.1) && (x.2 == some e.2)
def GoodB (w : World) (b : Nat) : Prop := ∃ cs, Blk w b cs
def GoodK (w : World) (x : Option Nat × Option Nat) : Prop := (∀ p, x.1 = some p → GoodB w p) ∧ ∀ p, x.2 = some p → GoodB w p

theorem actU : Try.prog.underlying ( /- t -/ 40) = some (.pointer ( /- t -/ 43)) := by kernel_rfl
theorem pairU : Try.prog.underlying ( /- t -/ 70) = some (.array 2 ( /- t -/ 40)) := by kernel_rfl
theorem actI : (Try.prog.info? ( /- t -/ 43)).map (fun i => decide (i.size ≠ 0)) = some true := by kernel_rfl
theorem ptrI : (Try.prog.info? ( /- t -/ 40)).map (fun i => i.size) = some 1 := by kernel_rfl
theorem mapU : Try.prog.underlying ( /- t -/ 66) = some (.map ( /- t -/ 70) ( /- t -/ 4)) := by kernel_rfl
theorem ptrC : Try.prog.cellsOf ( /- t -/ 40) = 1 := by kernel_rfl

theorem run_eq_ptrO (w : World) (d : Nat) (x : Option Nat) (b : Nat) (hx : ∀ p, x = some p → GoodB w p) (hb : GoodB w b) :
    (Op.equalIn (d + 1) ( /- t -/ 40) (ptrO x) (.pointer (some ⟨b, 0, none⟩))).run Try.prog w = .ok (x == some b) w := by
  obtain ⟨j, hj, hs⟩ : ∃ j, Try.prog.info? ( /- t -/ 43) = some j ∧ j.size ≠ 0 := by
    have := actI
    cases h : Try.prog.info? ( /- t -/ 43) with
    | none => rw [h] at this; cases this
    | some i => rw [h] at this; exact ⟨i, rfl, by simpa using this⟩
  cases x with
  | none =>
    unfold ptrO
    simp [Op.equalIn, run_underlying actU]
  | some a =>
    obtain ⟨ca, ta, ha⟩ := hx a rfl
    obtain ⟨cb, tb, hb⟩ := hb
    unfold ptrO
    by_cases h : a = b
    · subst h
      simp [Op.equalIn, run_underlying actU, sizeOf, typeInfo, hj, run_sameAddr_same]
    · have hne : (⟨a, 0, none⟩ : Addr) ≠ ⟨b, 0, none⟩ := fun e => h (congrArg Addr.block e)
      simp [Op.equalIn, run_underlying actU, sizeOf, typeInfo, hj, hs, run_sameAddr_other w hne ha hb, h]

theorem kz_equal (w : World) (x : Option Nat × Option Nat) (y : Nat × Nat) (hx : GoodK w x) (hy : GoodB w y.1 ∧ GoodB w y.2) : (Op.equal ( /- t -/ 70) (kyV x) (kyV (kyS y))).run Try.prog w = .ok (kyB x y) w := by
  obtain ⟨j, hj⟩ : ∃ j, Try.prog.info? ( /- t -/ 40) = some j := by
    have := ptrI
    cases h : Try.prog.info? ( /- t -/ 40) with
    | none => rw [h] at this; cases this
    | some i => exact ⟨i, rfl⟩
  have h1 := run_eq_ptrO w 9998 x.1 y.1 hx.1 hy.1
  have h2 := run_eq_ptrO w 9998 x.2 y.2 hx.2 hy.2
  have p0 : ∀ a b : Value, (part ( /- t -/ 40) #[a, b] (0 * 1)).run Try.prog w = .ok a w := fun a b => by kernel_rfl
  have p1 : ∀ a b : Value, (part ( /- t -/ 40) #[a, b] (1 * 1)).run Try.prog w = .ok b w := fun a b => by kernel_rfl
  unfold Op.equal kyV kyS
  rw [show Op.maxDepth = 9999 + 1 from rfl, run_equalIn_array w 9999 _ _ pairU hj, ptrC, show List.range 2 = [0, 1] from rfl]
  simp only [Op.eqItems, Sem.run_bind, p0, Result.andThen_ok]
  rw [show ptrO (some y.1) = .pointer (some ⟨y.1, 0, none⟩) from rfl, show ptrO (some y.2) = .pointer (some ⟨y.2, 0, none⟩) from rfl]
  rw [show (9999 : Nat) = 9998 + 1 from rfl, h1]
  simp only [Result.andThen_ok]
  unfold kyB
  cases e1 : (x.1 == some y.1) with
  | false => simp
  | true =>
    simp only [Bool.not_true, Bool.false_eq_true, if_false, Sem.run_bind, p1, Result.andThen_ok]
    rw [h2]
    cases e2 : (x.2 == some y.2) <;> simp [Result.andThen]

theorem kz_check (w : World) (x : Option Nat × Option Nat) (em : Bool) : (Instr.checkKey em 10000 ( /- t -/ 70) (kyV x)).run Try.prog w = .ok () w := by
  unfold kyV
  cases em <;> kernel_rfl

theorem kz_ask (w : World) (x : Option Nat × Option Nat) (hx : GoodK w x) : ∀ (es : List MapEntry) (S : List (Nat × Nat)) (i : Nat), es.map (·.key) = S.map (fun e => kyV (kyS e)) → (∀ y ∈ S, GoodB w y.1 ∧ GoodB w y.2) → (∀ e ∈ es, e.val = .bool true) →
    ∃ r, (Instr.findAsking ( /- t -/ 70) (kyV x) es i).run Try.prog w = .ok r w ∧ ((r = none ∧ S.any (kyB x) = false) ∨ (∃ j, r = some (j, .bool true) ∧ S.any (kyB x) = true)) := by
  intro es
  induction es with
  | nil =>
    intro S i he _ _
    cases S with
    | nil => exact ⟨none, by simp [Instr.findAsking], Or.inl ⟨rfl, rfl⟩⟩
    | cons => simp at he
  | cons e es ih =>
    intro S i he hS hv
    cases S with
    | nil => simp at he
    | cons y S =>
      simp only [List.map_cons, List.cons.injEq] at he
      obtain ⟨he1, he2⟩ := he
      obtain ⟨r, hr, hc⟩ := ih S (i + 1) he2 (fun z hz => hS z (by simp [hz])) (fun z hz => hv z (by simp [hz]))
      have hq := kz_equal w x y hx (hS y (by simp))
      rw [← he1] at hq
      cases hb : kyB x y with
      | true => exact ⟨some (i, .bool true), by simp [Instr.findAsking, hq, hb, Result.andThen, hv e (by simp)], Or.inr ⟨i, rfl, by simp [hb]⟩⟩
      | false => exact ⟨r, by simp [Instr.findAsking, hq, hb, Result.andThen, hr], by simpa [hb] using hc⟩

theorem kz_find (w : World) (x : Option Nat × Option Nat) (hx : GoodK w x) (es : List MapEntry) (S : List (Nat × Nat)) (he : es.map (·.key) = S.map (fun e => kyV (kyS e))) (hS : ∀ y ∈ S, GoodB w y.1 ∧ GoodB w y.2) (hv : ∀ e ∈ es, e.val = .bool true) :
    ∃ r, (Instr.findKey ( /- t -/ 70) (kyV x) es).run Try.prog w = .ok r w ∧ ((r = none ∧ S.any (kyB x) = false) ∨ (∃ j, r = some (j, .bool true) ∧ S.any (kyB x) = true)) := by
  obtain ⟨r, hr, hc⟩ := kz_ask w x hx es S 0 he hS hv
  cases es with
  | nil =>
    cases S with
    | nil => exact ⟨none, by simp [Instr.findKey, run_underlying pairU, Instr.findNow], Or.inl ⟨rfl, rfl⟩⟩
    | cons => simp at he
  | cons e es =>
    refine ⟨r, ?_, hc⟩
    cases S with
    | nil => simp at he
    | cons y S =>
      have h0 : Instr.findNow (.array 2 ( /- t -/ 40)) (kyV x) (e :: es) 0 = none := by
        simp only [Instr.findNow, Instr.sameNow]
      simp [Instr.findKey, run_underlying pairU, h0, hr]

/-- Block m is a map from pairs to true whose keys are these. -/
def SetIs (w : World) (m : Nat) (S : List (Nat × Nat)) : Prop := ∃ es clock, w.heap[m]? = some (.map es clock) ∧ es.toList.map (·.key) = S.map (fun e => kyV (kyS e)) ∧ ∀ e ∈ es.toList, e.val = .bool true
theorem SetIs.same {w w' : World} {m : Nat} {S : List (Nat × Nat)} (h : SetIs w m S) (e : w'.heap[m]? = w.heap[m]?) : SetIs w' m S := by
  obtain ⟨es, clock, h1, h2⟩ := h
  exact ⟨es, clock, e.trans h1, h2⟩
theorem SetIs.lt {w : World} {m : Nat} {S : List (Nat × Nat)} (h : SetIs w m S) : m < w.heap.size := by
  obtain ⟨es, clock, h1, h2⟩ := h
  exact (Array.getElem?_eq_some_iff.1 h1).1
theorem SetIs.made (w : World) : SetIs (w.alloc (.map #[] 0)) w.heap.size [] := ⟨#[], 0, (MapKept.heap_alloc w _).1, rfl, by simp⟩

theorem set_look {w : World} {m : Nat} {S : List (Nat × Nat)} (h : SetIs w m S) (x : Option Nat × Option Nat) (hx : GoodK w x) (hS : ∀ y ∈ S, GoodB w y.1 ∧ GoodB w y.2) :
    (Instr.lookup ( /- t -/ 66) (.map (some m)) (kyV x) false).run Try.prog w = .ok (.bool (S.any (kyB x))) w := by
  obtain ⟨es, clock, h1, h2, h3⟩ := h
  obtain ⟨r, hr, hc⟩ := kz_find w x hx es.toList S h2 hS h3
  have hz : (zeroValue ( /- t -/ 4)).run Try.prog w = .ok (.bool false) w := by kernel_rfl
  rcases hc with ⟨rfl, hs⟩ | ⟨j, rfl, hs⟩
  · simp [Instr.lookup, run_underlying mapU, MapKept.run_getObj_map h1, kz_check, hr, hz, hs, Result.andThen]
  · simp [Instr.lookup, run_underlying mapU, MapKept.run_getObj_map h1, kz_check, hr, hs, Result.andThen]

theorem set_store {w : World} {m : Nat} {S : List (Nat × Nat)} (h : SetIs w m S) (x : Nat × Nat) (hx : GoodB w x.1 ∧ GoodB w x.2) (hS : ∀ y ∈ S, GoodB w y.1 ∧ GoodB w y.2) (hn : S.any (kyB (kyS x)) = false) :
    ∃ w', (Instr.mapUpdate ( /- t -/ 66) (.map (some m)) (kyV (kyS x)) (.bool true)).run Try.prog w = .ok () w' ∧ SetIs w' m (S ++ [x]) ∧ w.grownBy w' (some m) := by
  obtain ⟨es, clock, h1, h2, h3⟩ := h
  have hk : GoodK w (kyS x) := ⟨fun p e => by cases e; exact hx.1, fun p e => by cases e; exact hx.2⟩
  obtain ⟨r, hr, hc⟩ := kz_find w (kyS x) hk es.toList S h2 hS h3
  rcases hc with ⟨rfl, _⟩ | ⟨j, rfl, hs⟩
  · refine ⟨ChangeMaps.setBlock w m (.map (es.push ⟨kyV (kyS x), .bool true, clock⟩) (clock + 1)), ?_, ?_, ?_⟩
    · simp [Instr.mapUpdate, run_underlying mapU, MapKept.run_getObj_map h1, kz_check, hr, MapKept.run_setObj_map _ h1, Result.andThen, ChangeMaps.setBlock]
    · exact ⟨_, _, ChangeMaps.heap_setBlock_same h1 _, by simp [h2], fun e he => by
        simp only [Array.toList_push, List.mem_append, List.mem_singleton] at he
        rcases he with he | rfl
        · exact h3 e he
        · rfl⟩
    · exact ⟨rfl, rfl, rfl, by simp [ChangeMaps.setBlock], fun k _ hk => ChangeMaps.heap_setBlock_other h1 _ (fun e => hk (by rw [e]))⟩
  · rw [hn] at hs
    cases hs

theorem wpList_set_store (w : World) {ops : Array Oper} {rest : List Oper} {o : Oper} {a : Go.Act} {Q : Exit → Go.Act → World → Prop}
    (hg : o.guard = none) (mo xo vo : Operand) (hop : o.op = Op.mapUpdate ( /- t -/ 66) mo xo vo) (m : Nat) (S : List (Nat × Nat)) (h : SetIs w m S) (x : Nat × Nat) (hx : GoodB w x.1 ∧ GoodB w x.2) (hS : ∀ y ∈ S, GoodB w y.1 ∧ GoodB w y.2) (hn : S.any (kyB (kyS x)) = false)
    (hm : a.eval mo = .map (some m)) (hk : a.eval xo = kyV (kyS x)) (hv : a.eval vo = .bool true) (hK : ∀ w', SetIs w' m (S ++ [x]) → w.grownBy w' (some m) → wpList Try.prog ops Q rest (a.put o.dst undef) w') : wpList Try.prog ops Q (o :: rest) a w := by
  refine wpList_plain hg fun K' hK' => ?_
  obtain ⟨w', hrun, r1, r2⟩ := set_store h x hx hS hn
  unfold Oper.wp
  simp [execOp, hop, hm, hk, hv, hrun, Result.andThen]
  exact hK' _ _ (hK w' r1 r2)
end Go.Proofs.Ytpjbffggeegdaaa.Lo

/- What holds between two rounds of the comparison of two linked types, in memory. -/
namespace Go.Proofs.Ytpjbffggeegdaaa.Lo
open Go.RowKit

def cellsP (p : Value × Value) : List Value := [p.1, p.2]
theorem cellsP_len (L : List (Value × Value)) : (L.flatMap cellsP).length = L.length * 2 := by
  induction L with
  | nil => rfl
  | cons p L ih => simp only [List.flatMap_cons, List.length_append, ih, List.length_cons, cellsP, List.length_nil]; omega
theorem cellsP_last (L : List (Value × Value)) (p : Value × Value) (j : Nat) : ((L ++ [p]).flatMap cellsP)[L.length * 2 + j]? = (cellsP p)[j]? := by
  rw [List.flatMap_append, List.getElem?_append_right (by rw [cellsP_len]; omega), cellsP_len, Nat.add_sub_cancel_left]
  simp
theorem cellsP_take (L : List (Value × Value)) (p : Value × Value) : ((L ++ [p]).flatMap cellsP).take (L.length * 2) = L.flatMap cellsP := by
  rw [List.flatMap_append, List.take_append_of_le_length (by rw [cellsP_len]; omega), List.take_of_length_le (by rw [cellsP_len]; omega)]

theorem pairI : (Try.prog.info? ( /- t -/ 67)).map (fun i => (i.zero.map (fun z => z.cells.size), i.size, i.bytes)) = some (some 2, 2, 32) := by kernel_rfl
theorem pair_info2 : ∃ i z, Try.prog.info? ( /- t -/ 67) = some i ∧ i.zero = some z ∧ i.size = 2 ∧ i.bytes = 32 ∧ z.cells.size = 2 := by
  have h := pairI
  cases hi : Try.prog.info? ( /- t -/ 67) with
  | none => rw [hi] at h; cases h
  | some i =>
    rw [hi] at h
    simp only [Option.map_some, Option.some.injEq, Prod.mk.injEq] at h
    obtain ⟨h1, h2, h3⟩ := h
    cases hz : i.zero with
    | none => rw [hz] at h1; cases h1
    | some z =>
      rw [hz] at h1
      exact ⟨i, z, rfl, hz, h2, h3, by simpa using h1⟩

/-- What holds between two rounds. -/
def RelC (sub : Bool) (W0 : World) (ks bs : List Nat) (va vb : Value) (res : Bool) (m n : Nat) (v : Value) (wr : World) : Prop :=
  ∃ (L : List (Value × Value)) (S : List (Nat × Nat)), 5 * (ks.length * bs.length - S.length) + L.length ≤ n ∧ n ≤ 4000000 ∧ wr.ownsRow W0.heap.size ( /- t -/ 67) 2 v L.length (L.flatMap cellsP) ∧ SetIs wr m S ∧
    Cmp sub W0 ks bs va vb res L S ∧ W0.heap.size ≤ m ∧ Below W0.heap.size W0 wr
theorem relC_start {sub : Bool} {w : World} {ks bs : List Nat} {va vb : Value} {a b : Nd} (ha : Rep w ks va a) (hb : Rep w bs vb b) (h1 : ks.length ≤ 800) (h2 : bs.length ≤ 800) :
    RelC sub w ks bs va vb (alikeB sub a b) w.heap.size (5 * (ks.length * bs.length) + 1) (.slice (some ⟨w.heap.size + 1, 0, none⟩) 1 1) ((w.alloc (.map #[] 0)).alloc (.cells #[va, vb] ( /- t -/ 67))) := by
  have hs3 : (w.alloc (.map #[] 0)).heap.size = w.heap.size + 1 := by simp
  have hm : ks.length * bs.length ≤ 800 * 800 := Nat.mul_le_mul h1 h2
  refine ⟨[(va, vb)], [], by simp, by omega, ?_, ?_, Cmp.begin ha hb, Nat.le_refl _, ?_⟩
  · have h := World.ownsRow_lit (base := w.heap.size) (e := ( /- t -/ 67)) (size := 2) (w.alloc (.map #[] 0)) #[va, vb] 1 (by rw [hs3]; omega) (by unfold maxLen; omega) rfl
    rw [hs3] at h
    simpa [cellsP] using h
  · have h := SetIs.made w
    exact h.same ((alloc_below (w.alloc (.map #[] 0)) _).block _ (by rw [hs3]; omega))
  · exact ((Below.refl _ _).alloc (Nat.le_refl _) _).alloc (by simp) _

theorem row_belowC {w w' : World} {base : Nat} {e : TypeId} {size : Nat} {v : Value} {n : Nat} {xs : List Value} (h : w.ownsRow base e size v n xs) (hb : Below w.heap.size w w') : w'.ownsRow base e size v n xs := by
  rcases h with ⟨hl, h | ⟨g, cap, cur, hv, hg, hh, hr⟩⟩
  · exact ⟨hl, Or.inl h⟩
  · exact ⟨hl, Or.inr ⟨g, cap, cur, hv, hg, (hb.block g (Array.getElem?_eq_some_iff.1 hh).1).trans hh, hr⟩⟩
theorem row_shapeC {w : World} {base : Nat} {e : TypeId} {size : Nat} {v : Value} {n : Nat} {xs : List Value} (h : w.ownsRow base e size v n xs) : ∃ a cap, v = .slice a n cap := by
  rcases h.2 with ⟨rfl, rfl⟩ | ⟨g, cap, cur, rfl, _⟩
  · exact ⟨_, _, rfl⟩
  · exact ⟨_, _, rfl⟩
theorem row_cutC {w : World} {base : Nat} {e : TypeId} {size : Nat} {g n m cap : Nat} {xs : List Value} (h : w.ownsRow base e size (.slice (some ⟨g, 0, none⟩) n cap) n xs) (hm : m ≤ n) :
    w.ownsRow base e size (.slice (some ⟨g, 0, none⟩) m cap) m (xs.take (m * size)) := by
  have hle : m * size ≤ n * size := Nat.mul_le_mul_right _ hm
  rcases h with ⟨hl, ⟨hv, _⟩ | ⟨g', cap', cur, hv, hb, hh, hc, hc', hs, ht⟩⟩
  · cases hv
  · simp only [Value.slice.injEq, Option.some.injEq, Addr.mk.injEq, and_true] at hv
    obtain ⟨rfl, -, rfl⟩ := hv
    refine ⟨by rw [List.length_take, hl, Nat.min_eq_left hle], Or.inr ⟨g, cap, cur, rfl, hb, hh, Nat.le_trans hm hc, hc', hs, ?_⟩⟩
    rw [← ht, List.take_take, Nat.min_eq_left hle]
theorem row_capC {w : World} {base : Nat} {e : TypeId} {size : Nat} {a : Option Addr} {n cap : Nat} {xs : List Value} (h : w.ownsRow base e size (.slice a n cap) n xs) : n ≤ cap ∧ cap ≤ maxLen := by
  rcases h.2 with ⟨e, rfl⟩ | ⟨g, cap', cur, e, _, _, h1, h2, _⟩
  · simp only [Value.slice.injEq] at e
    obtain ⟨_, _, rfl⟩ := e
    exact ⟨Nat.le_refl _, Nat.zero_le _⟩
  · simp only [Value.slice.injEq] at e
    obtain ⟨_, _, rfl⟩ := e
    exact ⟨h1, h2⟩
theorem below_grownC {B M : Nat} {a b c : World} (hB : B ≤ a.heap.size) (h : Below B a b) (hg : b.grownBy c (some M)) (hM : B ≤ M) : Below B a c :=
  ⟨hg.os.trans h.os, hg.tape.trans h.tape, hg.output.trans h.output, Nat.le_trans h.size hg.size, fun k hk => (hg.block k (Nat.lt_of_lt_of_le (Nat.lt_of_lt_of_le hk hB) h.size) (fun e => by cases e; omega)).trans (h.block k hk)⟩
theorem row_grownC {b c : World} {base : Nat} {e : TypeId} {size : Nat} {v : Value} {n M : Nat} {xs : List Value} {S : List (Nat × Nat)} (h : b.ownsRow base e size v n xs) (hm : SetIs b M S) (hg : b.grownBy c (some M)) : c.ownsRow base e size v n xs := by
  obtain ⟨es, ck, hm, _⟩ := hm
  rcases h with ⟨hl, h | ⟨g, cap, cur, hv, hb, hh, hr⟩⟩
  · exact ⟨hl, Or.inl h⟩
  · have hne : g ≠ M := fun e => by rw [e, hm] at hh; cases hh
    exact ⟨hl, Or.inr ⟨g, cap, cur, hv, hb, (hg.block g (Array.getElem?_eq_some_iff.1 hh).1 (fun e => hne (by cases e; rfl))).trans hh, hr⟩⟩
theorem set_grownC {b c : World} {base : Nat} {e : TypeId} {size : Nat} {v : Value} {n M : Nat} {xs : List Value} {S : List (Nat × Nat)} (h : b.ownsRow base e size v n xs) (hm : SetIs b M S) (hg : b.grownBy c v.ownBlock) : SetIs c M S := by
  refine hm.same (hg.block M hm.lt (fun e => ?_))
  obtain ⟨es, ck, hm, _⟩ := hm
  rcases h.2 with ⟨rfl, _⟩ | ⟨g, cap, cur, rfl, _, hh, _⟩
  · cases e
  · simp only [Value.ownBlock, Option.some.injEq] at e
    subst e
    rw [hm] at hh
    cases hh
theorem below_rowC {B : Nat} {a b c : World} {e : TypeId} {size : Nat} {v : Value} {n : Nat} {xs : List Value} (hB : B ≤ a.heap.size) (h : Below B a b) (hr : b.ownsRow B e size v n xs) (hg : b.grownBy c v.ownBlock) : Below B a c :=
  ⟨hg.os.trans h.os, hg.tape.trans h.tape, hg.output.trans h.output, Nat.le_trans h.size hg.size, fun k hk => (hg.block k (Nat.lt_of_lt_of_le (Nat.lt_of_lt_of_le hk hB) h.size) (fun e => by have := (hr.lt k e.symm).1; omega)).trans (h.block k hk)⟩

/-- A round that adds nothing. -/
theorem relC_pop {sub res : Bool} {W0 wr w8 : World} {ks bs : List Nat} {va vb v v' sl : Value} {m n0 n : Nat} {L0 : List (Value × Value)} {S : List (Nat × Nat)} (hcut : wr.ownsRow W0.heap.size ( /- t -/ 67) 2 sl n0 (L0.flatMap cellsP)) (hn0 : n0 = L0.length) (hset : SetIs wr m S)
    (hb : Below wr.heap.size wr w8) (hcmp : Cmp sub W0 ks bs va vb res (L0 ++ [(v, v')]) S) (hf : Fine W0 L0 S v v') (hM : W0.heap.size ≤ m) (hbw : Below W0.heap.size W0 wr) (hn : 5 * (ks.length * bs.length - S.length) + (L0.length + 1) ≤ n + 1) (hn4 : n + 1 ≤ 4000000) : RelC sub W0 ks bs va vb res m n sl w8 := by
  subst hn0
  exact ⟨L0, S, by omega, by omega, row_belowC hcut hb, hset.same (hb.block _ hset.lt), hcmp.pop hf, hM, hbw.trans (hb.mono hbw.size)⟩

theorem fit_kinds {sub : Bool} {x y : Nd} (h : x.k ≠ y.k) : fitB sub x y = false := by
  unfold fitB
  rw [beq_eq_false_iff_ne.2 h, Bool.false_and]

theorem any_yes {A B : Nat} {S : List (Nat × Nat)} (h : S.any (kyB (some A, some B)) = true) : (A, B) ∈ S := by
  obtain ⟨e, he, hk⟩ := List.any_eq_true.1 h
  simp only [kyB, Bool.and_eq_true, beq_iff_eq, Option.some.injEq] at hk
  obtain ⟨rfl, rfl⟩ := hk
  exact he
theorem any_no {A B : Nat} {S : List (Nat × Nat)} (h : S.any (kyB (some A, some B)) = false) : (A, B) ∉ S := by
  intro hm
  have : S.any (kyB (some A, some B)) = true := List.any_eq_true.2 ⟨_, hm, by simp [kyB]⟩
  rw [h] at this
  cases this
theorem any_nil1 (B : Option Nat) (S : List (Nat × Nat)) : S.any (kyB (none, B)) = false := by
  rw [List.any_eq_false]
  intro e _
  simp [kyB]
theorem any_nil2 (A : Option Nat) (S : List (Nat × Nat)) : S.any (kyB (A, none)) = false := by
  rw [List.any_eq_false]
  intro e _
  simp [kyB]

/-- Every pair that was seen is a pair of blocks. -/
theorem Cmp.good {sub res : Bool} {W0 w : World} {ks bs : List Nat} {va vb : Value} {L : List (Value × Value)} {S : List (Nat × Nat)} (h : Cmp sub W0 ks bs va vb res L S) (hb : Below W0.heap.size W0 w) : ∀ y ∈ S, GoodB w y.1 ∧ GoodB w y.2 := by
  intro y hy
  obtain ⟨x, z, xs, ys, -, -, ⟨_, _, _, _, h1, -⟩, -, ⟨_, _, _, _, h2, -⟩, -⟩ := h.seen y hy
  exact ⟨⟨_, h1.below hb⟩, ⟨_, h2.below hb⟩⟩
theorem Act.good {W0 w : World} {bs : List Nat} {A : Nat} {x : Nd} (h : Act W0 bs A x) (hb : Below W0.heap.size W0 w) : GoodB w A := by
  obtain ⟨-, xs, ⟨_, _, _, _, h1, -⟩, -⟩ := h
  exact ⟨_, h1.below hb⟩
theorem GoodB.below {w w' : World} {b : Nat} (h : GoodB w b) (hb : Below w.heap.size w w') : GoodB w' b := by
  obtain ⟨cs, h⟩ := h
  exact ⟨cs, h.below hb⟩
theorem goodK_mk {w : World} {x : Option Nat × Option Nat} (h1 : ∀ p, x.1 = some p → GoodB w p) (h2 : ∀ p, x.2 = some p → GoodB w p) : GoodK w x := ⟨h1, h2⟩
theorem act_small {T : Nd} (hw : wN T 0 0 = true) (hk : T.k = 2 ∨ T.k = 3) : T.kids.len ≤ 4 := by
  unfold wN at hw
  simp only [Bool.and_eq_true] at hw
  have := (shape_act hk hw.1).2.2
  unfold branchesB at this
  simp only [Bool.and_eq_true, decide_eq_true_eq] at this
  exact this.2.2
end Go.Proofs.Ytpjbffggeegdaaa.Lo

/- How IsSubtype lets two actions fit. -/
namespace Go.Proofs.Ytpjbffggeegdaaa.Lo
open Go.RowKit

set_option maxHeartbeats 1000000 in
set_option maxRecDepth 100000 in
theorem fitS_calls (w0 w : World) (ks bs : List Nat) (A B : Nat) (x y : Nd) (hx : Act w0 ks A x) (hy : Act w0 bs B y) (hB : Below w0.heap.size w0 w) :
    Calls Try.prog 17 #[.pointer (some ⟨A, 0, none⟩), .pointer (some ⟨B, 0, none⟩)] w fun e w' => e = .returned (.bool (labB2 true x y)) ∧ Below w.heap.size w w' := by
  have HN1 := hide (covers_calls w0 w ks bs A B x y hx hy hB)
  have HN2 := hide (covers_calls w0 w bs ks B A y x hy hx hB)
  obtain ⟨-, xs, ⟨r, n, cap, cs, hA, -⟩, -⟩ := hx
  have hA1 := hA.below hB
  have a0 : w.cell? ⟨A, 0, none⟩ = some (.int .i64 x.k) := hA1.cell 0
  have al := hA1.lt
  clear hA hA1 hy hB
  by_cases h2 : x.k = 2
  · have h3 : (x.k == 2) = true := by rw [h2]; rfl
    rw [show labB2 true x y = subsF x.kids y.kids by unfold labB2; rw [if_pos rfl, if_pos h2]]
    generalize subsF x.kids y.kids = v at *
    go_enter Try.func17, Try.ntmps17
    go_wp2_with fail
    refine HN2.out.mono ?_
    rintro e w1 ⟨rfl, hb⟩
    go_wp2_with fail
    go_ret
    exact ⟨rfl, hb⟩
  · have h3 : (x.k == 2) = false := beq_eq_false_iff_ne.2 h2
    rw [show labB2 true x y = subsF y.kids x.kids by unfold labB2; rw [if_pos rfl, if_neg h2]]
    generalize subsF y.kids x.kids = v at *
    go_enter Try.func17, Try.ntmps17
    go_wp2_with fail
    refine HN1.out.mono ?_
    rintro e w1 ⟨rfl, hb⟩
    go_wp2_with fail
    go_ret
    exact ⟨rfl, hb⟩

end Go.Proofs.Ytpjbffggeegdaaa.Lo

/- How LocalEquivalent lets two actions fit. -/
namespace Go.Proofs.Ytpjbffggeegdaaa.Lo
open Go.RowKit

set_option maxHeartbeats 1000000 in
set_option maxRecDepth 100000 in
theorem fitE_calls (w0 w : World) (ks bs : List Nat) (A B : Nat) (x y : Nd) (hx : Act w0 ks A x) (hy : Act w0 bs B y) (hB : Below w0.heap.size w0 w) :
    Calls Try.prog 19 #[.pointer (some ⟨A, 0, none⟩), .pointer (some ⟨B, 0, none⟩)] w fun e w' => e = .returned (.bool (labB2 false x y)) ∧ Below w.heap.size w w' := by
  have HN1 := hide (covers_calls w0 w ks bs A B x y hx hy hB)
  have HN2 := hide (fun (w2 : World) (hB2 : Below w0.heap.size w0 w2) => covers_calls w0 w2 bs ks B A y x hy hx hB2)
  have HB := hide hB
  clear hx hy hB
  rw [show labB2 false x y = (subsF x.kids y.kids && subsF y.kids x.kids) by unfold labB2; rw [if_neg (by decide)]]
  cases h1 : subsF y.kids x.kids with
  | false =>
    rw [h1] at HN1
    rw [Bool.and_false]
    go_enter Try.func19, Try.ntmps19
    go_wp2_with fail
    refine HN1.out.mono ?_
    rintro e w1 ⟨rfl, hb⟩
    go_wp2_with fail
    go_ret
    exact ⟨rfl, hb⟩
  | true =>
    rw [h1] at HN1
    rw [Bool.and_true]
    generalize subsF x.kids y.kids = v at *
    go_enter Try.func19, Try.ntmps19
    go_wp2_with fail
    refine HN1.out.mono ?_
    rintro e w1 ⟨rfl, hb⟩
    have HN3 := hide (HN2.out w1 (HB.out.trans (hb.mono HB.out.size)))
    go_wp2_with fail
    refine HN3.out.mono ?_
    rintro e w2 ⟨rfl, hb2⟩
    have hb3 := hb.trans (hb2.mono hb.size)
    clear hb hb2
    go_wp2_with fail
    go_ret
    exact ⟨rfl, hb3⟩

end Go.Proofs.Ytpjbffggeegdaaa.Lo
