/- LKb, LKu, LWl, LWr, LWa, LPi, Cy, Czp, Cz, LVs, LVa, Za, Cxa, Zb, Zc -/
import Derived.Test.YtgcefippeokmcabGreatDoorG06
import Derived.Test.YtgcefippeokmcabGreatDoorG07
import Derived.Deep.LoopGhost
import Derived.Test.YtgcefippeokmcabGreatDoorG01
import Derived.Test.YtgcefippeokmcabGreatDoorG03
import Derived.Test.YtgcefippeokmcabGreatDoorG00
import Derived.Deep.RegionHeld3
import Derived.StillTailTactics
import Derived.Lib.UnsafeStr
import Derived.Test.YtgcefippeokmcabGreatDoorG05
/- unlinkNode of the program, whole. -/
namespace Go.Proofs.YtgcefippeokmcabGreatDoor.Lo
open Go.RowKit

theorem un_all : ∀ q n, UnAt q n := by
  intro q
  induction q using Nat.strongRecOn with
  | _ q ihq =>
  intro n
  induction n with
  | zero => intro w0 w c a dp un k ix fr v lv kids es m ks hn; omega
  | succ n ihn =>
    intro w0 w c a dp un k ix fr v lv kids es m ks hn hq hk he hw hB hc0 hc ha hd1 hd2 hmd hu1 hu2 hq2 hp
    have hw2 := hw
    unfold wN at hw2
    simp only [Bool.and_eq_true] at hw2
    obtain ⟨hsh, hsc⟩ := hw2
    have hps := hp.ps.val
    have hpl : (blks (es.take m)).length = m := scope_len es m (by omega)
    by_cases h1 : k = 1
    · subst h1
      obtain ⟨hf, rfl, rfl⟩ := shape_end hsh
      have hf1 := empty_of hf
      subst hf1
      have hv : v = .iface ( /- t -/ 120) (.agg #[]) := by
        rcases hk with ⟨-, h, -⟩ | ⟨h, -⟩ | ⟨h, -⟩ | ⟨h, -⟩
        · exact h
        · omega
        · omega
        · omega
      subst hv
      have e : cpN (lenv m es) ⟨1, ⟨#[]⟩, 0, .nil⟩ = ⟨1, ⟨#[]⟩, 0, .nil⟩ := by
        rw [cpN_k (show (1 : Int) ≠ 5 by decide)]
        rfl
      rw [e]
      exact un_end w c a dp un lv (blks (es.take m)) hc ha hd1 hd2 hp
    by_cases h2 : k = 2 ∨ k = 3
    · exact un_act q n ihn w0 w c a dp un k ix fr v lv kids es m ks h2 hn hq hk he hw hB hc0 hc ha hd1 hd2 hmd hq2 hp
    by_cases h4 : k = 4
    · subst h4
      obtain ⟨hf, rfl, lab, k', fr', ix', kids', rfl, hl0⟩ := shape_rec hsh
      obtain ⟨L, T, x, ks', rfl, hbL, hLp, hln⟩ := linked_rec hk
      exact un_loop q n ihn w0 w c a dp un un fr 0 _ lv lv _ es m L ks none false hn hq hk he hw hB hc0 hc ha hd1 hd2 hmd hu1 hu2 hq2 hp (by obtain ⟨a1, c1, e, -⟩ := hps; exact ⟨a1, _, c1, e⟩) (Or.inl ⟨rfl, rfl, rfl, rfl, rfl⟩)
    by_cases h5 : k = 5
    · subst h5
      obtain ⟨hf, rfl⟩ := shape_var hsh
      have hf1 := empty_of hf
      subst hf1
      obtain ⟨p, b, g, t, rfl, rfl, rfl⟩ := linked_var hk
      have hlen : (p ++ (b, g) :: t).length = p.length + 1 + t.length := by simp; omega
      by_cases hin : p.length < m
      · have e : cpN (lenv m (p ++ (b, g) :: t)) ⟨5, ⟨#[]⟩, (p.length : Int), .nil⟩ = ⟨5, ⟨#[]⟩, (p.length : Int), .nil⟩ := by
          unfold cpN
          simp only [if_true, Int.toNat_natCast]
          rw [lenv_in m p.length _ hin (by omega)]
          rfl
        rw [e]
        obtain ⟨s1, s2⟩ := scope_in p b g t m hin (by omega)
        refine un_var w0 w c a dp un p.length (m - 1 - p.length) b lv _ hB hc0 hc ha hd1 hd2 hp (scope_nodup _ _ he) (fun x hx => he.blk _ x (scope_mem hx)) s1 s2 ?_
        rw [hpl]
        omega
      · have e : cpN (lenv m (p ++ (b, g) :: t)) ⟨5, ⟨#[]⟩, (p.length : Int), .nil⟩ = cpN (lvals t) g := by
          conv => lhs; unfold cpN
          simp only [if_true, Int.toNat_natCast]
          rw [lenv_out m p b g t (by omega)]
        rw [e]
        obtain ⟨g4, gw, ⟨kg, gl⟩, gb, ge⟩ := EnvL.suffix p _ he
        obtain ⟨gk, gf, gi, gq⟩ := g
        simp only at g4
        subst g4
        have hq' : t.length < q := by omega
        exact un_loop t.length (gq.sz + 1) (ihq _ hq' _) w0 w c a dp un 0 gf gi _ lv (.slice none 0 0) gq t 0 b kg (some ⟨b, 0, none⟩) true (by omega) rfl gl ge gw hB hc0 hc ha hd1 hd2 (by omega) (by omega) (by omega) (by omega) (by rw [List.take_zero]; exact Pt.nil w)
          (by obtain ⟨a1, c1, e, -⟩ := hps; exact ⟨a1, _, c1, e⟩) (Or.inr ⟨rfl, rfl, rfl, rfl, rfl, rfl, _, hp, scope_out p b _ t m (by omega) he, by rw [hpl]; omega, fun x hx => he.blk _ x (scope_mem hx)⟩)
    · simp [shapeB, h1, h2, h4, h5] at hsh

/-- unlinkNode, at a place without recursions around. -/
theorem unlink_calls (w0 w : World) (c : Nat) (k ix : Int) (fr : ByteArray) (v : Value) (kids : F) (es : List (Nat × Nd)) (ks : List Nat) (hl : es.length ≤ 1000) (hk : LkN w0 k fr ix kids (blks es) v ks) (he : EnvL w0 es) (hw : wN ⟨k, fr, ix, kids⟩ (es.length : Int) 0 = true)
    (hB : Below w0.heap.size w0 w) (hc0 : w0.heap.size ≤ c) (hc : Ctr w c 0) :
    Calls Tryz.prog 64 #[v, .agg #[.int .i64 1, .slice none 0 0, .int .i64 0], .pointer (some ⟨c, 0, none⟩)] w (CpPost c (cpN (lvals es) ⟨k, fr, ix, kids⟩) 1 0 w) :=
  un_all es.length (kids.sz + 1) w0 w c 0 1 0 k ix fr v (.slice none 0 0) kids es 0 ks (Nat.lt_succ_self _) rfl hk he hw hB hc0 hc (by omega) (by omega) (by omega) (by omega) (by omega) (by omega) hl (by rw [List.take_zero]; exact Pt.nil w)
end Go.Proofs.YtgcefippeokmcabGreatDoor.Lo

/- UnfoldLocal of the program. -/
namespace Go.Proofs.YtgcefippeokmcabGreatDoor.Lo
open Go.RowKit

set_option maxHeartbeats 2000000 in
set_option maxRecDepth 100000 in
/-- unfoldLinked of the program. -/
theorem unfL_calls (w0 w : World) (g : Nd) (v : Value) (ks : List Nat) (hk : LkN w0 g.k g.fr g.ix g.kids [] v ks) (hw : wN g 0 0 = true) (hh : hN g ≤ 40) (hB : Below w0.heap.size w0 w) :
    Calls Tryz.prog 56 #[v] w fun e w' => ∃ (es : List (Nat × Nd)) (N : Nd) (v' : Value) (ks' : List Nat), e = .returned v' ∧ LkN w0 N.k N.fr N.ix N.kids (blks es) v' ks' ∧ EnvL w0 es ∧ cpN (lvals es) N = unf g ∧ wN N (es.length : Int) 0 = true ∧ es.length ≤ 41 ∧ (∃ T x, v' = .iface T x) ∧ Below w.heap.size w w' := by
  obtain ⟨T, hT⟩ : ∃ T, T = unf g := ⟨_, rfl⟩
  have HST : Hid (∃ (es : List (Nat × Nd)) (N : Nd) (ks' : List Nat), UlIs T (g.kids.sz + 1) (lvals es) N ∧ LkN w0 N.k N.fr N.ix N.kids (blks es) v ks' ∧ EnvL w0 es ∧ Below w.heap.size w w) :=
    hide ⟨[], g, ks, by rw [hT]; exact UlIs.start hw hh, hk, trivial, Below.refl _ _⟩
  have HB := hide hB
  rw [← hT]
  clear hk hw hh hB hT
  go_enter Tryz.func56, Tryz.ntmps56
  go_wp2_with fail
  go_loopg [0] (g.kids.sz + 1) (fun n vv wr => ∃ (es : List (Nat × Nd)) (N : Nd) (ks' : List Nat), UlIs T n (lvals es) N ∧ LkN w0 N.k N.fr N.ix N.kids (blks es) vv ks' ∧ EnvL w0 es ∧ Below w.heap.size w wr)
  case atStart => exact HST.out
  case round =>
    obtain ⟨es, N, ks', hul, hln, he, hb⟩ := hrel
    clear HST
    have hlw := hul.w
    have hlh := hul.h
    rw [lvals_len] at hlw hlh
    have h41 : es.length ≤ 41 := by omega
    have hw0 := wN_u _ _ _ 0 hlw (by omega)
    have hnv := not_var hlw
    rcases id hln with ⟨h1, rfl, -⟩ | ⟨h5, -⟩ | ⟨h4, L, s, u, k2, rfl, -⟩ | ⟨h2, A, r, cp, cs, xs, k2, rfl, -⟩
    · have HE := hide (And.intro (hul.stop (by omega)) (And.intro hw0 (And.intro hln he)))
      have n1 := taEndLoop
      have n2 := taEndVar
      clear hul hln he hlw hlh hw0 hnv
      go_wp2_with fail
      go_ret
      exact ⟨es, N, _, ks', rfl, HE.out.2.2.1, HE.out.2.2.2, HE.out.1, HE.out.2.1, h41, ⟨_, _, rfl⟩, hb⟩
    · exact absurd h5 hnv
    · obtain ⟨lab, k', fr', ix', kids', hkid, hw'⟩ := rec_kid hlw h4
      cases gk with
      | zero => exact absurd hul.sz (by omega)
      | succ n =>
      have hfit : Fit (cpN (lvals es) N) := cpN_fit (EnvL.fits es he (by omega)) (fit_of_w hw0 (by omega) (by omega))
      have hstep := hul.step h4 hfit hkid (by rw [lvals_len]; exact hw')
      have hln2 := hln
      rw [h4, hkid] at hln2
      obtain ⟨L2, T2, x, ks2, hv2, hbL, hLp, hln3⟩ := linked_rec hln2
      have hLL : L = L2 := by
        injection hv2 with _ hv2
        injection hv2 with hv2
        injection hv2 with hv2
        injection hv2 with hv2
      subst hLL
      have henv : EnvL w0 ((L, N) :: es) := ⟨h4, hw0, ⟨ks', hln⟩, hLp, he⟩
      have HR : Hid (∃ (es : List (Nat × Nd)) (N : Nd) (ks' : List Nat), UlIs T n (lvals es) N ∧ LkN w0 N.k N.fr N.ix N.kids (blks es) (.iface T2 x) ks' ∧ EnvL w0 es ∧ Below w.heap.size w wr) :=
        hide ⟨(L, N) :: es, ⟨k', fr', ix', kids'⟩, ks2, hstep, by rw [blks_cons]; exact hln3, henv, hb⟩
      have y0 : wr.cell? ⟨L, 0, none⟩ = some (.iface T2 x) := ((hbL.below HB.out).below hb).cell 0
      have yl := World.block_lt_of_cell? _ _ y0
      have n1 := taLoopLoop
      clear hul hln he hlw hlh hw0 hnv hln2 hln3 hbL hLp henv hstep hfit hkid hw' hv2 h4
      go_wp2_with fail
      go_roundg n
      case measure => omega
      case rel => exact HR.out
    · have HE := hide (And.intro (hul.stop (by omega)) (And.intro hw0 (And.intro hln he)))
      have n1 := taActLoop
      have n2 := taActVar
      clear hul hln he hlw hlh hw0 hnv
      go_wp2_with fail
      go_ret
      exact ⟨es, N, _, ks', rfl, HE.out.2.2.1, HE.out.2.2.2, HE.out.1, HE.out.2.1, h41, ⟨_, _, rfl⟩, hb⟩

/-- Whether a tree keeps the limits. -/
def smallN (N : Nd) : Bool := decide (hN N ≤ 40) && decide (N.kids.sz + 1 ≤ 400)
theorem smallN_iff (N : Nd) : smallN N = true ↔ (0 + (N.kids.sz + 1) ≤ 400 ∧ (1 : Int) + (hF N.kids : Int) ≤ 40) := by
  unfold smallN hN
  simp only [Bool.and_eq_true, decide_eq_true_eq]
  omega

set_option maxHeartbeats 2000000 in
set_option maxRecDepth 100000 in
/-- unlinkLocal of the program. -/
theorem unlinkL_calls (w0 w : World) (N R : Nd) (v : Value) (es : List (Nat × Nd)) (ks : List Nat) (hl : es.length ≤ 1000) (hk : LkN w0 N.k N.fr N.ix N.kids (blks es) v ks) (he : EnvL w0 es) (hw : wN N (es.length : Int) 0 = true) (hB : Below w0.heap.size w0 w) (hv : ∃ T x, v = .iface T x) (hR : cpN (lvals es) N = R) :
    Calls Tryz.prog 55 #[v] w (MadeR (if smallN R = true then R else zeroNd) (smallN R) w) := by
  obtain ⟨T, x, rfl⟩ := hv
  have hA := alloc_below w (.cells #[.int .i64 0, .string ⟨#[]⟩, .int .i64 0, .slice none 0 0] ( /- t -/ 33))
  have hA2 := hA.alloc (by simp) (.cells #[.int .i64 0] ( /- t -/ 3))
  have hz0 := (Box4.now w (.int .i64 0) (.string ⟨#[]⟩) (.int .i64 0) (.slice none 0 0) ( /- t -/ 33)).below (alloc_below _ (.cells #[.int .i64 0] ( /- t -/ 3)))
  have hc : Ctr ((w.alloc (.cells #[.int .i64 0, .string ⟨#[]⟩, .int .i64 0, .slice none 0 0] ( /- t -/ 33))).alloc (.cells #[.int .i64 0] ( /- t -/ 3))) (w.heap.size + 1) 0 :=
    ⟨_, by have := alloc_last (w.alloc (.cells #[.int .i64 0, .string ⟨#[]⟩, .int .i64 0, .slice none 0 0] ( /- t -/ 33))) #[.int .i64 0] ( /- t -/ 3); simpa using this⟩
  have hs := hB.size
  have HC : Hid (Calls Tryz.prog 64 #[.iface T x, .agg #[.int .i64 1, .slice none 0 0, .int .i64 0], .pointer (some ⟨w.heap.size + 1, 0, none⟩)] ((w.alloc (.cells #[.int .i64 0, .string ⟨#[]⟩, .int .i64 0, .slice none 0 0] ( /- t -/ 33))).alloc (.cells #[.int .i64 0] ( /- t -/ 3))) (CpPost (w.heap.size + 1) R 1 0 ((w.alloc (.cells #[.int .i64 0, .string ⟨#[]⟩, .int .i64 0, .slice none 0 0] ( /- t -/ 33))).alloc (.cells #[.int .i64 0] ( /- t -/ 3))))) :=
    hide (by rw [← hR]; exact unlink_calls w0 _ (w.heap.size + 1) N.k N.ix N.fr (.iface T x) N.kids es ks hl hk he hw (hB.trans (hA2.mono hs)) (by omega) hc)
  have HZ := hide hz0
  have HA := hide hA2
  obtain ⟨ok, hok⟩ : ∃ ok, ok = smallN R := ⟨_, rfl⟩
  obtain ⟨Q, hQ⟩ : ∃ Q, Q = (if smallN R = true then R else zeroNd) := ⟨_, rfl⟩
  rw [← hQ, ← hok]
  have HQ := hide (And.intro hok hQ)
  clear hA hA2 hz0 hc hk he hw hB hR hl hok hQ
  go_enter Tryz.func55, Tryz.ntmps55
  go_wp2_with fail
  refine HC.out.mono ?_
  clear HC
  have hW0 : ((w.alloc (.cells #[.int .i64 0, .string ⟨#[]⟩, .int .i64 0, .slice none 0 0] ( /- t -/ 33))).alloc (.cells #[.int .i64 0] ( /- t -/ 3))).heap.size = w.heap.size + 2 := by simp
  generalize (w.alloc (.cells #[.int .i64 0, .string ⟨#[]⟩, .int .i64 0, .slice none 0 0] ( /- t -/ 33))).alloc (.cells #[.int .i64 0] ( /- t -/ 3)) = W at *
  rintro e w1 ⟨a', ho, hc, hcase⟩
  have hz1 := HZ.out.only ho (by omega)
  have hb1 : Below w.heap.size w w1 := HA.out.trans (ho.to_below (by omega) (by omega))
  obtain ⟨z0, z1, z2, z3⟩ := hz1.cells
  have fz := hz1.frozen
  have hzl := hz1.lt
  have HB1 := hide hb1
  clear hz1 hb1 ho hc
  rcases hcase with ⟨h1, h2, h3, u, bs, rfl, how, hge, hnd⟩ | ⟨hno, rfl⟩
  · obtain ⟨ua, uc, rfl⟩ := how.val
    have hsm : ok = true ∧ Q = R := by
      have h9 := (smallN_iff R).2 ⟨h1, h2⟩
      exact ⟨HQ.out.1.trans h9, HQ.out.2.trans (if_pos h9)⟩
    have HSM := hide hsm
    have HOW := hide how
    have HGE := hide hge
    clear how hge h1 h2 h3 hsm
    go_wp2_with fail
    refine bodyPost_ret (v := .tuple #[.agg #[.int .i64 R.k, .string R.fr, .int .i64 R.ix, .slice ua R.kids.len uc], .bool true]) (by simp [results, Tryz.results55, go_sem, *]) rfl ?_
    have q : ∀ b, b ∈ bs → w.heap.size < b := fun b h => by have := HGE.out b h; omega
    rw [HSM.out.1, HSM.out.2]
    refine ⟨_, bs, rfl, HOW.out.same (same_setAll (fun b hb => Nat.ne_of_gt (q b hb)) _ _ _ _), fun b hb => Nat.le_of_lt (q b hb), hnd, ?_⟩
    exact (((HB1.out.setCell (Nat.le_refl _) _).setCell (Nat.le_refl _) _).setCell (Nat.le_refl _) _).setCell (Nat.le_refl _) _
  · have hsm : smallN R = false := by
      cases h : smallN R with
      | false => rfl
      | true => exact absurd ((smallN_iff R).1 h) hno
    have HSM : Hid (ok = false ∧ Q = zeroNd) := hide ⟨HQ.out.1.trans hsm, HQ.out.2.trans (if_neg (by rw [hsm]; decide))⟩
    clear hno hsm
    go_wp2_with fail
    refine bodyPost_ret (v := .tuple #[.agg #[.int .i64 0, .string ⟨#[]⟩, .int .i64 0, .slice none 0 0], .bool false]) (by simp [results, Tryz.results55, go_sem, *]) rfl ?_
    rw [HSM.out.1, HSM.out.2]
    refine MadeR.zero ?_
    exact (((HB1.out.setCell (Nat.le_refl _) _).setCell (Nat.le_refl _) _).setCell (Nat.le_refl _) _).setCell (Nat.le_refl _) _

set_option maxHeartbeats 2000000 in
set_option maxRecDepth 100000 in
/-- UnfoldLocal of the program. -/
theorem implUnf (w : World) (g : Nd) (sv : Value) (hs : Sl w sv g.kids) :
    Calls Tryz.prog 45 #[.agg #[.int .i64 g.k, .string g.fr, .int .i64 g.ix, sv]] w (MadeR (unfR g) (unfOk g) w) := by
  have HS := hide hs
  have hb0 := (alloc_below w (.cells #[.int .i64 g.k, .string g.fr, .int .i64 g.ix, sv] ( /- t -/ 33))).alloc (by simp) (.cells #[.int .i64 0, .string ⟨#[]⟩, .int .i64 0, .slice none 0 0] ( /- t -/ 33))
  have hz0 := Box4.now (w.alloc (.cells #[.int .i64 g.k, .string g.fr, .int .i64 g.ix, sv] ( /- t -/ 33))) (.int .i64 0) (.string ⟨#[]⟩) (.int .i64 0) (.slice none 0 0) ( /- t -/ 33)
  rw [show (w.alloc (.cells #[.int .i64 g.k, .string g.fr, .int .i64 g.ix, sv] ( /- t -/ 33))).heap.size = w.heap.size + 1 from by simp] at hz0
  have HB0 := hide hb0
  have HZ0 := hide hz0
  obtain ⟨ok, hok⟩ : ∃ ok, ok = unfOk g := ⟨_, rfl⟩
  obtain ⟨R, hR⟩ : ∃ R, R = unfR g := ⟨_, rfl⟩
  rw [← hR, ← hok]
  have HRK := hide (And.intro hok hR)
  clear hs hb0 hz0 hok hR
  go_enter Tryz.func45, Tryz.ntmps45
  go_wp2_with fail
  generalize (w.alloc (.cells #[.int .i64 g.k, .string g.fr, .int .i64 g.ix, sv] ( /- t -/ 33))).alloc (.cells #[.int .i64 0, .string ⟨#[]⟩, .int .i64 0, .slice none 0 0] ( /- t -/ 33)) = W at *
  refine (implLink W g.k g.ix g.fr sv g.kids (HS.out.still (Still.of_below HB0.out))).mono ?_
  rintro e w1 ⟨u, bs, rfl, hu, hb, hok⟩
  have HZ1 := hide (HZ0.out.below hb)
  have HB1 := hide (HB0.out.trans (hb.mono HB0.out.size))
  have HOK := hide hok
  clear hb HZ0 HB0 hok
  cases hok : okN g.k g.fr g.ix g.kids with
  | false =>
    have hr : unfOk g = false := by unfold unfOk okG; rw [hok]; rfl
    have HR := hide hr
    obtain ⟨z0, z1, z2, z3⟩ := HZ1.out.cells
    have fz := HZ1.out.frozen
    have hzl := HZ1.out.lt
    clear hok hr HOK
    rcases hu with rfl | ⟨T, x, rfl⟩
    all_goals
      go_wp2_with fail
      refine bodyPost_ret (v := .tuple #[.agg #[.int .i64 0, .string ⟨#[]⟩, .int .i64 0, .slice none 0 0], .bool false]) (by simp [results, Tryz.results45, go_sem, *]) rfl ?_
      have e1 : unfR g = zeroNd := by unfold unfR; rw [HR.out]; rfl
      rw [HRK.out.1, HRK.out.2, HR.out, e1]
      refine MadeR.zero ?_
      repeat (refine Below.setCell ?_ (by first | (simp; done) | (simp; omega)) _)
      exact HB1.out
  | true =>
    have hg : okG g = true := hok
    obtain ⟨hw, hh, hsz⟩ := okG_w hg
    have hln := (HOK.out hok).1
    obtain ⟨T, x, rfl⟩ := hln.val
    have hwT : wN (unf g) 0 0 = true := unfN_w _ _ _ (fun x hx => by simp at hx) hw
    have hOK : unfOk g = smallN (unf g) := by unfold unfOk smallN; rw [hg, okG_of_w hwT, Bool.true_and]
    have hRR : unfR g = if smallN (unf g) = true then unf g else zeroNd := by unfold unfR; rw [hOK]
    have HH := hide (And.intro hln (And.intro hw hh))
    have HRR := hide (And.intro (HRK.out.1.trans hOK) (HRK.out.2.trans hRR))
    clear hok hg hw hh hsz hln hwT hOK hRR HOK hu
    go_wp2_with fail
    refine (unfL_calls w1 w1 g _ bs HH.out.1 HH.out.2.1 HH.out.2.2 (Below.refl _ _)).mono ?_
    rintro e w2 ⟨es, N, v', ks', rfl, hln, he, hcp, hwN, h41, ⟨T2, x2, rfl⟩, hb2⟩
    have HZ2 := hide (HZ1.out.below hb2)
    have HB2 := hide (HB1.out.trans (hb2.mono HB1.out.size))
    have HL := hide (And.intro hln (And.intro he (And.intro hcp (And.intro hwN hb2))))
    clear hln he hcp hwN hb2 HZ1 HH
    go_wp2_with fail
    refine (unlinkL_calls w1 w2 N (unf g) _ es ks' (by omega) HL.out.1 HL.out.2.1 HL.out.2.2.2.1 HL.out.2.2.2.2 ⟨_, _, rfl⟩ HL.out.2.2.1).mono ?_
    rw [← HRR.out.2, ← HRR.out.1]
    rintro e w3 ⟨u3, bs3, rfl, how, hge, hnd, hb3⟩
    obtain ⟨ua, uc, rfl⟩ := how.val
    have hz3 := HZ2.out.below hb3
    have hw2l := HZ2.out.lt
    have HB3 := hide (HB2.out.trans (hb3.mono HB2.out.size))
    obtain ⟨z0, z1, z2, z3⟩ := hz3.cells
    have fz := hz3.frozen
    have hzl := hz3.lt
    have HOW := hide how
    have HGE := hide hge
    clear how hge hb3 hz3 HL HB1 HB2
    go_wp2_with fail
    refine bodyPost_ret (v := .tuple #[.agg #[.int .i64 R.k, .string R.fr, .int .i64 R.ix, .slice ua R.kids.len uc], .bool ok]) (by simp [results, Tryz.results45, go_sem, *]) rfl ?_
    have q : ∀ b, b ∈ bs3 → w.heap.size + 1 < b := fun b h => by have := HGE.out b h; omega
    refine ⟨_, bs3, rfl, HOW.out.same (same_setAll (fun b hb => Nat.ne_of_gt (q b hb)) _ _ _ _), fun b hb => by have := q b hb; omega, hnd, ?_⟩
    repeat (refine Below.setCell ?_ (by first | (simp; done) | (simp; omega)) _)
    exact HB3.out
end Go.Proofs.YtgcefippeokmcabGreatDoor.Lo

/- writeLinked of the program. -/
namespace Go.Proofs.YtgcefippeokmcabGreatDoor.Lo
open Go.RowKit

/-- A scope's row is none of the builder's blocks. -/
theorem Pt.kp {w w' : World} {v : Value} {ps : List Nat} {B bb : Nat} {bs : List Value} (h : Pt w v ps) (hb : Lib.IsBuilderF ( /- t -/ 96) ( /- t -/ 5) B bb bs w) (hk : Kp B bb w w') : Pt w' v ps := by
  refine h.keep fun b cs hc => hk.cells hc ?_ (by decide)
  rintro rfl
  rcases hb with hb | hb
  · obtain ⟨-, v', h2, -⟩ := hb
    rw [hc] at h2
    injection h2 with h2
    injection h2 with _ h2
    exact absurd h2 (by decide)
  · obtain ⟨-, v', h2, -⟩ := hb
    rw [hc] at h2
    injection h2 with h2
    injection h2 with _ h2
    exact absurd h2 (by decide)
theorem bu_lt {w : World} {B bb : Nat} {bs : List Value} (hb : Lib.IsBuilderF ( /- t -/ 96) ( /- t -/ 5) B bb bs w) : bb < w.heap.size := by
  rcases hb with h | h
  · exact h.lt
  · exact h.lt

/-- What writeLinked owes. -/
def WlPost (w : World) (B bb : Nat) (bs : List Value) (t : ByteArray) (e : Ending) (w' : World) : Prop :=
  e = .returned (.tuple #[]) ∧ Lib.IsBuilderF ( /- t -/ 96) ( /- t -/ 5) B bb (bs ++ Lib.strCells t) w' ∧ Kp B bb w w'

def WlAt (n : Nat) : Prop := ∀ (w0 w : World) (B bb : Nat) (bs : List Value) (k ix u d dp un : Int) (fr : ByteArray) (v lv : Value) (kids : F) (ps ks : List Nat), kids.sz < n → kids.sz ≤ 400 → LkN w0 k fr ix kids ps v ks → w0.heap.size ≤ B → Below w0.heap.size w0 w → B ≤ w.heap.size →
  Pt w lv ps → ps.Nodup → (∀ x, x ∈ ps → ∃ cs, Blk w0 x cs) → 0 ≤ u → ps.length + d ≤ 40 → 0 ≤ dp → dp + d ≤ 40 → 0 ≤ un → un ≤ dp → vldN k fr ix kids ps.length u d = true → Lib.IsBuilderF ( /- t -/ 96) ( /- t -/ 5) B bb bs w → bs.length + (txN k fr ix kids).size ≤ 1048576 →
  Calls Tryz.prog 62 #[.pointer (some ⟨bb, 0, none⟩), v, .agg #[.int .i64 dp, lv, .int .i64 un]] w (WlPost w B bb bs (txN k fr ix kids))

set_option maxHeartbeats 400000 in
set_option maxRecDepth 100000 in
theorem wl_end (w : World) (B bb : Nat) (bs : List Value) (ix dp un : Int) (fr : ByteArray) (lv : Value) (kids : F) (ps : List Nat) (hB : B ≤ w.heap.size) (hp : Pt w lv ps) (hbu : Lib.IsBuilderF ( /- t -/ 96) ( /- t -/ 5) B bb bs w) (hlen : bs.length + (txN 1 fr ix kids).size ≤ 1048576) :
    Calls Tryz.prog 62 #[.pointer (some ⟨bb, 0, none⟩), .iface ( /- t -/ 120) (.agg #[]), .agg #[.int .i64 dp, lv, .int .i64 un]] w (WlPost w B bb bs (txN 1 fr ix kids)) := by
  obtain ⟨a, cap, rfl, -, -⟩ := hp.ps.val
  have h5 : 1 ≤ 1048576 - bs.length ∧ bs.length ≤ 1048576 := by
    have e1 : (txN 1 fr ix kids).size = 1 := rfl
    omega
  have hb1 := alloc_below w (.cells #[.int .i64 dp, .slice a ps.length cap, .int .i64 un] ( /- t -/ 104))
  have hb2 := hb1.alloc hb1.size (.cells #[] ( /- t -/ 120))
  have HBU := hide hbu
  have HB2 := hide hb2
  clear hp hbu hlen hb1 hb2
  have n1 := taEndEnd
  go_enter Tryz.func62, Tryz.ntmps62
  go_wp2_with fail
  refine (write_byte B bb bs 46 _ (bu_below HBU.out HB2.out) (by omega) (Nat.le_trans hB HB2.out.size)).mono ?_
  rintro e w2 ⟨rfl, hat, hb3, ho3⟩
  go_wp2_with fail
  go_end0
  exact ⟨rfl, Or.inr hat, ((Kp.refl B bb w).of_below hB HB2.out).trans ⟨hb3, ho3⟩⟩

set_option maxHeartbeats 400000 in
set_option maxRecDepth 100000 in
theorem wl_var (w0 w : World) (B bb : Nat) (bs : List Value) (i j l : Nat) (dp un : Int) (fr : ByteArray) (lv : Value) (kids : F) (ps : List Nat) (hB : B ≤ w.heap.size) (hw : Below w0.heap.size w0 w) (hp : Pt w lv ps) (hnd : ps.Nodup) (hpb : ∀ x, x ∈ ps → ∃ cs, Blk w0 x cs) (hl : ps[j]? = some l) (hj : ps.length = j + 1 + i) (h40 : ps.length ≤ 40)
    (hbu : Lib.IsBuilderF ( /- t -/ 96) ( /- t -/ 5) B bb bs w) (hlen : bs.length + (txN 5 fr i kids).size ≤ 1048576) :
    Calls Tryz.prog 62 #[.pointer (some ⟨bb, 0, none⟩), .iface ( /- t -/ 112) (.agg #[.pointer (some ⟨l, 0, none⟩)]), .agg #[.int .i64 dp, lv, .int .i64 un]] w (WlPost w B bb bs (txN 5 fr i kids)) := by
  have hi40 : i < 40 := by omega
  have h2 : (bdec i).size ≤ 2 := by
    have := decDigits_small (i := i) (by omega)
    simpa [bdec, ByteArray.size] using this
  have e1 : (⟨(Lib.decDigits i).toArray⟩ : ByteArray) = bdec i := rfl
  obtain ⟨a, cap, rfl, -, -⟩ := hp.ps.val
  have h5 : bs.length + (bhash ++ bdec i).size ≤ 1048576 := hlen
  have H5 := hide h5
  have hb1 := alloc_below w (.cells #[.int .i64 dp, .slice a ps.length cap, .int .i64 un] ( /- t -/ 104))
  have hb2 := hb1.alloc hb1.size (.cells #[.pointer (some ⟨l, 0, none⟩)] ( /- t -/ 112))
  have HBU := hide hbu
  have HB2 := hide hb2
  have HP := hide hp
  have HND := hide hnd
  have HPB := hide hpb
  have HL := hide hl
  have HJ := hide hj
  clear hp hbu hlen hb1 hb2 hnd hpb hl hj h5
  have n1 := taVarEnd
  have n2 := taVarVar
  go_enter Tryz.func62, Tryz.ntmps62
  go_wp2_with fail
  refine (idx_calls _ dp un _ ps l i j ((HP.out.below HB2.out).ps) HND.out HL.out HJ.out (by omega) (fun x hx => by obtain ⟨cs, h⟩ := HPB.out x hx; exact ⟨cs, (h.below hw).below HB2.out⟩)).mono ?_
  rintro e w1 ⟨rfl, hb3⟩
  have HB3 := hide (HB2.out.trans (hb3.mono HB2.out.size))
  clear hb3
  go_wp2_with fail
  refine (Tryz.strconv_Itoa_small i (by omega) _).mono ?_
  rintro e w3 ⟨rfl, rfl⟩
  rw [e1]
  go_wp2_with fail
  refine (write_string B bb bs (bhash ++ bdec i) _ (bu_below HBU.out HB3.out) (by have := H5.out; omega) (Nat.le_trans hB HB3.out.size)).mono ?_
  rintro e w2 ⟨rfl, hat, hb3, ho3⟩
  go_wp2_with fail
  go_end0
  exact ⟨rfl, Or.inr hat, ((Kp.refl B bb w).of_below hB HB3.out).trans ⟨hb3, ho3⟩⟩

end Go.Proofs.YtgcefippeokmcabGreatDoor.Lo

/- writeLinked of the program: recursions. -/
namespace Go.Proofs.YtgcefippeokmcabGreatDoor.Lo
open Go.RowKit

set_option maxHeartbeats 3200000 in
set_option maxRecDepth 100000 in
theorem wl_rec (n : Nat) (ih : WlAt n) (w0 w : World) (B bb : Nat) (bs : List Value) (ix u d dp un : Int) (fr : ByteArray) (v lv : Value) (kids : F) (ps ks : List Nat) (hn : kids.sz < n + 1) (hbig : kids.sz ≤ 400) (hk : LkN w0 4 fr ix kids ps v ks) (h0 : w0.heap.size ≤ B) (hw : Below w0.heap.size w0 w) (hB : B ≤ w.heap.size)
    (hp : Pt w lv ps) (hnd : ps.Nodup) (hpb : ∀ x, x ∈ ps → ∃ cs, Blk w0 x cs) (hu : 0 ≤ u) (hd1 : 1 ≤ d) (hbd : ps.length + d ≤ 40) (hdp : 0 ≤ dp) (hdd : dp + d ≤ 40) (hun : 0 ≤ un) (hund : un ≤ dp) (hsh : shapeB 4 fr ix kids = true) (hv : vldF kids (ps.length + 1) (u + 1) (d - 1) = true)
    (hbu : Lib.IsBuilderF ( /- t -/ 96) ( /- t -/ 5) B bb bs w) (hlen : bs.length + (txN 4 fr ix kids).size ≤ 1048576) :
    Calls Tryz.prog 62 #[.pointer (some ⟨bb, 0, none⟩), v, .agg #[.int .i64 dp, lv, .int .i64 un]] w (WlPost w B bb bs (txN 4 fr ix kids)) := by
  obtain ⟨e1, rfl, lab, k', fr', ix', kids', rfl, e3⟩ := shape_rec hsh
  have hvn : vldN k' fr' ix' kids' (ps.length + 1) (u + 1) (d - 1) = true := by
    simp only [vldF, Bool.and_true] at hv
    exact hv
  have htx : txN 4 fr 0 (.cons lab k' fr' ix' kids' .nil) = bat ++ txN k' fr' ix' kids' := rfl
  rw [htx] at hlen ⊢
  have hl2 : bs.length + 1 + (txN k' fr' ix' kids').size ≤ 1048576 := by
    rw [ByteArray.size_append] at hlen
    have e1 : bat.size = 1 := rfl
    omega
  obtain ⟨L, T, x, ks', rfl, hbL, hLp, hln⟩ := linked_rec hk
  obtain ⟨a, cap, rfl, -, -⟩ := hp.ps.val
  have hb1 := alloc_below w (.cells #[.int .i64 dp, .slice a ps.length cap, .int .i64 un] ( /- t -/ 104))
  have hX := alloc_last w #[.int .i64 dp, .slice a ps.length cap, .int .i64 un] ( /- t -/ 104)
  have hbw := bu_lt hbu
  have HBU := hide hbu
  have HL := hide hl2
  have HB1 := hide hb1
  have HX := hide hX
  have HP := hide hp
  have HND := hide hnd
  have HPB := hide hpb
  have HBL := hide hbL
  have HLP := hide hLp
  have HLN := hide hln
  have HN := hide hn
  have HG := hide hbig
  have HVN := hide hvn
  have HW := hide hw
  clear hp hbu hlen hl2 hb1 hX hnd hpb hbL hLp hln hn hbig hvn hw hk hsh hv htx e1 e3
  have n1 := taLoopEnd
  have n2 := taLoopVar
  have n3 := taLoopLoop
  go_enter Tryz.func62, Tryz.ntmps62
  go_wp2_with fail
  refine (write_byte B bb bs 64 _ (bu_below HBU.out HB1.out) (by have := HL.out; omega) (Nat.le_trans hB HB1.out.size)).mono ?_
  rintro e w2 ⟨rfl, hat, hb3, ho3⟩
  have kp := ((Kp.refl B bb w).of_below hB HB1.out).trans ⟨hb3, ho3⟩
  have hX2 := (Kp.mk hb3 ho3).cells HX.out (by omega) (by decide)
  have x0 := cell_of_heap (o := 0) hX2
  have x1 := cell_of_heap (o := 1) hX2
  have x2 := cell_of_heap (o := 2) hX2
  simp only [List.getElem?_toArray, List.getElem?_cons_zero, List.getElem?_cons_succ] at x0 x1 x2
  have hXl : w.heap.size < w2.heap.size := World.block_lt_of_cell? _ _ x0
  have hLB : L < w0.heap.size := HBL.out.lt
  have hbL2 : Blk w2 L #[.iface T x] := HBL.out.same ((kp.below.block L (by omega)).trans (HW.out.block L hLB))
  have y0 : w2.cell? ⟨L, 0, none⟩ = some (.iface T x) := hbL2.cell 0
  have hLl : L < w2.heap.size := hbL2.lt
  have hB2 : B ≤ w2.heap.size := Nat.le_trans hB kp.below.size
  have hpt : Pt w2 (.slice a ps.length cap) ps := HP.out.kp HBU.out kp
  have HPT := hide hpt
  have HAT := hide hat
  have HKP := hide kp
  have HX2 := hide hX2
  have hptd : Ps w2.drew (.slice a ps.length cap) ps := hpt.ps
  have HPTD := hide hptd
  have hbud : Lib.IsBuilderF ( /- t -/ 96) ( /- t -/ 5) B bb (bs ++ [.int .u8 64]) w2.drew := Or.inr hat
  have HBUD := hide hbud
  have hX2d : w2.drew.heap[w.heap.size]? = some (.cells #[.int .i64 dp, .slice a ps.length cap, .int .i64 un] ( /- t -/ 104) (0, 0)) := hX2
  have HX2D := hide hX2d
  have hbwX : w.heap.size ≠ bb := by omega
  clear hb3 ho3 hat kp hX2 hbL2 hpt hptd hbud hX2d HX2
  go_wp2_with fail
  go_region_held3 (fun w' => w'.cell? ⟨L, 0, none⟩ = some (.iface T x) ∧ w'.cell? ⟨w.heap.size, 0, none⟩ = some (.int .i64 dp) ∧ w'.cell? ⟨w.heap.size, 1, none⟩ = some (.slice a ps.length cap) ∧ w'.cell? ⟨w.heap.size, 2, none⟩ = some (.int .i64 un))
    (first | exact ⟨y0, x0, x1, x2⟩ | exact ⟨g0, g1, g2, g3⟩ | exact ⟨l0, l1, l2, l3⟩)
    ((first
      | (go_at_call 76; refine (ins_calls _ dp un _ ps L ?_ (by omega) (by omega) (by omega) (by omega) (by omega)).mono ?_; (exact HPTD.out);
         rintro e w3 ⟨v', cap', rfl, hp3, hb3⟩; have hst := Still.of_below hb3; have g0 := hst _ _ y0; have g1 := hst _ _ x0; have g2 := hst _ _ x1; have g3 := hst _ _ x2;
         have kp3 := HKP.out.drew.of_below hB2 hb3)
      | (go_at_call 62; refine (ih w0 _ B bb (bs ++ [.int .u8 64]) k' ix' (u + 1) (d - 1) (dp + 1) (un + 1) fr' _ _ kids' (ps ++ [L]) ks' ?_ ?_ HLN.out h0 ?_ ?_ ?_ (nodup_snoc HND.out HLP.out) ?_ (by omega) (by simp; omega) (by omega) (by omega) (by omega) (by omega) ?_ ?_ ?_).mono ?_;
         (have := HN.out; simp only [F.sz] at this; omega); (have := HG.out; simp only [F.sz] at this; omega); (exact HW.out.trans (kp3.below.mono h0)); (exact Nat.le_trans hB kp3.below.size); (exact hp3);
         (intro y hy; rcases List.mem_append.1 hy with hy | hy; exact HPB.out y hy; rw [List.mem_singleton.1 hy]; exact ⟨_, HBL.out⟩);
         (have h9 := HVN.out; rw [show (((ps ++ [L]).length : Nat) : Int) = (ps.length : Int) + 1 by simp]; exact h9); (exact bu_below HBUD.out hb3); (have := HL.out; rw [List.length_append]; show bs.length + 1 + _ ≤ _; omega);
         rintro e w4 ⟨rfl, hat4, kp4⟩;
         have kpA := kp3.trans kp4;
         have hbL4 := HBL.out.same ((kpA.below.block L (by omega)).trans (HW.out.block L hLB));
         have l0 : w4.cell? ⟨L, 0, none⟩ = some (.iface T x) := hbL4.cell 0;
         have hX4 := (((Kp.refl B bb w2.drew).of_below hB2 hb3).trans kp4).cells HX2D.out hbwX (by decide);
         have l1 : w4.cell? ⟨w.heap.size, 0, none⟩ = some (.int .i64 dp) := cell_of_heap (o := 0) hX4;
         have l2 : w4.cell? ⟨w.heap.size, 1, none⟩ = some (.slice a ps.length cap) := cell_of_heap (o := 1) hX4;
         have l3 : w4.cell? ⟨w.heap.size, 2, none⟩ = some (.int .i64 un) := cell_of_heap (o := 2) hX4)))
  go_wp2_with fail
  go_end0
  refine ⟨rfl, ?_, kpA⟩
  rw [strCells_append]
  rw [List.append_assoc] at hat4
  exact hat4
end Go.Proofs.YtgcefippeokmcabGreatDoor.Lo

/- writeLinked of the program: actions; FormatLocal of the program. -/
namespace Go.Proofs.YtgcefippeokmcabGreatDoor.Lo
open Go.RowKit

theorem mark_false (w : World) : Calls Tryz.prog 77 #[.bool false] w fun e w' => e = .returned (.string ⟨#[33]⟩) ∧ w' = w := by
  go_enter Tryz.func77, Tryz.ntmps77
  go_wp2_with fail
  go_ret
  exact ⟨rfl, rfl⟩
theorem mark_true (w : World) : Calls Tryz.prog 77 #[.bool true] w fun e w' => e = .returned (.string ⟨#[63]⟩) ∧ w' = w := by
  go_enter Tryz.func77, Tryz.ntmps77
  go_wp2_with fail
  go_ret
  exact ⟨rfl, rfl⟩

set_option maxHeartbeats 3200000 in
set_option maxRecDepth 100000 in
theorem wl_act2 (n : Nat) (ih : WlAt n) (w0 w : World) (B bb : Nat) (bs : List Value) (ix d dp un : Int) (fr : ByteArray) (v lv : Value) (kids : F) (ps ks : List Nat) (hn : kids.sz < n + 1) (hbig : kids.sz ≤ 400) (hk : LkN w0 2 fr ix kids ps v ks) (h0 : w0.heap.size ≤ B) (hw : Below w0.heap.size w0 w) (hB : B ≤ w.heap.size)
    (hp : Pt w lv ps) (hnd : ps.Nodup) (hpb : ∀ x, x ∈ ps → ∃ cs, Blk w0 x cs) (hd1 : 1 ≤ d) (hbd : ps.length + d ≤ 40) (hdp : 0 ≤ dp) (hdd : dp + d ≤ 40) (hsh : shapeB 2 fr ix kids = true) (hv : vldF kids ps.length 0 (d - 1) = true)
    (hbu : Lib.IsBuilderF ( /- t -/ 96) ( /- t -/ 5) B bb bs w) (hlen : bs.length + (txN 2 fr ix kids).size ≤ 1048576) :
    Calls Tryz.prog 62 #[.pointer (some ⟨bb, 0, none⟩), v, .agg #[.int .i64 dp, lv, .int .i64 un]] w (WlPost w B bb bs (txN 2 fr ix kids)) := by
  have htx : txN 2 fr ix kids = fr ++ mark 2 ++ txF kids .first ++ bclose := rfl
  obtain ⟨e1, rfl, e5⟩ := shape_act (Or.inl rfl) hsh
  have hfr : fr.size = 1 := role_size e1
  have hmk : mark 2 = ⟨#[33]⟩ := rfl
  have hfm : (fr ++ mark 2).size = 2 := by rw [ByteArray.size_append, mark_size]; omega
  have hl2 : bs.length + 3 + (txF kids .first).size ≤ 1048576 := by
    rw [htx] at hlen
    simp only [ByteArray.size_append, mark_size] at hlen
    have e1 : bclose.size = 1 := rfl
    omega
  obtain ⟨A, r, bc, cs, xs, ks', rfl, hbA, hnc, hcm, hbr, hxs, hlk⟩ := linked_act (Or.inl rfl) hk
  obtain ⟨a, cap, rfl, -, -⟩ := hp.ps.val
  have hb1 := alloc_below w (.cells #[.int .i64 dp, .slice a ps.length cap, .int .i64 un] ( /- t -/ 104))
  have hX := alloc_last w #[.int .i64 dp, .slice a ps.length cap, .int .i64 un] ( /- t -/ 104)
  have hbw := bu_lt hbu
  have hAB : A < w0.heap.size := hbA.lt
  have hrB : r < w0.heap.size := hbr.lt
  have hbA1 : Blk (w.alloc (.cells #[.int .i64 dp, .slice a ps.length cap, .int .i64 un] ( /- t -/ 104))) A #[.int .i64 2, .string fr, .slice (some ⟨r, 0, none⟩) kids.len bc] := (hbA.below hw).below hb1
  have a0 : (w.alloc (.cells #[.int .i64 dp, .slice a ps.length cap, .int .i64 un] ( /- t -/ 104))).cell? ⟨A, 0, none⟩ = some (.int .i64 2) := hbA1.cell 0
  have a1 : (w.alloc (.cells #[.int .i64 dp, .slice a ps.length cap, .int .i64 un] ( /- t -/ 104))).cell? ⟨A, 1, none⟩ = some (.string fr) := hbA1.cell 1
  have hszw := hw.size
  have hAl : A < w.heap.size := by omega
  have hkl : kids.len ≤ 9223372036854775807 := by unfold maxLen at hcm; omega
  have hn1 : ∀ W : World, (Op.stringOp .add fr ⟨#[33]⟩).run Tryz.prog W = .ok (.string (fr ++ mark 2)) W := fun W => run_string_add_sum W _ _ (show fr.size + 1 ≤ _ by omega)
  have HBU := hide hbu
  have HL := hide hl2
  have HB1 := hide hb1
  have HX := hide hX
  have HP := hide hp
  have HND := hide hnd
  have HPB := hide hpb
  have HBA := hide hbA
  have HBR := hide hbr
  have HXS := hide hxs
  have HLK := hide hlk
  have HN := hide hn
  have HG := hide hbig
  have HV := hide hv
  have HW := hide hw
  have HTX := hide htx
  clear hp hbu hlen hl2 hb1 hX hnd hpb hbA hbr hxs hlk hn hbig hw hk hsh hv htx e1 e5 hbA1 hnc hcm hmk
  have n1 := taActEnd
  have n2 := taActVar
  have n3 := taActLoop
  have n4 := taActAct
  go_enter Tryz.func62, Tryz.ntmps62
  go_wp2_with fail
  generalize w.alloc (.cells #[.int .i64 dp, .slice a ps.length cap, .int .i64 un] ( /- t -/ 104)) = W0 at *
  go_still_tail 12, (by kernel_rfl)
  still_call (mark_false _)
  repeat still_step
  refine wpStill_nil ?_
  change wpList _ _ _ _ _ W0.drew
  have HB1 := hide HB1.out.drew
  have HX : Hid (W0.drew.heap[w.heap.size]? = some (.cells #[.int .i64 dp, .slice a ps.length cap, .int .i64 un] ( /- t -/ 104) (0, 0))) := HX
  generalize W0.drew = W1 at *
  go_wp2_with fail
  refine (write_string B bb bs (fr ++ mark 2) _ (bu_below HBU.out HB1.out) (by have := HL.out; omega) (Nat.le_trans hB HB1.out.size)).mono ?_
  rintro e w2 ⟨rfl, hat, hb3, ho3⟩
  have kp := ((Kp.refl B bb w).of_below hB HB1.out).trans ⟨hb3, ho3⟩
  have hX2 := (Kp.mk hb3 ho3).cells HX.out (by omega) (by decide)
  have hbA2 : Blk w2 A #[.int .i64 2, .string fr, .slice (some ⟨r, 0, none⟩) kids.len bc] := HBA.out.same ((kp.below.block A (by omega)).trans (HW.out.block A hAB))
  have b2 : w2.cell? ⟨A, 2, none⟩ = some (.slice (some ⟨r, 0, none⟩) kids.len bc) := hbA2.cell 2
  have hA2 : A < w2.heap.size := hbA2.lt
  have hB2 : B ≤ w2.heap.size := Nat.le_trans hB kp.below.size
  have hpt : Pt w2 (.slice a ps.length cap) ps := HP.out.kp HBU.out kp
  have HPT := hide hpt
  have HAT := hide hat
  have HKP := hide kp
  have HX2 := hide hX2
  clear hb3 ho3 hat kp hX2 hbA2 hpt a0 a1 hn1
  go_wp2_with fail
  go_loopw [10, 65] (fun pv iv wr => ∃ (g : F) (k : Nat) (bs' ys : List Value) (rs : List Nat), k + g.len = kids.len ∧ pv = .string (sepB k) ∧ iv = .int .i64 k ∧ g.sz ≤ kids.sz ∧ Lk w0 g ps ys rs ∧ xs.drop (k * 2) = ys ∧ vldF g ps.length 0 (d - 1) = true ∧
    bs' ++ Lib.strCells (txF g (md k)) = bs ++ Lib.strCells (fr ++ mark 2 ++ txF kids .first) ∧ Lib.IsBuilderF ( /- t -/ 96) ( /- t -/ 5) B bb bs' wr ∧ Kp B bb w2 wr) (fun _ iv _ => kids.len - (intOf iv).toNat)
  case atStart => exact ⟨kids, 0, bs ++ Lib.strCells (fr ++ mark 2), xs, ks', by omega, rfl, rfl, Nat.le_refl _, HLK.out, rfl, HV.out, by rw [strCells_append (fr ++ mark 2), List.append_assoc]; rfl, Or.inr HAT.out, Kp.refl _ _ _⟩
  case round =>
    obtain ⟨g, k, bs', ys, rs, hk, rfl, rfl, h5, hg, hys, hv, htx, hbu, kpr⟩ := hrel
    have hlen' := congrArg List.length htx
    simp only [List.length_append, Lib.strCells_length, ByteArray.size_append, hfr, mark_size] at hlen'
    have HLB := hide hlen'
    have HTX2 := hide htx
    have HBR2 := hide hbu
    have HKR := hide kpr
    have hBr : B ≤ wr.heap.size := Nat.le_trans hB2 kpr.below.size
    cases g with
    | nil =>
      have H5 : Hid (k = kids.len) := by unfold Hid; simpa [F.len] using hk
      have hge : kids.len ≤ k := Nat.le_of_eq H5.out.symm
      clear hk htx hv hbu kpr hlen' hg hys
      go_wp2_with fail
      refine (write_byte B bb bs' 125 _ HBR2.out (by have h1 := HLB.out; have h2 := HL.out; omega) hBr).mono ?_
      rintro e w3 ⟨rfl, hat3, hb3, ho3⟩
      go_wp2_with fail
      go_end0
      refine ⟨rfl, ?_, (HKP.out.trans HKR.out).trans ⟨hb3, ho3⟩⟩
      rw [HTX.out, strCells_append, ← List.append_assoc, ← HTX2.out]
      have e9 : Lib.strCells (txF F.nil (md k)) = [] := rfl
      rw [e9, List.append_nil]
      exact Or.inr hat3
    | cons lab kd fr' ix' kids' rest =>
      rw [txF_md] at htx
      have hlt : k < kids.len := by simp only [F.len] at hk; omega
      obtain ⟨T, x, ys', k1, r1, q0, q1, hln, hrest, hdrop⟩ := linked_next hg hys HBR.out HXS.out
      have kpw := HKP.out.trans kpr
      have hst : ∀ o v, w0.cell? ⟨r, o, none⟩ = some v → wr.cell? ⟨r, o, none⟩ = some v := fun o v h => by
        rw [Same.cell ((kpw.below.block r (by omega)).trans (HW.out.block r hrB))]
        exact h
      have q0 := hst _ _ q0
      have q1 := hst _ _ q1
      have hrr : r < wr.heap.size := World.block_lt_of_cell? _ _ q0
      simp only [vldF, Bool.and_eq_true] at hv
      have HK := hide hk
      have HX3 := hide htx
      have HLN := hide hln
      have HRE := hide hrest
      have HDR := hide hdrop
      have HVN := hide hv
      have H5 := hide h5
      have hz : bs'.length + 1 + lab.size + (txN kd fr' ix' kids').size ≤ 1048576 := by
        have h1 := HLB.out
        have h2 := HL.out
        rw [txF_md] at h1
        simp only [ByteArray.size_append, sepB_size] at h1
        omega
      have hsl : (sepB k).size = 1 := sepB_size k
      have HZ := hide hz
      have hls : lab.size ≤ 1048576 := by omega
      have hn2 : ∀ W : World, (Op.stringOp .add (sepB k) lab).run Tryz.prog W = .ok (.string (sepB k ++ lab)) W := fun W => run_string_add_sum W _ _ (by rw [hsl]; omega)
      have hptr := HPT.out.kp (Or.inr HAT.out) kpr
      have HPR := hide hptr
      have hb4 := alloc_below wr (.cells #[.string lab, .iface T x] ( /- t -/ 131))
      have hcl := alloc_last wr #[.string lab, .iface T x] ( /- t -/ 131)
      have hbbr : bb < wr.heap.size := Nat.lt_of_lt_of_le hbw (Nat.le_trans HKP.out.below.size kpr.below.size)
      have hXr := kpr.cells HX2.out (by omega) (by decide)
      have HXR := hide hXr
      have HCL := hide hcl
      have HB4 := hide hb4
      clear hk h5 hg hys htx hv hbu kpr hlen' hz hst hln hrest hdrop kpw hptr hb4 hcl hXr
      go_wp2_with fail
      refine (write_string B bb bs' (sepB k ++ lab) _ (bu_below HBR2.out HB4.out) (by have := HZ.out; rw [ByteArray.size_append, hsl]; omega) (Nat.le_trans hBr HB4.out.size)).mono ?_
      rintro e w4 ⟨rfl, hat4, hb5, ho5⟩
      have kp4 := (HKR.out.of_below hBr HB4.out).trans ⟨hb5, ho5⟩
      have kp34 := ((Kp.refl B bb wr).of_below hBr HB4.out).trans ⟨hb5, ho5⟩
      have hY := (Kp.mk hb5 ho5).cells HCL.out (by omega) (by decide)
      have z1 : w4.cell? ⟨wr.heap.size, 1, none⟩ = some (.iface T x) := cell_of_heap (o := 1) hY
      have hYl : wr.heap.size < w4.heap.size := World.block_lt_of_cell? _ _ z1
      have hX4 := kp34.cells HXR.out (by omega) (by decide)
      have x0 : w4.cell? ⟨w.heap.size, 0, none⟩ = some (.int .i64 dp) := cell_of_heap (o := 0) hX4
      have x1 : w4.cell? ⟨w.heap.size, 1, none⟩ = some (.slice a ps.length cap) := cell_of_heap (o := 1) hX4
      have x2 : w4.cell? ⟨w.heap.size, 2, none⟩ = some (.int .i64 un) := cell_of_heap (o := 2) hX4
      have hXl : w.heap.size < w4.heap.size := World.block_lt_of_cell? _ _ x0
      have hB4 : B ≤ w4.heap.size := Nat.le_trans hBr kp34.below.size
      have hptd : Pt w4.drew (.slice a ps.length cap) ps := HPR.out.kp HBR2.out kp34.drew
      have HPTD := hide hptd
      have hbud : Lib.IsBuilderF ( /- t -/ 96) ( /- t -/ 5) B bb (bs' ++ Lib.strCells (sepB k ++ lab)) w4.drew := Or.inr hat4
      have HBUD := hide hbud
      have hYd : w4.drew.heap[wr.heap.size]? = some (.cells #[.string lab, .iface T x] ( /- t -/ 131) (0, 0)) := hY
      have hXd : w4.drew.heap[w.heap.size]? = some (.cells #[.int .i64 dp, .slice a ps.length cap, .int .i64 un] ( /- t -/ 104) (0, 0)) := hX4
      have HYD := hide hYd
      have HXD := hide hXd
      have HKP4 := hide kp4
      have hneY : wr.heap.size ≠ bb := by omega
      have hneX : w.heap.size ≠ bb := by omega
      clear q0 q1 hb5 ho5 hat4 kp4 kp34 hY hX4 hptd hbud hYd hXd hn2
      go_wp2_with fail
      go_region_held3 (fun w' => w'.cell? ⟨wr.heap.size, 1, none⟩ = some (.iface T x) ∧ w'.cell? ⟨w.heap.size, 0, none⟩ = some (.int .i64 dp) ∧ w'.cell? ⟨w.heap.size, 1, none⟩ = some (.slice a ps.length cap) ∧ w'.cell? ⟨w.heap.size, 2, none⟩ = some (.int .i64 un))
        (first | exact ⟨z1, x0, x1, x2⟩ | exact ⟨g0, g1, g2, g3⟩ | exact ⟨l0, l1, l2, l3⟩)
        ((first
          | (go_at_call 78; refine (below_calls _ dp un _ ps ?_ (by omega) (by omega)).mono ?_; (exact HPTD.out.ps);
             rintro e w5 ⟨rfl, hb6⟩; have hst := Still.of_below hb6; have g0 := hst _ _ z1; have g1 := hst _ _ x0; have g2 := hst _ _ x1; have g3 := hst _ _ x2;
             have kp5 := HKP4.out.drew.of_below hB4 hb6)
          | (go_at_call 62; refine (ih w0 _ B bb (bs' ++ Lib.strCells (sepB k ++ lab)) kd ix' 0 (d - 1) (dp + 1) 0 fr' _ _ kids' ps k1 ?_ ?_ HLN.out h0 ?_ ?_ ?_ HND.out HPB.out (by omega) (by omega) (by omega) (by omega) (by omega) (by omega) HVN.out.1 ?_ ?_).mono ?_;
             (have h1 := H5.out; have h2 := HN.out; simp only [F.sz] at h1; omega); (have h1 := H5.out; have h2 := HG.out; simp only [F.sz] at h1; omega); (exact HW.out.trans ((HKP.out.trans kp5).below.mono h0)); (exact Nat.le_trans hB4 hb6.size); (exact HPTD.out.below hb6);
             (exact bu_below HBUD.out hb6); (have := HZ.out; rw [List.length_append, Lib.strCells_length, ByteArray.size_append, hsl]; omega);
             rintro e w6 ⟨rfl, hat6, kp6⟩;
             have kpB := ((Kp.refl B bb w4.drew).of_below hB4 hb6).trans kp6;
             have hY6 := kpB.cells HYD.out hneY (by decide);
             have hX6 := kpB.cells HXD.out hneX (by decide);
             have l0 : w6.cell? ⟨wr.heap.size, 1, none⟩ = some (.iface T x) := cell_of_heap (o := 1) hY6;
             have l1 : w6.cell? ⟨w.heap.size, 0, none⟩ = some (.int .i64 dp) := cell_of_heap (o := 0) hX6;
             have l2 : w6.cell? ⟨w.heap.size, 1, none⟩ = some (.slice a ps.length cap) := cell_of_heap (o := 1) hX6;
             have l3 : w6.cell? ⟨w.heap.size, 2, none⟩ = some (.int .i64 un) := cell_of_heap (o := 2) hX6)))
      have hkpf := kp5.trans kp6
      have HF := hide hkpf
      have HAT6 := hide hat6
      clear hst g0 g1 g2 g3 l0 l1 l2 l3 hY6 hX6 kpB kp5 kp6 hkpf hat6 hb6 z1 x0 x1 x2
      go_wp2_with fail
      refine ⟨⟨rest, k + 1, bs' ++ Lib.strCells (sepB k ++ lab) ++ Lib.strCells (txN kd fr' ix' kids'), ys', r1, ?_, ?_, by go_num, ?_, HRE.out, HDR.out, HVN.out.2, ?_, HAT6.out, HF.out⟩, by simp [intOf]; omega⟩
      · have := HK.out
        simp only [F.len] at this
        omega
      · unfold sepB
        rw [if_neg (by omega)]
        rfl
      · have := H5.out
        simp only [F.sz] at this
        omega
      · rw [← HX3.out]
        simp only [strCells_append, List.append_assoc]

set_option maxHeartbeats 3200000 in
set_option maxRecDepth 100000 in
theorem wl_act3 (n : Nat) (ih : WlAt n) (w0 w : World) (B bb : Nat) (bs : List Value) (ix d dp un : Int) (fr : ByteArray) (v lv : Value) (kids : F) (ps ks : List Nat) (hn : kids.sz < n + 1) (hbig : kids.sz ≤ 400) (hk : LkN w0 3 fr ix kids ps v ks) (h0 : w0.heap.size ≤ B) (hw : Below w0.heap.size w0 w) (hB : B ≤ w.heap.size)
    (hp : Pt w lv ps) (hnd : ps.Nodup) (hpb : ∀ x, x ∈ ps → ∃ cs, Blk w0 x cs) (hd1 : 1 ≤ d) (hbd : ps.length + d ≤ 40) (hdp : 0 ≤ dp) (hdd : dp + d ≤ 40) (hsh : shapeB 3 fr ix kids = true) (hv : vldF kids ps.length 0 (d - 1) = true)
    (hbu : Lib.IsBuilderF ( /- t -/ 96) ( /- t -/ 5) B bb bs w) (hlen : bs.length + (txN 3 fr ix kids).size ≤ 1048576) :
    Calls Tryz.prog 62 #[.pointer (some ⟨bb, 0, none⟩), v, .agg #[.int .i64 dp, lv, .int .i64 un]] w (WlPost w B bb bs (txN 3 fr ix kids)) := by
  have htx : txN 3 fr ix kids = fr ++ mark 3 ++ txF kids .first ++ bclose := rfl
  obtain ⟨e1, rfl, e5⟩ := shape_act (Or.inr rfl) hsh
  have hfr : fr.size = 1 := role_size e1
  have hmk : mark 3 = ⟨#[63]⟩ := rfl
  have hfm : (fr ++ mark 3).size = 2 := by rw [ByteArray.size_append, mark_size]; omega
  have hl2 : bs.length + 3 + (txF kids .first).size ≤ 1048576 := by
    rw [htx] at hlen
    simp only [ByteArray.size_append, mark_size] at hlen
    have e1 : bclose.size = 1 := rfl
    omega
  obtain ⟨A, r, bc, cs, xs, ks', rfl, hbA, hnc, hcm, hbr, hxs, hlk⟩ := linked_act (Or.inr rfl) hk
  obtain ⟨a, cap, rfl, -, -⟩ := hp.ps.val
  have hb1 := alloc_below w (.cells #[.int .i64 dp, .slice a ps.length cap, .int .i64 un] ( /- t -/ 104))
  have hX := alloc_last w #[.int .i64 dp, .slice a ps.length cap, .int .i64 un] ( /- t -/ 104)
  have hbw := bu_lt hbu
  have hAB : A < w0.heap.size := hbA.lt
  have hrB : r < w0.heap.size := hbr.lt
  have hbA1 : Blk (w.alloc (.cells #[.int .i64 dp, .slice a ps.length cap, .int .i64 un] ( /- t -/ 104))) A #[.int .i64 3, .string fr, .slice (some ⟨r, 0, none⟩) kids.len bc] := (hbA.below hw).below hb1
  have a0 : (w.alloc (.cells #[.int .i64 dp, .slice a ps.length cap, .int .i64 un] ( /- t -/ 104))).cell? ⟨A, 0, none⟩ = some (.int .i64 3) := hbA1.cell 0
  have a1 : (w.alloc (.cells #[.int .i64 dp, .slice a ps.length cap, .int .i64 un] ( /- t -/ 104))).cell? ⟨A, 1, none⟩ = some (.string fr) := hbA1.cell 1
  have hszw := hw.size
  have hAl : A < w.heap.size := by omega
  have hkl : kids.len ≤ 9223372036854775807 := by unfold maxLen at hcm; omega
  have hn1 : ∀ W : World, (Op.stringOp .add fr ⟨#[63]⟩).run Tryz.prog W = .ok (.string (fr ++ mark 3)) W := fun W => run_string_add_sum W _ _ (show fr.size + 1 ≤ _ by omega)
  have HBU := hide hbu
  have HL := hide hl2
  have HB1 := hide hb1
  have HX := hide hX
  have HP := hide hp
  have HND := hide hnd
  have HPB := hide hpb
  have HBA := hide hbA
  have HBR := hide hbr
  have HXS := hide hxs
  have HLK := hide hlk
  have HN := hide hn
  have HG := hide hbig
  have HV := hide hv
  have HW := hide hw
  have HTX := hide htx
  clear hp hbu hlen hl2 hb1 hX hnd hpb hbA hbr hxs hlk hn hbig hw hk hsh hv htx e1 e5 hbA1 hnc hcm hmk
  have n1 := taActEnd
  have n2 := taActVar
  have n3 := taActLoop
  have n4 := taActAct
  go_enter Tryz.func62, Tryz.ntmps62
  go_wp2_with fail
  generalize w.alloc (.cells #[.int .i64 dp, .slice a ps.length cap, .int .i64 un] ( /- t -/ 104)) = W0 at *
  go_still_tail 12, (by kernel_rfl)
  still_call (mark_true _)
  repeat still_step
  refine wpStill_nil ?_
  change wpList _ _ _ _ _ W0.drew
  have HB1 := hide HB1.out.drew
  have HX : Hid (W0.drew.heap[w.heap.size]? = some (.cells #[.int .i64 dp, .slice a ps.length cap, .int .i64 un] ( /- t -/ 104) (0, 0))) := HX
  generalize W0.drew = W1 at *
  go_wp2_with fail
  refine (write_string B bb bs (fr ++ mark 3) _ (bu_below HBU.out HB1.out) (by have := HL.out; omega) (Nat.le_trans hB HB1.out.size)).mono ?_
  rintro e w2 ⟨rfl, hat, hb3, ho3⟩
  have kp := ((Kp.refl B bb w).of_below hB HB1.out).trans ⟨hb3, ho3⟩
  have hX2 := (Kp.mk hb3 ho3).cells HX.out (by omega) (by decide)
  have hbA2 : Blk w2 A #[.int .i64 3, .string fr, .slice (some ⟨r, 0, none⟩) kids.len bc] := HBA.out.same ((kp.below.block A (by omega)).trans (HW.out.block A hAB))
  have b2 : w2.cell? ⟨A, 2, none⟩ = some (.slice (some ⟨r, 0, none⟩) kids.len bc) := hbA2.cell 2
  have hA2 : A < w2.heap.size := hbA2.lt
  have hB2 : B ≤ w2.heap.size := Nat.le_trans hB kp.below.size
  have hpt : Pt w2 (.slice a ps.length cap) ps := HP.out.kp HBU.out kp
  have HPT := hide hpt
  have HAT := hide hat
  have HKP := hide kp
  have HX2 := hide hX2
  clear hb3 ho3 hat kp hX2 hbA2 hpt a0 a1 hn1
  go_wp2_with fail
  go_loopw [10, 65] (fun pv iv wr => ∃ (g : F) (k : Nat) (bs' ys : List Value) (rs : List Nat), k + g.len = kids.len ∧ pv = .string (sepB k) ∧ iv = .int .i64 k ∧ g.sz ≤ kids.sz ∧ Lk w0 g ps ys rs ∧ xs.drop (k * 2) = ys ∧ vldF g ps.length 0 (d - 1) = true ∧
    bs' ++ Lib.strCells (txF g (md k)) = bs ++ Lib.strCells (fr ++ mark 3 ++ txF kids .first) ∧ Lib.IsBuilderF ( /- t -/ 96) ( /- t -/ 5) B bb bs' wr ∧ Kp B bb w2 wr) (fun _ iv _ => kids.len - (intOf iv).toNat)
  case atStart => exact ⟨kids, 0, bs ++ Lib.strCells (fr ++ mark 3), xs, ks', by omega, rfl, rfl, Nat.le_refl _, HLK.out, rfl, HV.out, by rw [strCells_append (fr ++ mark 3), List.append_assoc]; rfl, Or.inr HAT.out, Kp.refl _ _ _⟩
  case round =>
    obtain ⟨g, k, bs', ys, rs, hk, rfl, rfl, h5, hg, hys, hv, htx, hbu, kpr⟩ := hrel
    have hlen' := congrArg List.length htx
    simp only [List.length_append, Lib.strCells_length, ByteArray.size_append, hfr, mark_size] at hlen'
    have HLB := hide hlen'
    have HTX2 := hide htx
    have HBR2 := hide hbu
    have HKR := hide kpr
    have hBr : B ≤ wr.heap.size := Nat.le_trans hB2 kpr.below.size
    cases g with
    | nil =>
      have H5 : Hid (k = kids.len) := by unfold Hid; simpa [F.len] using hk
      have hge : kids.len ≤ k := Nat.le_of_eq H5.out.symm
      clear hk htx hv hbu kpr hlen' hg hys
      go_wp2_with fail
      refine (write_byte B bb bs' 125 _ HBR2.out (by have h1 := HLB.out; have h2 := HL.out; omega) hBr).mono ?_
      rintro e w3 ⟨rfl, hat3, hb3, ho3⟩
      go_wp2_with fail
      go_end0
      refine ⟨rfl, ?_, (HKP.out.trans HKR.out).trans ⟨hb3, ho3⟩⟩
      rw [HTX.out, strCells_append, ← List.append_assoc, ← HTX2.out]
      have e9 : Lib.strCells (txF F.nil (md k)) = [] := rfl
      rw [e9, List.append_nil]
      exact Or.inr hat3
    | cons lab kd fr' ix' kids' rest =>
      rw [txF_md] at htx
      have hlt : k < kids.len := by simp only [F.len] at hk; omega
      obtain ⟨T, x, ys', k1, r1, q0, q1, hln, hrest, hdrop⟩ := linked_next hg hys HBR.out HXS.out
      have kpw := HKP.out.trans kpr
      have hst : ∀ o v, w0.cell? ⟨r, o, none⟩ = some v → wr.cell? ⟨r, o, none⟩ = some v := fun o v h => by
        rw [Same.cell ((kpw.below.block r (by omega)).trans (HW.out.block r hrB))]
        exact h
      have q0 := hst _ _ q0
      have q1 := hst _ _ q1
      have hrr : r < wr.heap.size := World.block_lt_of_cell? _ _ q0
      simp only [vldF, Bool.and_eq_true] at hv
      have HK := hide hk
      have HX3 := hide htx
      have HLN := hide hln
      have HRE := hide hrest
      have HDR := hide hdrop
      have HVN := hide hv
      have H5 := hide h5
      have hz : bs'.length + 1 + lab.size + (txN kd fr' ix' kids').size ≤ 1048576 := by
        have h1 := HLB.out
        have h2 := HL.out
        rw [txF_md] at h1
        simp only [ByteArray.size_append, sepB_size] at h1
        omega
      have hsl : (sepB k).size = 1 := sepB_size k
      have HZ := hide hz
      have hls : lab.size ≤ 1048576 := by omega
      have hn2 : ∀ W : World, (Op.stringOp .add (sepB k) lab).run Tryz.prog W = .ok (.string (sepB k ++ lab)) W := fun W => run_string_add_sum W _ _ (by rw [hsl]; omega)
      have hptr := HPT.out.kp (Or.inr HAT.out) kpr
      have HPR := hide hptr
      have hb4 := alloc_below wr (.cells #[.string lab, .iface T x] ( /- t -/ 131))
      have hcl := alloc_last wr #[.string lab, .iface T x] ( /- t -/ 131)
      have hbbr : bb < wr.heap.size := Nat.lt_of_lt_of_le hbw (Nat.le_trans HKP.out.below.size kpr.below.size)
      have hXr := kpr.cells HX2.out (by omega) (by decide)
      have HXR := hide hXr
      have HCL := hide hcl
      have HB4 := hide hb4
      clear hk h5 hg hys htx hv hbu kpr hlen' hz hst hln hrest hdrop kpw hptr hb4 hcl hXr
      go_wp2_with fail
      refine (write_string B bb bs' (sepB k ++ lab) _ (bu_below HBR2.out HB4.out) (by have := HZ.out; rw [ByteArray.size_append, hsl]; omega) (Nat.le_trans hBr HB4.out.size)).mono ?_
      rintro e w4 ⟨rfl, hat4, hb5, ho5⟩
      have kp4 := (HKR.out.of_below hBr HB4.out).trans ⟨hb5, ho5⟩
      have kp34 := ((Kp.refl B bb wr).of_below hBr HB4.out).trans ⟨hb5, ho5⟩
      have hY := (Kp.mk hb5 ho5).cells HCL.out (by omega) (by decide)
      have z1 : w4.cell? ⟨wr.heap.size, 1, none⟩ = some (.iface T x) := cell_of_heap (o := 1) hY
      have hYl : wr.heap.size < w4.heap.size := World.block_lt_of_cell? _ _ z1
      have hX4 := kp34.cells HXR.out (by omega) (by decide)
      have x0 : w4.cell? ⟨w.heap.size, 0, none⟩ = some (.int .i64 dp) := cell_of_heap (o := 0) hX4
      have x1 : w4.cell? ⟨w.heap.size, 1, none⟩ = some (.slice a ps.length cap) := cell_of_heap (o := 1) hX4
      have x2 : w4.cell? ⟨w.heap.size, 2, none⟩ = some (.int .i64 un) := cell_of_heap (o := 2) hX4
      have hXl : w.heap.size < w4.heap.size := World.block_lt_of_cell? _ _ x0
      have hB4 : B ≤ w4.heap.size := Nat.le_trans hBr kp34.below.size
      have hptd : Pt w4.drew (.slice a ps.length cap) ps := HPR.out.kp HBR2.out kp34.drew
      have HPTD := hide hptd
      have hbud : Lib.IsBuilderF ( /- t -/ 96) ( /- t -/ 5) B bb (bs' ++ Lib.strCells (sepB k ++ lab)) w4.drew := Or.inr hat4
      have HBUD := hide hbud
      have hYd : w4.drew.heap[wr.heap.size]? = some (.cells #[.string lab, .iface T x] ( /- t -/ 131) (0, 0)) := hY
      have hXd : w4.drew.heap[w.heap.size]? = some (.cells #[.int .i64 dp, .slice a ps.length cap, .int .i64 un] ( /- t -/ 104) (0, 0)) := hX4
      have HYD := hide hYd
      have HXD := hide hXd
      have HKP4 := hide kp4
      have hneY : wr.heap.size ≠ bb := by omega
      have hneX : w.heap.size ≠ bb := by omega
      clear q0 q1 hb5 ho5 hat4 kp4 kp34 hY hX4 hptd hbud hYd hXd hn2
      go_wp2_with fail
      go_region_held3 (fun w' => w'.cell? ⟨wr.heap.size, 1, none⟩ = some (.iface T x) ∧ w'.cell? ⟨w.heap.size, 0, none⟩ = some (.int .i64 dp) ∧ w'.cell? ⟨w.heap.size, 1, none⟩ = some (.slice a ps.length cap) ∧ w'.cell? ⟨w.heap.size, 2, none⟩ = some (.int .i64 un))
        (first | exact ⟨z1, x0, x1, x2⟩ | exact ⟨g0, g1, g2, g3⟩ | exact ⟨l0, l1, l2, l3⟩)
        ((first
          | (go_at_call 78; refine (below_calls _ dp un _ ps ?_ (by omega) (by omega)).mono ?_; (exact HPTD.out.ps);
             rintro e w5 ⟨rfl, hb6⟩; have hst := Still.of_below hb6; have g0 := hst _ _ z1; have g1 := hst _ _ x0; have g2 := hst _ _ x1; have g3 := hst _ _ x2;
             have kp5 := HKP4.out.drew.of_below hB4 hb6)
          | (go_at_call 62; refine (ih w0 _ B bb (bs' ++ Lib.strCells (sepB k ++ lab)) kd ix' 0 (d - 1) (dp + 1) 0 fr' _ _ kids' ps k1 ?_ ?_ HLN.out h0 ?_ ?_ ?_ HND.out HPB.out (by omega) (by omega) (by omega) (by omega) (by omega) (by omega) HVN.out.1 ?_ ?_).mono ?_;
             (have h1 := H5.out; have h2 := HN.out; simp only [F.sz] at h1; omega); (have h1 := H5.out; have h2 := HG.out; simp only [F.sz] at h1; omega); (exact HW.out.trans ((HKP.out.trans kp5).below.mono h0)); (exact Nat.le_trans hB4 hb6.size); (exact HPTD.out.below hb6);
             (exact bu_below HBUD.out hb6); (have := HZ.out; rw [List.length_append, Lib.strCells_length, ByteArray.size_append, hsl]; omega);
             rintro e w6 ⟨rfl, hat6, kp6⟩;
             have kpB := ((Kp.refl B bb w4.drew).of_below hB4 hb6).trans kp6;
             have hY6 := kpB.cells HYD.out hneY (by decide);
             have hX6 := kpB.cells HXD.out hneX (by decide);
             have l0 : w6.cell? ⟨wr.heap.size, 1, none⟩ = some (.iface T x) := cell_of_heap (o := 1) hY6;
             have l1 : w6.cell? ⟨w.heap.size, 0, none⟩ = some (.int .i64 dp) := cell_of_heap (o := 0) hX6;
             have l2 : w6.cell? ⟨w.heap.size, 1, none⟩ = some (.slice a ps.length cap) := cell_of_heap (o := 1) hX6;
             have l3 : w6.cell? ⟨w.heap.size, 2, none⟩ = some (.int .i64 un) := cell_of_heap (o := 2) hX6)))
      have hkpf := kp5.trans kp6
      have HF := hide hkpf
      have HAT6 := hide hat6
      clear hst g0 g1 g2 g3 l0 l1 l2 l3 hY6 hX6 kpB kp5 kp6 hkpf hat6 hb6 z1 x0 x1 x2
      go_wp2_with fail
      refine ⟨⟨rest, k + 1, bs' ++ Lib.strCells (sepB k ++ lab) ++ Lib.strCells (txN kd fr' ix' kids'), ys', r1, ?_, ?_, by go_num, ?_, HRE.out, HDR.out, HVN.out.2, ?_, HAT6.out, HF.out⟩, by simp [intOf]; omega⟩
      · have := HK.out
        simp only [F.len] at this
        omega
      · unfold sepB
        rw [if_neg (by omega)]
        rfl
      · have := H5.out
        simp only [F.sz] at this
        omega
      · rw [← HX3.out]
        simp only [strCells_append, List.append_assoc]

theorem wl_all : ∀ n, WlAt n := by
  intro n
  induction n with
  | zero => intro w0 w B bb bs k ix u d dp un fr v lv kids ps ks hn; omega
  | succ n ih =>
    intro w0 w B bb bs k ix u d dp un fr v lv kids ps ks hn hbig hk h0 hw hB hp hnd hpb hu hbd hdp hdd hun hund hv hbu hlen
    have hv2 := hv
    unfold vldN at hv2
    obtain ⟨hd, hsh, hkk⟩ := node_kinds hu hv2
    rcases hkk with rfl | ⟨rfl, hi, hi1, -⟩ | ⟨rfl, h3⟩ | ⟨h2, h3⟩
    · rcases hk with ⟨-, rfl, -⟩ | ⟨h, -⟩ | ⟨h, -⟩ | ⟨h, -⟩
      · exact wl_end w B bb bs ix dp un fr lv kids ps hB hp hbu hlen
      · exact absurd h (by decide)
      · exact absurd h (by decide)
      · rcases h with h | h <;> exact absurd h (by decide)
    · rcases hk with ⟨h, -⟩ | ⟨-, ⟨l, h1, h2, h3, rfl⟩, -⟩ | ⟨h, -⟩ | ⟨h, -⟩
      · exact absurd h (by decide)
      · obtain ⟨i, rfl⟩ := Int.eq_ofNat_of_zero_le h1
        exact wl_var w0 w B bb bs i (ps.length - 1 - i) l dp un fr lv kids ps hB hw hp hnd hpb (by simpa using h3) (by omega) (by omega) hbu hlen
      · exact absurd h (by decide)
      · rcases h with h | h <;> exact absurd h (by decide)
    · exact wl_rec n ih w0 w B bb bs ix u d dp un fr v lv kids ps ks hn hbig hk h0 hw hB hp hnd hpb hu hd hbd hdp hdd hun hund hsh h3 hbu hlen
    · rcases h2 with rfl | rfl
      · exact wl_act2 n ih w0 w B bb bs ix d dp un fr v lv kids ps ks hn hbig hk h0 hw hB hp hnd hpb hd hbd hdp hdd hsh h3 hbu hlen
      · exact wl_act3 n ih w0 w B bb bs ix d dp un fr v lv kids ps ks hn hbig hk h0 hw hB hp hnd hpb hd hbd hdp hdd hsh h3 hbu hlen

theorem string_any (B b : Nat) (s : ByteArray) (w : World) (h : Lib.IsBuilderF ( /- t -/ 96) ( /- t -/ 5) B b (Lib.strCells s) w) (hBw : B ≤ w.heap.size) :
    Calls Tryz.prog 61 #[.pointer (some ⟨b, 0, none⟩)] w fun e w' => e = .returned (.string s) ∧ Below B w w' := by
  refine (Tryz.Builder_String_any_k B b s.data.toList w h hBw).mono ?_
  rintro e w' ⟨rfl, -, hb, -⟩
  exact ⟨rfl, hb⟩

set_option maxHeartbeats 400000 in
set_option maxRecDepth 100000 in
/-- FormatLocal of the program. -/
theorem implFormat (w : World) (k ix : Int) (fr : ByteArray) (sv : Value) (kids : F) (hs : Sl w sv kids) :
    Calls Tryz.prog 53 #[.agg #[.int .i64 k, .string fr, .int .i64 ix, sv]] w fun e w' => e = .returned (.string (textN k fr ix kids)) ∧ Below w.heap.size w w' := by
  have HS := hide hs
  clear hs
  go_enter Tryz.func53, Tryz.ntmps53
  go_wp2_with fail
  refine (implLink _ k ix fr sv kids (HS.out.still (Still.of_below (alloc_below _ _)))).mono ?_
  rintro e w1 ⟨u, ks, rfl, hu, hb, hok⟩
  have hb2 := alloc_then hb
  have HOK := hide hok
  clear hb hok
  cases hv : okN k fr ix kids with
  | false =>
    have HU := hide hu
    clear hu
    go_wp2_with fail
    go_ret
    refine ⟨?_, hb2⟩
    unfold textN
    rw [hv]
    rfl
  | true =>
    have HV := hide hv
    have h2 := hv
    unfold okN at h2
    simp only [Bool.and_eq_true, decide_eq_true_eq] at h2
    have H2 := hide h2
    have hln := (HOK.out hv).1
    have HLN := hide hln
    obtain ⟨T, x, rfl⟩ := hln.val
    have hbu : Lib.IsBuilderF ( /- t -/ 96) ( /- t -/ 5) w1.heap.size w1.heap.size [] (w1.alloc (.cells #[.pointer none, .slice none 0 0] ( /- t -/ 96))) := Lib.IsBuilderF.of (Lib.fresh_isBuilder _ _ _)
    have HBU := hide hbu
    have hb3 := alloc_below w1 (.cells #[.pointer none, .slice none 0 0] ( /- t -/ 96))
    have hsz := txN_size (b := 0) (u := 0) (by omega) (by omega) (by omega) h2.1
    have HZ : Hid ((txN k fr ix kids).size ≤ 1048576) := by unfold Hid; omega
    clear hv h2 hbu hsz hln hu
    go_wp2_with fail
    refine (wl_all (kids.sz + 1) w1 _ w1.heap.size w1.heap.size [] k ix 0 40 0 0 fr _ _ kids [] ks (Nat.lt_succ_self _) (by have := H2.out.2; omega) HLN.out (Nat.le_refl _) hb3 hb3.size (Pt.nil _) List.nodup_nil (fun x h => absurd h (List.not_mem_nil)) (by omega) (by simp) (by omega) (by omega) (by omega) (by omega) H2.out.1 HBU.out (by have := HZ.out; simpa using this)).mono ?_
    rintro e w2 ⟨rfl, hat, kp⟩
    have hb4 := hb3.trans kp.below
    have HAT := hide hat
    clear kp hat hb3
    go_wp2_with fail
    refine (string_any w1.heap.size w1.heap.size (txN k fr ix kids) w2 HAT.out hb4.size).mono ?_
    rintro e w3 ⟨rfl, hb5⟩
    have hb6 := hb2.trans ((hb4.trans hb5).mono hb2.size)
    clear hb4 hb5
    go_wp2_with fail
    go_ret
    refine ⟨?_, hb6⟩
    unfold textN
    rw [HV.out]
    rfl
end Go.Proofs.YtgcefippeokmcabGreatDoor.Lo

/- LocalPeers of the program. -/
namespace Go.Proofs.YtgcefippeokmcabGreatDoor.Lo
open Go.RowKit

set_option maxHeartbeats 400000 in
set_option maxRecDepth 100000 in
/-- LocalPeers of the program. -/
theorem implPeers (w : World) (k ix : Int) (fr : ByteArray) (sv : Value) (kids : F) (hs : Sl w sv kids) :
    Calls Tryz.prog 44 #[.agg #[.int .i64 k, .string fr, .int .i64 ix, sv]] w fun e w' => e = .returned (.string (peersN k fr ix kids)) ∧ Below w.heap.size w w' := by
  have HS := hide hs
  clear hs
  go_enter Tryz.func44, Tryz.ntmps44
  go_wp2_with fail
  refine (implFormat _ k ix fr sv kids (HS.out.still (Still.of_below (alloc_below _ _)))).mono ?_
  rintro e w1 ⟨rfl, hb⟩
  have hb2 := alloc_then hb
  have ht := peersN_text k fr ix kids
  have HT := hide ht
  clear hb ht
  generalize textN k fr ix kids = t at *
  go_wp2_with fail
  refine (rolesIn_calls t _).mono ?_
  rintro e w2 ⟨rfl, hb3⟩
  rw [HT.out]
  have hb4 := hb2.trans (hb3.mono hb2.size)
  clear hb3
  go_wp2_with fail
  go_ret
  exact ⟨rfl, hb4⟩
end Go.Proofs.YtgcefippeokmcabGreatDoor.Lo

/- currentType, watcherOf and MonitorValid of the program. -/
namespace Go.Proofs.YtgcefippeokmcabGreatDoor.Lo
open Go.RowKit

def curOk (g : Nd) (c : UInt8) : Bool := !(hasB (peersN g.k g.fr g.ix g.kids) c) && unfOk g
def curR (g : Nd) (c : UInt8) : Nd := if curOk g c then unf g else zeroNd
theorem cur_yes {g : Nd} {c : UInt8} (h : hasB (peersN g.k g.fr g.ix g.kids) c = true) : curOk g c = false ∧ curR g c = zeroNd := by
  have e : curOk g c = false := by unfold curOk; rw [h]; rfl
  exact ⟨e, by unfold curR; rw [e]; rfl⟩
theorem cur_no {g : Nd} {c : UInt8} (h : hasB (peersN g.k g.fr g.ix g.kids) c = false) : curOk g c = unfOk g ∧ curR g c = unfR g := by
  have e : curOk g c = unfOk g := by unfold curOk; rw [h]; rfl
  exact ⟨e, by unfold curR unfR; rw [e]⟩
theorem ow_cells4 {w : World} {u : Value} {f : F} {bs : List Nat} (h : Ow w u f bs) {b : Nat} (hb : ∀ x, x ∈ bs → x ≠ b) (u0 u1 u2 u3 : Value) : Ow ((((w.setCell ⟨b, 0, none⟩ u0).setCell ⟨b, 1, none⟩ u1).setCell ⟨b, 2, none⟩ u2).setCell ⟨b, 3, none⟩ u3) u f bs := by
  refine h.same ?_
  repeat (refine Same.setCell ?_ (fun x hx => by have := hb x hx; simpa using this) _)
  exact Same.refl _ _

set_option maxHeartbeats 1600000 in
set_option maxRecDepth 100000 in
/-- currentType of the program. -/
theorem implCur (w : World) (g : Nd) (sv : Value) (c : UInt8) (hs : Sl w sv g.kids) :
    Calls Tryz.prog 33 #[.agg #[.int .i64 g.k, .string g.fr, .int .i64 g.ix, sv], .string ⟨#[c]⟩] w (MadeR (curR g c) (curOk g c) w) := by
  have HS := hide hs
  have hb0 := (alloc_below w (.cells #[.int .i64 g.k, .string g.fr, .int .i64 g.ix, sv] ( /- t -/ 33))).alloc (by simp) (.cells #[.int .i64 0, .string ⟨#[]⟩, .int .i64 0, .slice none 0 0] ( /- t -/ 33))
  have hx0 := (Box4.now w (.int .i64 g.k) (.string g.fr) (.int .i64 g.ix) sv ( /- t -/ 33)).below (alloc_below _ (.cells #[.int .i64 0, .string ⟨#[]⟩, .int .i64 0, .slice none 0 0] ( /- t -/ 33)))
  have hz0 := Box4.now (w.alloc (.cells #[.int .i64 g.k, .string g.fr, .int .i64 g.ix, sv] ( /- t -/ 33))) (.int .i64 0) (.string ⟨#[]⟩) (.int .i64 0) (.slice none 0 0) ( /- t -/ 33)
  rw [show (w.alloc (.cells #[.int .i64 g.k, .string g.fr, .int .i64 g.ix, sv] ( /- t -/ 33))).heap.size = w.heap.size + 1 from by simp] at hz0
  have HB0 := hide hb0
  have HX0 := hide hx0
  have HZ0 := hide hz0
  obtain ⟨ok, hok⟩ : ∃ ok, ok = curOk g c := ⟨_, rfl⟩
  obtain ⟨R, hR⟩ : ∃ R, R = curR g c := ⟨_, rfl⟩
  rw [← hR, ← hok]
  have HRK := hide (And.intro hok hR)
  clear hs hb0 hx0 hz0 hok hR
  go_enter Tryz.func33, Tryz.ntmps33
  go_wp2_with fail
  generalize (w.alloc (.cells #[.int .i64 g.k, .string g.fr, .int .i64 g.ix, sv] ( /- t -/ 33))).alloc (.cells #[.int .i64 0, .string ⟨#[]⟩, .int .i64 0, .slice none 0 0] ( /- t -/ 33)) = W at *
  refine (implPeers W g.k g.ix g.fr sv g.kids (HS.out.still (Still.of_below HB0.out))).mono ?_
  rintro e w1 ⟨rfl, hb⟩
  have HX1 := hide (HX0.out.below hb)
  have HZ1 := hide (HZ0.out.below hb)
  have HB1 := hide (HB0.out.trans (hb.mono HB0.out.size))
  obtain ⟨x0, x1, x2, x3⟩ := HX1.out.cells
  have hxl := HX1.out.lt
  clear hb HX0 HZ0 HB0
  go_wp2_with fail
  refine (contains_one _ c _).mono ?_
  rintro e w2 ⟨rfl, rfl⟩
  cases hh : hasB (peersN g.k g.fr g.ix g.kids) c with
  | true =>
    have HC := hide (cur_yes hh)
    obtain ⟨z0, z1, z2, z3⟩ := HZ1.out.cells
    have fz := HZ1.out.frozen
    have hzl := HZ1.out.lt
    clear hh
    go_wp2_with fail
    refine bodyPost_ret (v := .tuple #[.agg #[.int .i64 0, .string ⟨#[]⟩, .int .i64 0, .slice none 0 0], .bool false]) (by simp [results, Tryz.results33, go_sem, *]) rfl ?_
    rw [HRK.out.1, HRK.out.2, HC.out.1, HC.out.2]
    refine MadeR.zero ?_
    repeat (refine Below.setCell ?_ (by first | (simp; done) | (simp; omega)) _)
    exact HB1.out
  | false =>
    have HC := hide (cur_no hh)
    clear hh
    go_wp2_with fail
    refine (implUnf w1 g sv (HS.out.still (Still.of_below HB1.out))).mono ?_
    rw [← HC.out.1, ← HC.out.2, ← HRK.out.1, ← HRK.out.2]
    rintro e w3 ⟨u, bs, rfl, how, hge, hnd, hb3⟩
    obtain ⟨ua, uc, rfl⟩ := how.val
    have HZ3 := hide (HZ1.out.below hb3)
    have HB3 := hide (HB1.out.trans (hb3.mono HB1.out.size))
    have h13 := HB1.out.size
    have hz1l := HZ1.out.lt
    have HOW := hide how
    have HGE := hide hge
    obtain ⟨z0, z1, z2, z3⟩ := HZ3.out.cells
    have fz := HZ3.out.frozen
    have hzl := HZ3.out.lt
    clear hb3 how hge
    go_wp2_with fail
    refine bodyPost_ret (v := .tuple #[.agg #[.int .i64 R.k, .string R.fr, .int .i64 R.ix, .slice ua R.kids.len uc], .bool ok]) (by simp [results, Tryz.results33, go_sem, *]) rfl ?_
    refine ⟨_, bs, rfl, ow_cells4 HOW.out (fun x hx => by have := HGE.out x hx; omega) _ _ _ _, fun x hx => by have := HGE.out x hx; omega, hnd, ?_⟩
    repeat (refine Below.setCell ?_ (by first | (simp; done) | (simp; omega)) _)
    exact HB3.out
end Go.Proofs.YtgcefippeokmcabGreatDoor.Lo

/- The peers of a local type are three letters at most. -/
namespace Go.Proofs.YtgcefippeokmcabGreatDoor.Lo
open Go.RowKit

theorem peers_small (k : Int) (fr : ByteArray) (ix : Int) (kids : F) : (peersN k fr ix kids).size ≤ 1048576 := by
  unfold peersN
  split
  · have : (setL fun c => namNb c k fr kids).length ≤ 3 := setK_len _ 3
    show (setL fun c => namNb c k fr kids).length ≤ 1048576
    omega
  · exact Nat.zero_le _
end Go.Proofs.YtgcefippeokmcabGreatDoor.Lo

/- MonitorValid of the model. -/
namespace Go.Proofs.YtgcefippeokmcabGreatDoor.Lo
open Go.RowKit

/-- The role's letter. -/
def letter (s : ByteArray) : UInt8 := s.data.toList.headD 0
def monOk (m : Ne.Mon) : Bool := roleB m.ro && curOk ⟨m.k, m.fr, m.ix, m.kids⟩ (letter m.ro)
theorem mon_fit {m : Ne.Mon} (h : m.Fit) : Fit (⟨m.k, m.fr, m.ix, m.kids⟩ : Nd) := ⟨h.fr, h.k, h.ix⟩

set_option maxHeartbeats 3000000 in
set_option maxRecDepth 100000 in
theorem mv_role (w : World) (m : Ne.Mon) (sv : Value) (hs : Sl w sv m.kids)  (hr : roleB m.ro = false) :
    Calls Tryz.prog 14 #[.agg #[.string m.ro, .int .i64 m.k, .string m.fr, .int .i64 m.ix, sv]] w fun e w' => e = .returned (.bool (monOk m)) ∧ Below w.heap.size w w' := by
  have hb := alloc_below w (.cells #[.string m.ro, .int .i64 m.k, .string m.fr, .int .i64 m.ix, sv] ( /- t -/ 35))
  have HX := hide (Ne.Box5.now w (.string m.ro) (.int .i64 m.k) (.string m.fr) (.int .i64 m.ix) sv ( /- t -/ 35))
  have HSL := hide (hs.still (Still.of_below hb))
  have HB := hide hb
  have HR := hide (fun (W : World) => (show Calls Tryz.prog 25 #[.string m.ro] W (fun e w' => e = .returned (.bool false) ∧ W = w') by have := specRole m.ro W; rw [hr] at this; exact this))
  have HM := hide (show monOk m = false by unfold monOk; rw [hr]; rfl)
  clear hr
  clear hs hb
  go_enter Tryz.func14, Tryz.ntmps14
  go_wp2_with fail
  generalize w.alloc (.cells #[.string m.ro, .int .i64 m.k, .string m.fr, .int .i64 m.ix, sv] ( /- t -/ 35)) = W at *
  have HX := hide HX.out.drew
  have hsd : Still W W.drew := fun _ _ h => h
  have HSL : Hid (Sl W.drew sv m.kids) := hide (HSL.out.still hsd)
  have HB := hide HB.out.drew
  obtain ⟨x0, x1, x2, x3, x4⟩ := HX.out.cells
  have hxl := HX.out.lt
  first
    | (go_region_with (first
        | (go_at_call 25; refine (HR.out _).mono ?_; rintro e wA ⟨rfl, rfl⟩)
        | fail))
    | skip
  all_goals
    (go_wp2_with fail
     go_ret
     exact ⟨by rw [HM.out]; rfl, HB.out⟩)

set_option maxHeartbeats 3000000 in
set_option maxRecDepth 100000 in
theorem mv_bad (w : World) (m : Ne.Mon) (sv : Value) (hs : Sl w sv m.kids) (hsz : m.kids.sz ≤ 1048576) (hr : roleB m.ro = true) (hv : okN m.k m.fr m.ix m.kids = false) :
    Calls Tryz.prog 14 #[.agg #[.string m.ro, .int .i64 m.k, .string m.fr, .int .i64 m.ix, sv]] w fun e w' => e = .returned (.bool (monOk m)) ∧ Below w.heap.size w w' := by
  have hb := alloc_below w (.cells #[.string m.ro, .int .i64 m.k, .string m.fr, .int .i64 m.ix, sv] ( /- t -/ 35))
  have HX := hide (Ne.Box5.now w (.string m.ro) (.int .i64 m.k) (.string m.fr) (.int .i64 m.ix) sv ( /- t -/ 35))
  have HSL := hide (hs.still (Still.of_below hb))
  have HB := hide hb
  have HR := hide (fun (W : World) => (show Calls Tryz.prog 25 #[.string m.ro] W (fun e w' => e = .returned (.bool true) ∧ W = w') by have := specRole m.ro W; rw [hr] at this; exact this))
  have HV := hide (fun (W : World) (hs : Sl W sv m.kids) => (show Calls Tryz.prog 26 #[.agg #[.int .i64 m.k, .string m.fr, .int .i64 m.ix, sv]] W (fun e w' => e = .returned (.bool false) ∧ Below W.heap.size W w') by have := specValidBig W m.k m.ix m.fr sv m.kids hs (fun _ => by omega); rw [hv] at this; exact this))
  have HM := hide (show monOk m = false by unfold monOk curOk unfOk okG; rw [hv]; simp)
  clear hr hv
  clear hs hsz hb
  go_enter Tryz.func14, Tryz.ntmps14
  go_wp2_with fail
  generalize w.alloc (.cells #[.string m.ro, .int .i64 m.k, .string m.fr, .int .i64 m.ix, sv] ( /- t -/ 35)) = W at *
  have HX := hide HX.out.drew
  have hsd : Still W W.drew := fun _ _ h => h
  have HSL : Hid (Sl W.drew sv m.kids) := hide (HSL.out.still hsd)
  have HB := hide HB.out.drew
  obtain ⟨x0, x1, x2, x3, x4⟩ := HX.out.cells
  have hxl := HX.out.lt
  first
    | (go_region_with (first
        | (go_at_call 25; refine (HR.out _).mono ?_; rintro e wA ⟨rfl, rfl⟩)
        | (go_at_call 26; (with_reducible refine (HV.out _ ?_).mono ?_); (exact HSL.out); rintro e wB ⟨rfl, hbB⟩; (have hs := HX.out.lt); (have HX := hide (HX.out.below hbB)); (have HSL := hide (HSL.out.still (Still.of_below hbB))); (have HB := hide (HB.out.trans (hbB.mono HB.out.size))); (obtain ⟨x0, x1, x2, x3, x4⟩ := HX.out.cells); (have hxl := HX.out.lt))
        | fail))
    | skip
  all_goals
    (go_wp2_with fail
     go_ret
     exact ⟨by rw [HM.out]; rfl, HB.out⟩)

set_option maxHeartbeats 3000000 in
set_option maxRecDepth 100000 in
theorem mv_deep (w : World) (m : Ne.Mon) (sv : Value) (hs : Sl w sv m.kids) (hf : m.Fit) (hsz : m.kids.sz ≤ 1048576) (hr : roleB m.ro = true) (hv : okN m.k m.fr m.ix m.kids = true) (hv2 : okG (unf ⟨m.k, m.fr, m.ix, m.kids⟩) = false) :
    Calls Tryz.prog 14 #[.agg #[.string m.ro, .int .i64 m.k, .string m.fr, .int .i64 m.ix, sv]] w fun e w' => e = .returned (.bool (monOk m)) ∧ Below w.heap.size w w' := by
  have hb := alloc_below w (.cells #[.string m.ro, .int .i64 m.k, .string m.fr, .int .i64 m.ix, sv] ( /- t -/ 35))
  have HX := hide (Ne.Box5.now w (.string m.ro) (.int .i64 m.k) (.string m.fr) (.int .i64 m.ix) sv ( /- t -/ 35))
  have HSL := hide (hs.still (Still.of_below hb))
  have HB := hide hb
  obtain ⟨hw, hh, hz⟩ := okG_w (g := ⟨m.k, m.fr, m.ix, m.kids⟩) hv
  have HR := hide (fun (W : World) => (show Calls Tryz.prog 25 #[.string m.ro] W (fun e w' => e = .returned (.bool true) ∧ W = w') by have := specRole m.ro W; rw [hr] at this; exact this))
  have HV := hide (fun (W : World) (hs : Sl W sv m.kids) => (show Calls Tryz.prog 26 #[.agg #[.int .i64 m.k, .string m.fr, .int .i64 m.ix, sv]] W (fun e w' => e = .returned (.bool true) ∧ Below W.heap.size W w') by have := specValidBig W m.k m.ix m.fr sv m.kids hs (fun _ => by omega); rw [hv] at this; exact this))
  have HU := hide (fun (W : World) (hs : Sl W sv m.kids) => unf_calls W ⟨m.k, m.fr, m.ix, m.kids⟩ sv hs hw hh (mon_fit hf))
  have HV2 := hide (fun (W : World) (u : Value) (hs : Sl W u (unf ⟨m.k, m.fr, m.ix, m.kids⟩).kids) => (show Calls Tryz.prog 26 #[.agg #[.int .i64 (unf ⟨m.k, m.fr, m.ix, m.kids⟩).k, .string (unf ⟨m.k, m.fr, m.ix, m.kids⟩).fr, .int .i64 (unf ⟨m.k, m.fr, m.ix, m.kids⟩).ix, u]] W (fun e w' => e = .returned (.bool false) ∧ Below W.heap.size W w') by have := specValidBig W (unf ⟨m.k, m.fr, m.ix, m.kids⟩).k (unf ⟨m.k, m.fr, m.ix, m.kids⟩).ix (unf ⟨m.k, m.fr, m.ix, m.kids⟩).fr u (unf ⟨m.k, m.fr, m.ix, m.kids⟩).kids hs (fun hv => unf_bound hw hz hv); rw [show okN _ _ _ _ = false from hv2] at this; exact this))
  have HM := hide (show monOk m = false by unfold monOk curOk unfOk; rw [hv2]; simp)
  clear hr hv hv2 hw hh hz
  clear hs hf hsz hb
  go_enter Tryz.func14, Tryz.ntmps14
  go_wp2_with fail
  generalize w.alloc (.cells #[.string m.ro, .int .i64 m.k, .string m.fr, .int .i64 m.ix, sv] ( /- t -/ 35)) = W at *
  have HX := hide HX.out.drew
  have hsd : Still W W.drew := fun _ _ h => h
  have HSL : Hid (Sl W.drew sv m.kids) := hide (HSL.out.still hsd)
  have HB := hide HB.out.drew
  obtain ⟨x0, x1, x2, x3, x4⟩ := HX.out.cells
  have hxl := HX.out.lt
  first
    | (go_region_with (first
        | (go_at_call 25; refine (HR.out _).mono ?_; rintro e wA ⟨rfl, rfl⟩)
        | (go_at_call 26; (with_reducible refine (HV2.out _ _ ?_).mono ?_); (exact HO.out); rintro e wD ⟨rfl, hbD⟩; (have hs := HX.out.lt); (have HX := hide (HX.out.below hbD)); (have HSL := hide (HSL.out.still (Still.of_below hbD))); (have HB := hide (HB.out.trans (hbD.mono HB.out.size))); (obtain ⟨x0, x1, x2, x3, x4⟩ := HX.out.cells); (have hxl := HX.out.lt))
        | (go_at_call 26; (with_reducible refine (HV.out _ ?_).mono ?_); (exact HSL.out); rintro e wB ⟨rfl, hbB⟩; (have hs := HX.out.lt); (have HX := hide (HX.out.below hbB)); (have HSL := hide (HSL.out.still (Still.of_below hbB))); (have HB := hide (HB.out.trans (hbB.mono HB.out.size))); (obtain ⟨x0, x1, x2, x3, x4⟩ := HX.out.cells); (have hxl := HX.out.lt))
        | (go_at_call 17; refine (HU.out _ HSL.out).mono ?_; rintro e wC ⟨u, ks, rfl, how, -, -, hbC⟩; obtain ⟨ua, uc, rfl⟩ := how.val; (have hs := HX.out.lt); (have HX := hide (HX.out.below hbC)); (have HSL := hide (HSL.out.still (Still.of_below hbC))); (have HB := hide (HB.out.trans (hbC.mono HB.out.size))); (obtain ⟨x0, x1, x2, x3, x4⟩ := HX.out.cells); (have hxl := HX.out.lt); (have HO := hide how.sl))
        | fail))
    | skip
  all_goals
    (go_wp2_with fail
     go_ret
     exact ⟨by rw [HM.out]; rfl, HB.out⟩)

set_option maxHeartbeats 3000000 in
set_option maxRecDepth 100000 in
theorem mv_good (w : World) (m : Ne.Mon) (sv : Value) (hs : Sl w sv m.kids) (hf : m.Fit) (hsz : m.kids.sz ≤ 1048576) (hr : roleB m.ro = true) (hv : okN m.k m.fr m.ix m.kids = true) (hv2 : okG (unf ⟨m.k, m.fr, m.ix, m.kids⟩) = true) (hlet : m.ro = ⟨#[letter m.ro]⟩) (hps : (peersN m.k m.fr m.ix m.kids).size ≤ 1048576) (b : Bool) (hb2 : hasB (peersN m.k m.fr m.ix m.kids) (letter m.ro) = b) :
    Calls Tryz.prog 14 #[.agg #[.string m.ro, .int .i64 m.k, .string m.fr, .int .i64 m.ix, sv]] w fun e w' => e = .returned (.bool (monOk m)) ∧ Below w.heap.size w w' := by
  have hb := alloc_below w (.cells #[.string m.ro, .int .i64 m.k, .string m.fr, .int .i64 m.ix, sv] ( /- t -/ 35))
  have HX := hide (Ne.Box5.now w (.string m.ro) (.int .i64 m.k) (.string m.fr) (.int .i64 m.ix) sv ( /- t -/ 35))
  have HSL := hide (hs.still (Still.of_below hb))
  have HB := hide hb
  obtain ⟨hw, hh, hz⟩ := okG_w (g := ⟨m.k, m.fr, m.ix, m.kids⟩) hv
  have HR := hide (fun (W : World) => (show Calls Tryz.prog 25 #[.string m.ro] W (fun e w' => e = .returned (.bool true) ∧ W = w') by have := specRole m.ro W; rw [hr] at this; exact this))
  have HV := hide (fun (W : World) (hs : Sl W sv m.kids) => (show Calls Tryz.prog 26 #[.agg #[.int .i64 m.k, .string m.fr, .int .i64 m.ix, sv]] W (fun e w' => e = .returned (.bool true) ∧ Below W.heap.size W w') by have := specValidBig W m.k m.ix m.fr sv m.kids hs (fun _ => by omega); rw [hv] at this; exact this))
  have HU := hide (fun (W : World) (hs : Sl W sv m.kids) => unf_calls W ⟨m.k, m.fr, m.ix, m.kids⟩ sv hs hw hh (mon_fit hf))
  have HV2 := hide (fun (W : World) (u : Value) (hs : Sl W u (unf ⟨m.k, m.fr, m.ix, m.kids⟩).kids) => (show Calls Tryz.prog 26 #[.agg #[.int .i64 (unf ⟨m.k, m.fr, m.ix, m.kids⟩).k, .string (unf ⟨m.k, m.fr, m.ix, m.kids⟩).fr, .int .i64 (unf ⟨m.k, m.fr, m.ix, m.kids⟩).ix, u]] W (fun e w' => e = .returned (.bool true) ∧ Below W.heap.size W w') by have := specValidBig W (unf ⟨m.k, m.fr, m.ix, m.kids⟩).k (unf ⟨m.k, m.fr, m.ix, m.kids⟩).ix (unf ⟨m.k, m.fr, m.ix, m.kids⟩).fr u (unf ⟨m.k, m.fr, m.ix, m.kids⟩).kids hs (fun hv => unf_bound hw hz hv); rw [show okN _ _ _ _ = true from hv2] at this; exact this))
  have HP := hide (fun (W : World) (hs : Sl W sv m.kids) => specPeers W m.k m.ix m.fr sv m.kids hs hsz)
  have HC := hide (fun (W : World) => (show Calls Tryz.prog 27 #[.string (peersN m.k m.fr m.ix m.kids), .string m.ro] W (fun e w' => e = .returned (.bool b) ∧ W = w') by have := specContains (peersN m.k m.fr m.ix m.kids) (letter m.ro) W hps; rw [hb2] at this; rw [hlet]; exact this))
  have HM := hide (show monOk m = !b by unfold monOk curOk unfOk; rw [hv2, hr, show okG ⟨m.k, m.fr, m.ix, m.kids⟩ = true from hv, show hasB (peersN m.k m.fr m.ix m.kids) (letter m.ro) = b from hb2]; simp)
  clear hr hv hv2 hw hh hz hlet hps hb2
  generalize peersN m.k m.fr m.ix m.kids = ps at *
  clear hs hf hsz hb
  go_enter Tryz.func14, Tryz.ntmps14
  go_wp2_with fail
  generalize w.alloc (.cells #[.string m.ro, .int .i64 m.k, .string m.fr, .int .i64 m.ix, sv] ( /- t -/ 35)) = W at *
  have HX := hide HX.out.drew
  have hsd : Still W W.drew := fun _ _ h => h
  have HSL : Hid (Sl W.drew sv m.kids) := hide (HSL.out.still hsd)
  have HB := hide HB.out.drew
  obtain ⟨x0, x1, x2, x3, x4⟩ := HX.out.cells
  have hxl := HX.out.lt
  first
    | (go_region_with (first
        | (go_at_call 25; refine (HR.out _).mono ?_; rintro e wA ⟨rfl, rfl⟩)
        | (go_at_call 26; (with_reducible refine (HV2.out _ _ ?_).mono ?_); (exact HO.out); rintro e wD ⟨rfl, hbD⟩; (have hs := HX.out.lt); (have HX := hide (HX.out.below hbD)); (have HSL := hide (HSL.out.still (Still.of_below hbD))); (have HB := hide (HB.out.trans (hbD.mono HB.out.size))); (obtain ⟨x0, x1, x2, x3, x4⟩ := HX.out.cells); (have hxl := HX.out.lt))
        | (go_at_call 26; (with_reducible refine (HV.out _ ?_).mono ?_); (exact HSL.out); rintro e wB ⟨rfl, hbB⟩; (have hs := HX.out.lt); (have HX := hide (HX.out.below hbB)); (have HSL := hide (HSL.out.still (Still.of_below hbB))); (have HB := hide (HB.out.trans (hbB.mono HB.out.size))); (obtain ⟨x0, x1, x2, x3, x4⟩ := HX.out.cells); (have hxl := HX.out.lt))
        | (go_at_call 17; refine (HU.out _ HSL.out).mono ?_; rintro e wC ⟨u, ks, rfl, how, -, -, hbC⟩; obtain ⟨ua, uc, rfl⟩ := how.val; (have hs := HX.out.lt); (have HX := hide (HX.out.below hbC)); (have HSL := hide (HSL.out.still (Still.of_below hbC))); (have HB := hide (HB.out.trans (hbC.mono HB.out.size))); (obtain ⟨x0, x1, x2, x3, x4⟩ := HX.out.cells); (have hxl := HX.out.lt); (have HO := hide how.sl))
        | (go_at_call 28; refine (HP.out _ HSL.out).mono ?_; rintro e wE ⟨rfl, hbE⟩; (have hs := HX.out.lt); (have HX := hide (HX.out.below hbE)); (have HSL := hide (HSL.out.still (Still.of_below hbE))); (have HB := hide (HB.out.trans (hbE.mono HB.out.size))); (obtain ⟨x0, x1, x2, x3, x4⟩ := HX.out.cells); (have hxl := HX.out.lt))
        | (go_at_call 27; refine (HC.out _).mono ?_; rintro e wF ⟨rfl, rfl⟩)
        | fail))
    | skip
  all_goals
    (go_wp2_with fail
     go_ret
     exact ⟨by rw [HM.out]; rfl, HB.out⟩)

theorem role_letter1 {s : ByteArray} (h : roleB s = true) : s = ⟨#[letter s]⟩ := by
  by_cases hs : s.size = 1
  · obtain ⟨c, rfl⟩ := one_of_size s hs
    rfl
  · rw [roleB_not s hs] at h
    cases h

/-- MonitorValid of the model. -/
theorem specMonValid (w : World) (m : Ne.Mon) (sv : Value) (hs : Sl w sv m.kids) (hf : m.Fit) (hsz : m.kids.sz ≤ 1048576) :
    Calls Tryz.prog 14 #[.agg #[.string m.ro, .int .i64 m.k, .string m.fr, .int .i64 m.ix, sv]] w fun e w' => e = .returned (.bool (monOk m)) ∧ Below w.heap.size w w' := by
  cases hr : roleB m.ro with
  | false => exact mv_role w m sv hs hr
  | true =>
    cases hv : okN m.k m.fr m.ix m.kids with
    | false => exact mv_bad w m sv hs hsz hr hv
    | true =>
      cases hv2 : okG (unf ⟨m.k, m.fr, m.ix, m.kids⟩) with
      | false => exact mv_deep w m sv hs hf hsz hr hv hv2
      | true => exact mv_good w m sv hs hf hsz hr hv hv2 (role_letter1 hr) (peers_small _ _ _ _) _ rfl
end Go.Proofs.YtgcefippeokmcabGreatDoor.Lo

/- StepLocal: what it gives, and StepLocal of the model and of the program. -/
namespace Go.Proofs.YtgcefippeokmcabGreatDoor.Lo
open Go.RowKit

/-- The first branch with the label. -/
def findF : F → ByteArray → Option Nd
  | .nil, _ => none
  | .cons lab k fr ix kids rest, s => if (lab.toList == s.toList) = true then some ⟨k, fr, ix, kids⟩ else findF rest s
def stepO (g : Nd) (s : ByteArray) : Option Nd := if unfOk g then findF (unf g).kids s else none
def stepR (g : Nd) (s : ByteArray) : Nd := (stepO g s).getD zeroNd
def stepOk (g : Nd) (s : ByteArray) : Bool := (stepO g s).isSome

theorem stepO_of {g : Nd} {s : ByteArray} : stepO g s = findF (unfR g).kids s := by
  unfold stepO unfR
  cases unfOk g <;> rfl

theorem unfN_k : ∀ (n : Nat) (s : List (Option Nd)) (N : Nd), wN N (s.length : Int) (s.length : Int) = true → N.kids.sz < n → (unfN n s N).k ≠ 4 ∧ (unfN n s N).k ≠ 5 := by
  intro n
  induction n with
  | zero => intro s N _ h; omega
  | succ n ih =>
    intro s N hw hz
    unfold unfN
    by_cases h3 : N.k = 4
    · obtain ⟨lab, k, fr, ix, kids, e, hw'⟩ := rec_kid hw h3
      rw [if_pos h3, e]
      rw [e] at hz
      simp only [F.sz] at hz
      simp only
      refine ih _ _ ?_ (by simp only; omega)
      rw [show (((some (cpN s N) :: s).length : Nat) : Int) = (s.length : Int) + 1 by simp]
      exact hw'
    · have hv := not_var hw
      rw [if_neg h3, cpN_k hv]
      exact ⟨h3, hv⟩

/-- What follows a valid unfolded type's first message is valid. -/
theorem step_valid {g : Nd} (h : unfOk g = true) {p rest : F} {lab : ByteArray} {k ix : Int} {fr : ByteArray} {kids : F} (he : (unf g).kids = p.app (.cons lab k fr ix kids rest)) : okN k fr ix kids = true := by
  unfold unfOk at h
  simp only [Bool.and_eq_true] at h
  obtain ⟨hw, hh, hz⟩ := okG_w h.2
  obtain ⟨hgw, -, -⟩ := okG_w h.1
  obtain ⟨h3, h4⟩ := unfN_k (g.kids.sz + 1) [] g hgw (Nat.lt_succ_self _)
  have hne : (unf g).kids ≠ .nil := by
    rw [he]
    intro e
    have := congrArg F.len e
    rw [F.len_app] at this
    simp only [F.len] at this
    omega
  have hw2 := hw
  unfold wN at hw2
  simp only [Bool.and_eq_true] at hw2
  obtain ⟨hs, hk⟩ := hw2
  have h2 : (unf g).k = 2 ∨ (unf g).k = 3 := by
    by_cases h2 : (unf g).k = 2 ∨ (unf g).k = 3
    · exact h2
    · exact absurd (shape_leaf hs h2 h3) hne
  rw [if_neg (by omega), if_neg (by omega), if_pos h2, he, wF_app] at hk
  simp only [wF, Bool.and_eq_true] at hk
  have hc : wN ⟨k, fr, ix, kids⟩ 0 0 = true := by
    unfold wN
    simp only [Bool.and_eq_true]
    exact hk.2.1
  have := okG_of_w hc
  show okG ⟨k, fr, ix, kids⟩ = true
  rw [this]
  unfold hN at hh ⊢
  rw [he, hF_app] at hh
  rw [he, F.sz_app] at hz
  simp only [hF, F.sz] at hh hz
  rw [decide_eq_true (by simp only; omega), decide_eq_true (by simp only; omega)]
  rfl

/-- One branch of a tree of the call's own. -/
theorem Ow.sub {w : World} {u : Value} {f : F} {bs : List Nat} (h : Ow w u f bs) (hn : bs.Nodup) {p rest : F} {lab : ByteArray} {k ix : Int} {fr : ByteArray} {kids : F} (he : f = p.app (.cons lab k fr ix kids rest)) :
    ∃ b cap a c ks, u = .slice (some ⟨b, 0, none⟩) f.len cap ∧ w.cell? ⟨b, p.len * 5, none⟩ = some (.string lab) ∧ w.cell? ⟨b, p.len * 5 + 1, none⟩ = some (.int .i64 k) ∧ w.cell? ⟨b, p.len * 5 + 2, none⟩ = some (.string fr) ∧
      w.cell? ⟨b, p.len * 5 + 3, none⟩ = some (.int .i64 ix) ∧ w.cell? ⟨b, p.len * 5 + 4, none⟩ = some (.slice a kids.len c) ∧ Ow w (.slice a kids.len c) kids ks ∧ (∀ x, x ∈ ks → x ∈ bs) ∧ ks.Nodup := by
  obtain ⟨a, cap, rfl, e1, e2, hs⟩ := h
  rcases hs with ⟨hf, _⟩ | ⟨b, n, bs', rfl, rfl, _, _, hr⟩
  · rw [hf] at he
    have := congrArg F.len he
    rw [F.len_app] at this
    simp only [F.len] at this
    omega
  · rw [he] at hr
    obtain ⟨b1, b2, rfl, _, hr2⟩ := hr.split
    obtain ⟨_, _, _, _, c0, c1, c2, c3, ks, rs, rfl, ⟨a5, cap5, c5, q1, q2, hsub⟩, _⟩ := hr2
    rw [show 0 + 5 * p.len = p.len * 5 by omega] at c0 c1 c2 c3 c5
    refine ⟨b, cap, a5, cap5, ks, rfl, c0, c1, c2, c3, c5, ⟨a5, cap5, rfl, q1, q2, hsub⟩, fun x hx => by simp [hx], ?_⟩
    have h1 := (List.nodup_cons.1 hn).2
    have h2 := (List.nodup_append.1 h1).2.1
    exact (List.nodup_append.1 h2).1

/-- What stands in memory while the branches are gone through. -/
structure StS (w wr : World) (R : Nd) (u : Value) (bs : List Nat) (X : Nat) : Prop where
  hb : Below w.heap.size w wr
  hz : Box4 wr (w.heap.size + 1) (.int .i64 0) (.string ⟨#[]⟩) (.int .i64 0) (.slice none 0 0)
  hx : Box4 wr X (.int .i64 R.k) (.string R.fr) (.int .i64 R.ix) u
  ho : Ow wr u R.kids bs
  hl : ∀ b, b ∈ bs → w.heap.size + 1 < b
  hn : bs.Nodup
theorem StS.below {w wr wj : World} {R : Nd} {u : Value} {bs : List Nat} {X : Nat} (h : StS w wr R u bs X) (hb : Below wr.heap.size wr wj) : StS w wj R u bs X :=
  ⟨h.hb.trans (hb.mono h.hb.size), h.hz.below hb, h.hx.below hb, h.ho.same (Same.of_below hb h.ho.lt), h.hl, h.hn⟩

theorem MadeR.sub {w wr : World} {R N : Nd} {u v : Value} {bs ks : List Nat} {X : Nat} (h : StS w wr R u bs X) (ho : Ow wr v N.kids ks) (hk : ∀ x, x ∈ ks → x ∈ bs) (hn : ks.Nodup) (v0 v1 v2 v3 : Value) :
    MadeR N true w (.returned (.tuple #[.agg #[.int .i64 N.k, .string N.fr, .int .i64 N.ix, v], .bool true])) ((((wr.setCell ⟨w.heap.size + 1, 0, none⟩ v0).setCell ⟨w.heap.size + 1, 1, none⟩ v1).setCell ⟨w.heap.size + 1, 2, none⟩ v2).setCell ⟨w.heap.size + 1, 3, none⟩ v3) := by
  have q : ∀ b, b ∈ ks → b ≠ w.heap.size + 1 := fun b hb => by have := h.hl b (hk b hb); omega
  refine ⟨v, ks, rfl, ho.same ?_, fun b hb => by have := h.hl b (hk b hb); omega, hn, ?_⟩
  · exact ((((Same.refl _ _).setCell q _).setCell q _).setCell q _).setCell q _
  · exact (((h.hb.setCell (by simp) _).setCell (by simp) _).setCell (by simp) _).setCell (by simp) _

theorem MadeR.below {R : Nd} {ok : Bool} {w w' w'' : World} {e : Ending} (h : MadeR R ok w e w') (hb : Below w'.heap.size w' w'') : MadeR R ok w e w'' := by
  obtain ⟨u, bs, h1, h2, h3, h4, h5⟩ := h
  exact ⟨u, bs, h1, h2.same (Same.of_below hb h2.lt), h3, h4, h5.trans (hb.mono h5.size)⟩

/-- What holds at each round's head. -/
def StRel (w : World) (R : Nd) (s : ByteArray) (u : Value) (bs : List Nat) (X : Nat) (iv : Value) (wr : World) : Prop :=
  ∃ (p q : F), R.kids = p.app q ∧ iv = .int .i64 (p.len : Nat) ∧ findF R.kids s = findF q s ∧ StS w wr R u bs X
end Go.Proofs.YtgcefippeokmcabGreatDoor.Lo

/- l2Branch of the model. -/
namespace Go.Proofs.YtgcefippeokmcabGreatDoor.Lo
open Go.RowKit

theorem findF_split : ∀ (f : F) (s : ByteArray) (N : Nd), findF f s = some N → ∃ (p : F) (lab : ByteArray) (rest : F), f = p.app (.cons lab N.k N.fr N.ix N.kids rest)
  | .nil, _, _, h => by simp [findF] at h
  | .cons lab k fr ix kids rest, s, N, h => by
    unfold findF at h
    split at h
    · simp only [Option.some.injEq] at h
      subst h
      exact ⟨.nil, lab, rest, rfl⟩
    · obtain ⟨p, l2, r2, e⟩ := findF_split rest s N h
      exact ⟨.cons lab k fr ix kids p, l2, r2, by rw [F.app, ← e]⟩

/-- What l2Branch owes. -/
def BrPost (w : World) (f : F) (bs : List Nat) (s : ByteArray) (e : Ending) (w' : World) : Prop :=
  Below w.heap.size w w' ∧
    ((findF f s = none ∧ e = .returned (.tuple #[.agg #[.int .i64 0, .string ⟨#[]⟩, .int .i64 0, .slice none 0 0], .bool false])) ∨
     ∃ (N : Nd) (a : Option Addr) (c : Nat) (ks : List Nat), findF f s = some N ∧ e = .returned (.tuple #[.agg #[.int .i64 N.k, .string N.fr, .int .i64 N.ix, .slice a N.kids.len c], .bool true]) ∧ Ow w' (.slice a N.kids.len c) N.kids ks ∧ (∀ x, x ∈ ks → x ∈ bs) ∧ ks.Nodup)

set_option maxHeartbeats 2000000 in
set_option maxRecDepth 100000 in
/-- l2Branch of the model. -/
theorem branch_calls (w : World) (v : Value) (f : F) (bs : List Nat) (s : ByteArray) (ho : Ow w v f bs) (hn : bs.Nodup) :
    Calls Tryz.prog 16 #[v, .string s] w (BrPost w f bs s) := by
  obtain ⟨va, vc, rfl⟩ := ho.val
  have hfl : f.len ≤ 9223372036854775807 := by
    obtain ⟨_, _, _, e1, e2, _⟩ := id ho
    unfold maxLen at e2
    omega
  have hb0 := alloc_below w (.cells #[.int .i64 0, .string ⟨#[]⟩, .int .i64 0, .slice none 0 0] ( /- t -/ 33))
  have hz0 := Box4.now w (.int .i64 0) (.string ⟨#[]⟩) (.int .i64 0) (.slice none 0 0) ( /- t -/ 33)
  have HO := hide (ho.same (Same.of_below hb0 ho.lt))
  have HL := hide ho.lt
  have HB := hide hb0
  have HZ := hide hz0
  have HN := hide hn
  clear ho hb0 hz0 hn
  go_enter Tryz.func16, Tryz.ntmps16
  go_wp2_with fail
  generalize w.alloc (.cells #[.int .i64 0, .string ⟨#[]⟩, .int .i64 0, .slice none 0 0] ( /- t -/ 33)) = W at *
  obtain ⟨z0, z1, z2, z3⟩ := HZ.out.cells
  have fz := HZ.out.frozen
  have zl := HZ.out.lt
  go_loopw [6] (fun iv wr => ∃ (p q : F), f = p.app q ∧ iv = .int .i64 (p.len : Nat) ∧ findF f s = findF q s ∧ wr = W) (fun iv _ => f.len - (intOf iv).toNat)
  case atStart => exact ⟨.nil, f, rfl, rfl, rfl, rfl⟩
  case round =>
    obtain ⟨p, q, he, rfl, hfind, rfl⟩ := hrel
    cases q with
    | nil =>
      rw [F.app_nil] at he
      have hge : f.len ≤ p.len := by rw [he]; exact Nat.le_refl _
      have HF := hide hfind
      clear he hfind
      go_wp2_with fail
      refine bodyPost_ret (v := .tuple #[.agg #[.int .i64 0, .string ⟨#[]⟩, .int .i64 0, .slice none 0 0], .bool false]) (by simp [results, Tryz.results16, go_sem, *]) rfl ?_
      refine ⟨?_, Or.inl ⟨HF.out, rfl⟩⟩
      exact (((HB.out.setCell (Nat.le_refl _) _).setCell (Nat.le_refl _) _).setCell (Nat.le_refl _) _).setCell (Nat.le_refl _) _
    | cons lab kd fr' ix' kids' rest =>
      have hlt : p.len < f.len := by rw [he, F.len_app]; simp only [F.len]; omega
      obtain ⟨b, cap, a5, c5, ks, hu, c0, c1, c2, c3, cc5, hko, hks, hkn⟩ := HO.out.sub HN.out he
      simp only [Value.slice.injEq, true_and] at hu
      obtain ⟨rfl, rfl⟩ := hu
      have hbl := World.block_lt_of_cell? _ _ c0
      have HE := hide (And.intro he hfind)
      have HK := hide (And.intro hko (And.intro hks hkn))
      clear he hfind hko hks hkn
      cases hl : (lab.toList == s.toList) with
      | true =>
        have hl3 : lab.toList = s.toList := by simpa using hl
        have hno : findF f s = some ⟨kd, fr', ix', kids'⟩ := by
          rw [HE.out.2]
          unfold findF
          rw [hl]
          rfl
        have HNO := hide hno
        clear hno
        go_wp2_with fail
        refine bodyPost_ret (v := .tuple #[.agg #[.int .i64 kd, .string fr', .int .i64 ix', .slice a5 kids'.len c5], .bool true]) (by simp [results, Tryz.results16, go_sem, *]) rfl ?_
        have q : ∀ x, x ∈ ks → x ≠ w.heap.size := fun x hx => Nat.ne_of_lt (HL.out x (HK.out.2.1 x hx))
        refine ⟨?_, Or.inr ⟨⟨kd, fr', ix', kids'⟩, a5, c5, ks, HNO.out, rfl, HK.out.1.same (same_setAll q _ _ _ _), HK.out.2.1, HK.out.2.2⟩⟩
        exact (((HB.out.setCell (Nat.le_refl _) _).setCell (Nat.le_refl _) _).setCell (Nat.le_refl _) _).setCell (Nat.le_refl _) _
      | false =>
        have hl3 : ¬ lab.toList = s.toList := by simpa using hl
        have hnx : findF f s = findF rest s := by
          rw [HE.out.2]
          conv => lhs; unfold findF
          rw [hl]
          rfl
        have HNX := hide hnx
        clear hnx
        go_wp2_with fail
        refine ⟨⟨p.app (.cons lab kd fr' ix' kids' .nil), rest, by rw [HE.out.1, F.app_assoc]; rfl, by rw [F.len_app]; rfl, HNX.out, trivial⟩, by simp [intOf]; omega⟩
end Go.Proofs.YtgcefippeokmcabGreatDoor.Lo

/- Observe of the model. -/
namespace Go.Proofs.YtgcefippeokmcabGreatDoor.Lo
open Go.RowKit

/-- The current type of a monitor. -/
def curM (m : Ne.Mon) : Nd := unf ⟨m.k, m.fr, m.ix, m.kids⟩
def kindI (rc : Bool) : Int := if rc then 3 else 2
/-- The current type permits the action. -/
def permB (m : Ne.Mon) (a : Ne.Act) : Bool := decide ((curM m).k = kindI a.rc) && (decide ((curM m).fr.toList = a.p.toList) && (findF (curM m).kids a.l).isSome)
def obsO (m : Ne.Mon) (a : Ne.Act) : Option Ne.Mon :=
  if monOk m = true ∧ a.r.toList = m.ro.toList ∧ permB m a = true then (findF (curM m).kids a.l).bind fun N => if monOk ⟨m.ro, N.k, N.fr, N.ix, N.kids⟩ = true then some ⟨m.ro, N.k, N.fr, N.ix, N.kids⟩ else none else none
def zeroM : Ne.Mon := ⟨⟨#[]⟩, 0, ⟨#[]⟩, 0, .nil⟩
def obsR (m : Ne.Mon) (a : Ne.Act) : Ne.Mon := (obsO m a).getD zeroM
def obsOk (m : Ne.Mon) (a : Ne.Act) : Bool := (obsO m a).isSome

set_option maxHeartbeats 2000000 in
set_option maxRecDepth 100000 in
/-- l6Permits of the model. -/
theorem permits_calls (w : World) (m : Ne.Mon) (a : Ne.Act) (sv : Value) (hs : Sl w sv m.kids) (hv : okG ⟨m.k, m.fr, m.ix, m.kids⟩ = true) (hf : m.Fit) :
    Calls Tryz.prog 15 #[.agg #[.int .i64 m.k, .string m.fr, .int .i64 m.ix, sv], .agg #[.string a.r, .bool a.rc, .string a.p, .string a.l]] w fun e w' => e = .returned (.bool (permB m a)) ∧ Below w.heap.size w w' := by
  obtain ⟨hw, hh, hz⟩ := okG_w hv
  have hb0 := (alloc_below w (.cells #[.int .i64 m.k, .string m.fr, .int .i64 m.ix, sv] ( /- t -/ 33))).alloc (by simp) (.cells #[.string a.r, .bool a.rc, .string a.p, .string a.l] ( /- t -/ 39))
  have hx0 := Box4.now (w.alloc (.cells #[.int .i64 m.k, .string m.fr, .int .i64 m.ix, sv] ( /- t -/ 33))) (.string a.r) (.bool a.rc) (.string a.p) (.string a.l) ( /- t -/ 39)
  rw [show (w.alloc (.cells #[.int .i64 m.k, .string m.fr, .int .i64 m.ix, sv] ( /- t -/ 33))).heap.size = w.heap.size + 1 from by simp] at hx0
  have HU := hide (fun (W : World) (hb : Below w.heap.size w W) => unf_calls W ⟨m.k, m.fr, m.ix, m.kids⟩ sv (hs.still (Still.of_below hb)) hw hh (mon_fit hf))
  have HB0 := hide hb0
  have HX0 := hide hx0
  obtain ⟨U, hU⟩ : ∃ U, U = curM m := ⟨_, rfl⟩
  have HP := hide (show permB m a = (decide (U.k = kindI a.rc) && (decide (U.fr.toList = a.p.toList) && (findF U.kids a.l).isSome)) by rw [hU]; rfl)
  change Hid (∀ (W : World), Below w.heap.size w W → Calls _ _ _ W (MadeN (curM m).k (curM m).fr (curM m).ix (curM m).kids W)) at HU
  rw [← hU] at HU
  clear hs hv hf hw hh hz hb0 hx0 hU
  rw [HP.out]
  clear HP
  go_enter Tryz.func15, Tryz.ntmps15
  go_wp2_with fail
  refine (HU.out _ HB0.out).mono ?_
  rintro e w1 ⟨u, bs, rfl, how, -, hnd, hb⟩
  obtain ⟨ua, uc, rfl⟩ := how.val
  have HX1 := hide (HX0.out.below hb)
  have HB1 := hide (HB0.out.trans (hb.mono HB0.out.size))
  have hbA := alloc_below w1 (.cells #[.int .i64 U.k, .string U.fr, .int .i64 U.ix, .slice ua U.kids.len uc] ( /- t -/ 33))
  have HO := hide (how.same (Same.of_below hbA how.lt))
  have HC := hide (Box4.now w1 (.int .i64 U.k) (.string U.fr) (.int .i64 U.ix) (.slice ua U.kids.len uc) ( /- t -/ 33))
  obtain ⟨x0, x1, x2, x3⟩ := HX1.out.cells
  have xl := HX1.out.lt
  clear how hb HU HX0 HB0
  cases hrc : a.rc
  · go_wp2_with fail
    refine (branch_calls _ _ U.kids bs a.l HO.out hnd).mono ?_
    rintro e w2 ⟨hb2, hcase⟩
    have HX2 := hide ((HX1.out.below hbA).below hb2)
    have HC2 := hide (HC.out.below hb2)
    have HB2 := hide ((HB1.out.trans (hbA.mono HB1.out.size)).trans (hb2.mono (Nat.le_trans HB1.out.size hbA.size)))
    clear hb2 hbA HO HC HX1 HB1 x0 x1 x2 x3 xl
    obtain ⟨x0, x1, x2, x3⟩ := HX2.out.cells
    have xl := HX2.out.lt
    obtain ⟨c0, c1, c2, c3⟩ := HC2.out.cells
    have cl := HC2.out.lt
    obtain ⟨fo, hfo⟩ : ∃ fo, fo = (findF U.kids a.l).isSome := ⟨_, rfl⟩
    obtain ⟨rv, hrv, hrs⟩ : ∃ rv, e = .returned (.tuple #[.agg rv, .bool fo]) ∧ ∃ r0 r1 r2 ra rn rc, rv = #[.int .i64 r0, .string r1, .int .i64 r2, .slice ra rn rc] := by
      rcases hcase with ⟨hfn, rfl⟩ | ⟨N, a5, c5, ks, hfn, rfl, -, -, -⟩
      · exact ⟨_, by rw [hfo, hfn]; rfl, _, _, _, _, _, _, rfl⟩
      · exact ⟨_, by rw [hfo, hfn]; rfl, _, _, _, _, _, _, rfl⟩
    obtain ⟨r0, r1, r2, ra, rn, rc, rfl⟩ := hrs
    subst hrv
    have HFO := hide hfo
    have HRC := hide hrc
    clear hcase hfo hrc
    by_cases hk : U.k = 2
    · by_cases hp : U.fr.toList = a.p.toList
      · go_wp2_with fail
        go_ret
        exact ⟨ret_bool (by rw [← HFO.out, HRC.out]; simp [kindI, hk, hp]), HB2.out.alloc HB2.out.size _⟩
      · go_wp2_with fail
        go_ret
        exact ⟨ret_bool (by rw [← HFO.out, HRC.out]; simp [kindI, hk, hp]), HB2.out.alloc HB2.out.size _⟩
    · go_wp2_with fail
      go_ret
      exact ⟨ret_bool (by rw [← HFO.out, HRC.out]; simp [kindI, hk]), HB2.out.alloc HB2.out.size _⟩
  · go_wp2_with fail
    refine (branch_calls _ _ U.kids bs a.l HO.out hnd).mono ?_
    rintro e w2 ⟨hb2, hcase⟩
    have HX2 := hide ((HX1.out.below hbA).below hb2)
    have HC2 := hide (HC.out.below hb2)
    have HB2 := hide ((HB1.out.trans (hbA.mono HB1.out.size)).trans (hb2.mono (Nat.le_trans HB1.out.size hbA.size)))
    clear hb2 hbA HO HC HX1 HB1 x0 x1 x2 x3 xl
    obtain ⟨x0, x1, x2, x3⟩ := HX2.out.cells
    have xl := HX2.out.lt
    obtain ⟨c0, c1, c2, c3⟩ := HC2.out.cells
    have cl := HC2.out.lt
    obtain ⟨fo, hfo⟩ : ∃ fo, fo = (findF U.kids a.l).isSome := ⟨_, rfl⟩
    obtain ⟨rv, hrv, hrs⟩ : ∃ rv, e = .returned (.tuple #[.agg rv, .bool fo]) ∧ ∃ r0 r1 r2 ra rn rc, rv = #[.int .i64 r0, .string r1, .int .i64 r2, .slice ra rn rc] := by
      rcases hcase with ⟨hfn, rfl⟩ | ⟨N, a5, c5, ks, hfn, rfl, -, -, -⟩
      · exact ⟨_, by rw [hfo, hfn]; rfl, _, _, _, _, _, _, rfl⟩
      · exact ⟨_, by rw [hfo, hfn]; rfl, _, _, _, _, _, _, rfl⟩
    obtain ⟨r0, r1, r2, ra, rn, rc, rfl⟩ := hrs
    subst hrv
    have HFO := hide hfo
    have HRC := hide hrc
    clear hcase hfo hrc
    by_cases hk : U.k = 3
    · by_cases hp : U.fr.toList = a.p.toList
      · go_wp2_with fail
        go_ret
        exact ⟨ret_bool (by rw [← HFO.out, HRC.out]; simp [kindI, hk, hp]), HB2.out.alloc HB2.out.size _⟩
      · go_wp2_with fail
        go_ret
        exact ⟨ret_bool (by rw [← HFO.out, HRC.out]; simp [kindI, hk, hp]), HB2.out.alloc HB2.out.size _⟩
    · go_wp2_with fail
      go_ret
      exact ⟨ret_bool (by rw [← HFO.out, HRC.out]; simp [kindI, hk]), HB2.out.alloc HB2.out.size _⟩
/-- A monitor in new memory, and a flag. -/
def MadeMo (R : Ne.Mon) (ok : Bool) (w : World) (e : Ending) (w' : World) : Prop :=
  ∃ u bs, e = .returned (.tuple #[.agg #[.string R.ro, .int .i64 R.k, .string R.fr, .int .i64 R.ix, u], .bool ok]) ∧ Ow w' u R.kids bs ∧ (∀ b, b ∈ bs → w.heap.size ≤ b) ∧ bs.Nodup ∧ Below w.heap.size w w'
theorem MadeMo.zero {w w' : World} (h : Below w.heap.size w w') : MadeMo zeroM false w (.returned (.tuple #[.agg #[.string ⟨#[]⟩, .int .i64 0, .string ⟨#[]⟩, .int .i64 0, .slice none 0 0], .bool false])) w' :=
  ⟨_, [], rfl, ⟨none, 0, rfl, Nat.le_refl _, Nat.zero_le _, Or.inl ⟨rfl, rfl⟩⟩, fun _ h => absurd h (List.not_mem_nil), List.nodup_nil, h⟩
theorem monOk_parts {m : Ne.Mon} (h : monOk m = true) : okG ⟨m.k, m.fr, m.ix, m.kids⟩ = true ∧ okG (curM m) = true := by
  unfold monOk curOk unfOk at h
  simp only [Bool.and_eq_true] at h
  exact ⟨h.2.2.1, h.2.2.2⟩

theorem obs_no {m : Ne.Mon} {a : Ne.Act} (h : obsO m a = none) : obsR m a = zeroM ∧ obsOk m a = false := by unfold obsR obsOk; rw [h]; exact ⟨rfl, rfl⟩
theorem obs_yes {m R : Ne.Mon} {a : Ne.Act} (h : obsO m a = some R) : obsR m a = R ∧ obsOk m a = true := by unfold obsR obsOk; rw [h]; exact ⟨rfl, rfl⟩
theorem far4 (w : World) {nb b : Nat} (v0 v1 v2 v3 : Value) (h : b ≠ nb) : ((((w.setCell ⟨nb, 0, none⟩ v0).setCell ⟨nb, 1, none⟩ v1).setCell ⟨nb, 2, none⟩ v2).setCell ⟨nb, 3, none⟩ v3).heap[b]? = w.heap[b]? := by
  rw [Below.heap_setCell _ _ _ _ h, Below.heap_setCell _ _ _ _ h, Below.heap_setCell _ _ _ _ h, Below.heap_setCell _ _ _ _ h]
theorem set4b {B nb : Nat} {a w : World} (h : Below B a w) (hb : B ≤ nb) (v0 v1 v2 v3 : Value) : Below B a ((((w.setCell ⟨nb, 0, none⟩ v0).setCell ⟨nb, 1, none⟩ v1).setCell ⟨nb, 2, none⟩ v2).setCell ⟨nb, 3, none⟩ v3) :=
  (((h.setCell hb v0).setCell hb v1).setCell hb v2).setCell hb v3
/-- The branch is there. -/
theorem br_some {w' : World} {bs : List Nat} {e : Ending} {m : Ne.Mon} {a : Ne.Act} (h : (findF (curM m).kids a.l = none ∧ e = .returned (.tuple #[.agg #[.int .i64 0, .string ⟨#[]⟩, .int .i64 0, .slice none 0 0], .bool false])) ∨
     ∃ (N : Nd) (a5 : Option Addr) (c : Nat) (ks : List Nat), findF (curM m).kids a.l = some N ∧ e = .returned (.tuple #[.agg #[.int .i64 N.k, .string N.fr, .int .i64 N.ix, .slice a5 N.kids.len c], .bool true]) ∧ Ow w' (.slice a5 N.kids.len c) N.kids ks ∧ (∀ x, x ∈ ks → x ∈ bs) ∧ ks.Nodup) (hp : permB m a = true) :
    ∃ (N : Nd) (a5 : Option Addr) (c : Nat) (ks : List Nat), findF (curM m).kids a.l = some N ∧ e = .returned (.tuple #[.agg #[.int .i64 N.k, .string N.fr, .int .i64 N.ix, .slice a5 N.kids.len c], .bool true]) ∧ Ow w' (.slice a5 N.kids.len c) N.kids ks ∧ (∀ x, x ∈ ks → x ∈ bs) ∧ ks.Nodup := by
  rcases h with ⟨h, -⟩ | h
  · unfold permB at hp
    rw [h] at hp
    simp at hp
  · exact h
/-- A tree of the call's own has cells of the sizes that the language allows. -/
theorem OwRow.fits {w : World} {b : Nat} {N : Nd} {lab : ByteArray} {rest : F} : ∀ (p : F) (o : Nat) (bs : List Nat), OwRow w b o (p.app (.cons lab N.k N.fr N.ix N.kids rest)) bs → Fit N
  | .nil, _, _, h => by
    obtain ⟨_, h3, h4, h5, _⟩ := h
    exact ⟨h3, h4, h5⟩
  | .cons _ _ _ _ _ r, o, bs, h => by
    obtain ⟨_, _, _, _, _, _, _, _, ks, rs, _, _, hr⟩ := h
    exact OwRow.fits r _ _ hr
theorem Ow.fits {w : World} {v : Value} {f : F} {bs : List Nat} (h : Ow w v f bs) {N : Nd} {s : ByteArray} (hf : findF f s = some N) : Fit N := by
  obtain ⟨p, lab, rest, rfl⟩ := findF_split _ _ _ hf
  obtain ⟨a, cap, rfl, e1, e2, hs⟩ := h
  rcases hs with ⟨hs, _⟩ | ⟨b, n, bs', rfl, rfl, _, _, hr⟩
  · have := congrArg F.len hs
    rw [F.len_app] at this
    simp only [F.len] at this
    omega
  · exact OwRow.fits _ _ _ hr

/-- What follows a permitted action is a valid type. -/
theorem nxt_ok {m : Ne.Mon} {s : ByteArray} {N : Nd} (h : monOk m = true) (hf : findF (curM m).kids s = some N) : okG ⟨N.k, N.fr, N.ix, N.kids⟩ = true := by
  unfold monOk curOk at h
  simp only [Bool.and_eq_true] at h
  obtain ⟨p, lab, rest, e⟩ := findF_split _ _ _ hf
  exact step_valid h.2.2 e

set_option maxHeartbeats 4000000 in
set_option maxRecDepth 100000 in
/-- Observe of the model. -/
theorem specObs (w : World) (m : Ne.Mon) (a : Ne.Act) (sa : Option Addr) (sc : Nat) (hs : Sl w (.slice sa m.kids.len sc) m.kids) (hf : m.Fit) (hsz : m.kids.sz ≤ 1048576) :
    Calls Tryz.prog 6 #[.agg #[.string m.ro, .int .i64 m.k, .string m.fr, .int .i64 m.ix, .slice sa m.kids.len sc], .agg #[.string a.r, .bool a.rc, .string a.p, .string a.l]] w (MadeMo (obsR m a) (obsOk m a) w) := by
  have hb0 : Below w.heap.size w (((w.alloc (.cells #[.string m.ro, .int .i64 m.k, .string m.fr, .int .i64 m.ix, .slice sa m.kids.len sc] ( /- t -/ 35))).alloc (.cells #[.string a.r, .bool a.rc, .string a.p, .string a.l] ( /- t -/ 39))).alloc (.cells #[.string ⟨#[]⟩, .int .i64 0, .string ⟨#[]⟩, .int .i64 0, .slice none 0 0] ( /- t -/ 35))) := ((alloc_below w _).alloc (by simp) _).alloc (by simp; omega) _
  have hm0 := ((Ne.Box5.now w (.string m.ro) (.int .i64 m.k) (.string m.fr) (.int .i64 m.ix) (.slice sa m.kids.len sc) ( /- t -/ 35)).below (alloc_below _ (.cells #[.string a.r, .bool a.rc, .string a.p, .string a.l] ( /- t -/ 39)))).below (alloc_below _ (.cells #[.string ⟨#[]⟩, .int .i64 0, .string ⟨#[]⟩, .int .i64 0, .slice none 0 0] ( /- t -/ 35)))
  have ha0 := (Box4.now (w.alloc (.cells #[.string m.ro, .int .i64 m.k, .string m.fr, .int .i64 m.ix, .slice sa m.kids.len sc] ( /- t -/ 35))) (.string a.r) (.bool a.rc) (.string a.p) (.string a.l) ( /- t -/ 39)).below (alloc_below _ (.cells #[.string ⟨#[]⟩, .int .i64 0, .string ⟨#[]⟩, .int .i64 0, .slice none 0 0] ( /- t -/ 35)))
  have hz0 := Ne.Box5.now ((w.alloc (.cells #[.string m.ro, .int .i64 m.k, .string m.fr, .int .i64 m.ix, .slice sa m.kids.len sc] ( /- t -/ 35))).alloc (.cells #[.string a.r, .bool a.rc, .string a.p, .string a.l] ( /- t -/ 39))) (.string ⟨#[]⟩) (.int .i64 0) (.string ⟨#[]⟩) (.int .i64 0) (.slice none 0 0) ( /- t -/ 35)
  rw [show (w.alloc (.cells #[.string m.ro, .int .i64 m.k, .string m.fr, .int .i64 m.ix, .slice sa m.kids.len sc] ( /- t -/ 35))).heap.size = w.heap.size + 1 from by simp] at ha0
  rw [show ((w.alloc (.cells #[.string m.ro, .int .i64 m.k, .string m.fr, .int .i64 m.ix, .slice sa m.kids.len sc] ( /- t -/ 35))).alloc (.cells #[.string a.r, .bool a.rc, .string a.p, .string a.l] ( /- t -/ 39))).heap.size = w.heap.size + 2 from by simp] at hz0
  have HS := hide hs
  have HB0 := hide hb0
  have HM0 := hide hm0
  have HA0 := hide ha0
  have HZ0 := hide hz0
  have HF := hide (And.intro hf hsz)
  clear hs hf hsz hb0 hm0 ha0 hz0
  go_enter Tryz.func6, Tryz.ntmps6
  go_wp2_with fail
  generalize ((w.alloc (.cells #[.string m.ro, .int .i64 m.k, .string m.fr, .int .i64 m.ix, .slice sa m.kids.len sc] ( /- t -/ 35))).alloc (.cells #[.string a.r, .bool a.rc, .string a.p, .string a.l] ( /- t -/ 39))).alloc (.cells #[.string ⟨#[]⟩, .int .i64 0, .string ⟨#[]⟩, .int .i64 0, .slice none 0 0] ( /- t -/ 35)) = W at *
  refine (specMonValid W m _ (HS.out.still (Still.of_below HB0.out)) HF.out.1 HF.out.2).mono ?_
  rintro e w1 ⟨rfl, hb⟩
  have HM1 := hide (HM0.out.below hb)
  have HA1 := hide (HA0.out.below hb)
  have HZ1 := hide (HZ0.out.below hb)
  have HB1 := hide (HB0.out.trans (hb.mono HB0.out.size))
  have hsz0 := HZ0.out.lt
  have hs1 := hb.size
  clear hb HM0 HA0 HZ0 HB0
  cases hok : monOk m with
  | false =>
    have HR := hide (obs_no (show obsO m a = none by unfold obsO; rw [if_neg (by rintro ⟨h, -⟩; rw [hok] at h; cases h)]))
    obtain ⟨z0, z1, z2, z3, z4⟩ := HZ1.out.cells
    have fz := HZ1.out.frozen
    have hzl := HZ1.out.lt
    go_wp2_with fail
    refine bodyPost_ret (v := .tuple #[.agg #[.string ⟨#[]⟩, .int .i64 0, .string ⟨#[]⟩, .int .i64 0, .slice none 0 0], .bool false]) (by simp [results, Tryz.results6, go_sem, *]) rfl ?_
    rw [HR.out.1, HR.out.2]
    refine MadeMo.zero ?_
    repeat (refine Below.setCell ?_ (by first | (simp; done) | (simp; omega)) _)
    exact HB1.out
  | true =>
  obtain ⟨x0, x1, x2, x3, x4⟩ := HM1.out.cells
  have xl := HM1.out.lt
  obtain ⟨a0, a1, a2, a3⟩ := HA1.out.cells
  have al := HA1.out.lt
  by_cases hr : a.r.toList = m.ro.toList
  case neg =>
    have HR := hide (obs_no (show obsO m a = none by unfold obsO; rw [if_neg (by rintro ⟨-, h, -⟩; exact hr h)]))
    obtain ⟨z0, z1, z2, z3, z4⟩ := HZ1.out.cells
    have fz := HZ1.out.frozen
    have hzl := HZ1.out.lt
    go_wp2_with fail
    refine bodyPost_ret (v := .tuple #[.agg #[.string ⟨#[]⟩, .int .i64 0, .string ⟨#[]⟩, .int .i64 0, .slice none 0 0], .bool false]) (by simp [results, Tryz.results6, go_sem, *]) rfl ?_
    rw [HR.out.1, HR.out.2]
    refine MadeMo.zero ?_
    repeat (refine Below.setCell ?_ (by first | (simp; done) | (simp; omega)) _)
    exact HB1.out
  go_wp2_with fail
  refine (permits_calls w1 m a _ (HS.out.still (Still.of_below HB1.out)) (monOk_parts hok).1 HF.out.1).mono ?_
  rintro e w2 ⟨rfl, hb⟩
  have HM2 := hide (HM1.out.below hb)
  have HA2 := hide (HA1.out.below hb)
  have HZ2 := hide (HZ1.out.below hb)
  have HB2 := hide (HB1.out.trans (hb.mono HB1.out.size))
  have hs2 := hb.size
  clear hb x0 x1 x2 x3 x4 xl a0 a1 a2 a3 al HM1 HA1 HZ1
  cases hp : permB m a with
  | false =>
    have HR := hide (obs_no (show obsO m a = none by unfold obsO; rw [if_neg (by rintro ⟨-, -, h⟩; rw [hp] at h; cases h)]))
    obtain ⟨z0, z1, z2, z3, z4⟩ := HZ2.out.cells
    have fz := HZ2.out.frozen
    have hzl := HZ2.out.lt
    go_wp2_with fail
    refine bodyPost_ret (v := .tuple #[.agg #[.string ⟨#[]⟩, .int .i64 0, .string ⟨#[]⟩, .int .i64 0, .slice none 0 0], .bool false]) (by simp [results, Tryz.results6, go_sem, *]) rfl ?_
    rw [HR.out.1, HR.out.2]
    refine MadeMo.zero ?_
    repeat (refine Below.setCell ?_ (by first | (simp; done) | (simp; omega)) _)
    exact HB2.out
  | true =>
  obtain ⟨x0, x1, x2, x3, x4⟩ := HM2.out.cells
  have xl := HM2.out.lt
  obtain ⟨a0, a1, a2, a3⟩ := HA2.out.cells
  have al := HA2.out.lt
  obtain ⟨hw, hh, hz⟩ := okG_w (monOk_parts hok).1
  have HV2 := hide (monOk_parts hok).2
  have HPB := hide (And.intro hok (And.intro hr hp))
  clear hok hr hp
  have HUF := hide (fun (W : World) (hb : Below w.heap.size w W) => (show Calls Tryz.prog 17 #[.agg #[.int .i64 m.k, .string m.fr, .int .i64 m.ix, .slice sa m.kids.len sc]] W (MadeN (curM m).k (curM m).fr (curM m).ix (curM m).kids W) from unf_calls W ⟨m.k, m.fr, m.ix, m.kids⟩ _ (HS.out.still (Still.of_below hb)) hw hh (mon_fit HF.out.1)))
  have HB := hide HB2.out.drew
  have HK := hide (And.intro HM2.out.drew (And.intro HA2.out.drew HZ2.out.drew))
  clear hw hh hz x0 x1 x2 x3 x4 xl a0 a1 a2 a3 al HM2 HA2 HZ2 HB2
  go_wp2_with fail
  refine wp_region_held_drew (S := (fun w' => Ne.Box5 w' w.heap.size (.string m.ro) (.int .i64 m.k) (.string m.fr) (.int .i64 m.ix) (.slice sa m.kids.len sc) ∧ Box4 w' (w.heap.size + 1) (.string a.r) (.bool a.rc) (.string a.p) (.string a.l) ∧ Ne.Box5 w' (w.heap.size + 2) (.string ⟨#[]⟩) (.int .i64 0) (.string ⟨#[]⟩) (.int .i64 0) (.slice none 0 0))) (by kernel_rfl) ?_ (fun hHeld => ?_)
  · exact HK.out
  refine wpAnyH_take (i := 0) (v := ?v0) rfl (by kernel_rfl) (by kernel_rfl) (by kernel_rfl) (fun _ _ _ h => h) (Or.inl ⟨by kernel_rfl, ?hy0⟩) (by assumption) ?rest0
  case hy0 => ((intro wS hSw); (obtain ⟨hSa, hSb, hSc⟩ := hSw); (obtain ⟨x0, x1, x2, x3, x4⟩ := hSa.cells); (obtain ⟨a0, a1, a2, a3⟩ := hSb.cells); (try dsimp only at hSw); (go_simp); (try with_reducible rfl))
  change wpAnyH _ _ _ _ _ _ _ (Act.put _ (some 28) _) _
  (try simp only [Act.put]); (try simp only [List.setIfInBounds_toArray]); (try simp only [List.set_cons_zero]); (try simp only [List.set_cons_succ])
  refine wpAnyH_take (i := 1) (v := ?v1) rfl (by kernel_rfl) (by kernel_rfl) (by kernel_rfl) (fun _ _ _ h => h) (Or.inl ⟨by kernel_rfl, ?hy1⟩) (by assumption) ?rest1
  case hy1 => ((intro wS hSw); (obtain ⟨hSa, hSb, hSc⟩ := hSw); (obtain ⟨x0, x1, x2, x3, x4⟩ := hSa.cells); (obtain ⟨a0, a1, a2, a3⟩ := hSb.cells); (try dsimp only at hSw); (go_simp); (try with_reducible rfl))
  change wpAnyH _ _ _ _ _ _ _ (Act.put _ (some 29) _) _
  (try simp only [Act.put]); (try simp only [List.setIfInBounds_toArray]); (try simp only [List.set_cons_zero]); (try simp only [List.set_cons_succ])
  refine wpAnyH_take (i := 4) (v := ?v4) rfl (by kernel_rfl) (by kernel_rfl) (by kernel_rfl) (fun _ _ _ h => h) (Or.inl ⟨by kernel_rfl, ?hy4⟩) (by assumption) ?rest4
  case hy4 => ((intro wS hSw); (obtain ⟨hSa, hSb, hSc⟩ := hSw); (obtain ⟨x0, x1, x2, x3, x4⟩ := hSa.cells); (obtain ⟨a0, a1, a2, a3⟩ := hSb.cells); (try dsimp only at hSw); (go_simp); (try with_reducible rfl))
  change wpAnyH _ _ _ _ _ _ _ (Act.put _ (some 32) _) _
  (try simp only [Act.put]); (try simp only [List.setIfInBounds_toArray]); (try simp only [List.set_cons_zero]); (try simp only [List.set_cons_succ])
  refine wpAnyH_take (i := 5) (v := ?v5) rfl (by kernel_rfl) (by kernel_rfl) (by kernel_rfl) (fun _ _ _ h => h) (Or.inl ⟨by kernel_rfl, ?hy5⟩) (by assumption) ?rest5
  case hy5 => ((intro wS hSw); (obtain ⟨hSa, hSb, hSc⟩ := hSw); (obtain ⟨x0, x1, x2, x3, x4⟩ := hSa.cells); (obtain ⟨a0, a1, a2, a3⟩ := hSb.cells); (try dsimp only at hSw); (go_simp); (try with_reducible rfl))
  change wpAnyH _ _ _ _ _ _ _ (Act.put _ (some 33) _) _
  (try simp only [Act.put]); (try simp only [List.setIfInBounds_toArray]); (try simp only [List.set_cons_zero]); (try simp only [List.set_cons_succ])
  refine wpAnyH_ready (rs := [2, 10]) (by kernel_rfl) (by simp) (AllReadyH.cons rfl (fun K hK => ?kax) (AllReadyH.cons rfl (fun K hK => ?kbx) AllReadyH.nil))
  case' kax =>
    rw [if_pos (by kernel_rfl)]
    go_simp
    go_at_call 17; (with_reducible refine (HUF.out _ HB.out).mono ?_); rintro e wU ⟨u, bs, rfl, how, hge, hnd, hbU⟩; (obtain ⟨ua, uc, rfl⟩ := how.val); (have HO := hide how); (have hfd : ∀ W : World, (Instr.field ( /- t -/ 33) (.agg #[.int .i64 (curM m).k, .string (curM m).fr, .int .i64 (curM m).ix, .slice ua (curM m).kids.len uc]) 3).run Tryz.prog W = .ok (.slice ua (curM m).kids.len uc) W := fun W => by kernel_rfl); (have HGE := hide (fun x (hx : x ∈ bs) => (show w.heap.size + 2 < x by have := hge x hx; have := HK.out.2.2.lt; omega))); (have HK := hide (And.intro (HK.out.1.below hbU) (And.intro (HK.out.2.1.below hbU) (HK.out.2.2.below hbU)))); (have HB := hide (HB.out.trans (hbU.mono HB.out.size))); clear how hge hbU
    refine hK.out _ _ ?_ (fun hHeld => ?_)
    · exact HK.out
    clear hK K
    (try simp only [Act.put]); (try simp only [List.setIfInBounds_toArray]); (try simp only [List.set_cons_zero]); (try simp only [List.set_cons_succ])
    refine wpAnyH_take (i := 3) (v := ?v3p) rfl (by kernel_rfl) (by kernel_rfl) (by kernel_rfl) (fun _ _ _ h => h) (Or.inl ⟨by kernel_rfl, ?hy3p⟩) (by assumption) ?rest3p
    case hy3p => ((intro wS hSw); (obtain ⟨hSa, hSb, hSc⟩ := hSw); (obtain ⟨x0, x1, x2, x3, x4⟩ := hSa.cells); (obtain ⟨a0, a1, a2, a3⟩ := hSb.cells); (try dsimp only at hSw); (go_simp); (try with_reducible rfl))
    change wpAnyH _ _ _ _ _ _ _ (Act.put _ (some 31) _) _
    (try simp only [Act.put]); (try simp only [List.setIfInBounds_toArray]); (try simp only [List.set_cons_zero]); (try simp only [List.set_cons_succ])
    refine wpAnyH_ready (rs := [6, 10]) (by kernel_rfl) (by simp) (AllReadyH.cons rfl (fun K hK => ?kay) (AllReadyH.cons rfl (fun K hK => ?kby) AllReadyH.nil))
    case' kay =>
      rw [if_pos (by kernel_rfl)]
      go_simp
      go_at_call 16; (with_reducible refine (branch_calls _ _ (curM m).kids bs a.l HO.out hnd).mono ?_); rintro e wB ⟨hbB, hcase⟩; (obtain ⟨N, a5, c5, ks, hfn, rfl, hko, hks, hkn⟩ := br_some hcase HPB.out.2.2); (have HK := hide (And.intro (HK.out.1.below hbB) (And.intro (HK.out.2.1.below hbB) (HK.out.2.2.below hbB)))); (have HB := hide (HB.out.trans (hbB.mono HB.out.size))); (have HKO := hide (And.intro hko (And.intro hks hkn))); (have HFN := hide hfn); (have HNF := hide (Ow.fits HO.out hfn)); clear hbB hcase hko hks hkn hfn HO
      refine hK.out _ _ ?_ (fun hHeld => ?_)
      · exact HK.out
      clear hK K
      (try simp only [Act.put]); (try simp only [List.setIfInBounds_toArray]); (try simp only [List.set_cons_zero]); (try simp only [List.set_cons_succ])
      refine wpAnyH_take (i := 7) (v := ?v7p) rfl (by kernel_rfl) (by kernel_rfl) (by kernel_rfl) (fun _ _ _ h => h) (Or.inl ⟨by kernel_rfl, ?hy7p⟩) (by assumption) ?rest7p
      case hy7p => ((intro wS hSw); (obtain ⟨hSa, hSb, hSc⟩ := hSw); (obtain ⟨x0, x1, x2, x3, x4⟩ := hSa.cells); (obtain ⟨a0, a1, a2, a3⟩ := hSb.cells); (try dsimp only at hSw); (go_simp); (try with_reducible rfl))
      change wpAnyH _ _ _ _ _ _ _ (Act.put _ (some 27) _) _
      (try simp only [Act.put]); (try simp only [List.setIfInBounds_toArray]); (try simp only [List.set_cons_zero]); (try simp only [List.set_cons_succ])
      refine wpAnyH_take (i := 8) (v := ?v8p) rfl (by kernel_rfl) (by kernel_rfl) (by kernel_rfl) (fun _ _ _ h => h) (Or.inl ⟨by kernel_rfl, ?hy8p⟩) (by assumption) ?rest8p
      case hy8p => ((intro wS hSw); (obtain ⟨hSa, hSb, hSc⟩ := hSw); (obtain ⟨x0, x1, x2, x3, x4⟩ := hSa.cells); (obtain ⟨a0, a1, a2, a3⟩ := hSb.cells); (try dsimp only at hSw); (go_simp); (try with_reducible rfl))
      change wpAnyH _ _ _ _ _ _ _ (Act.put _ (some 35) _) _
      (try simp only [Act.put]); (try simp only [List.setIfInBounds_toArray]); (try simp only [List.set_cons_zero]); (try simp only [List.set_cons_succ])
      refine wpAnyH_take (i := 9) (v := ?v9p) rfl (by kernel_rfl) (by kernel_rfl) (by kernel_rfl) (fun _ _ _ h => h) (Or.inl ⟨by kernel_rfl, ?hy9p⟩) (by assumption) ?rest9p
      case hy9p => ((intro wS hSw); (obtain ⟨hSa, hSb, hSc⟩ := hSw); (obtain ⟨x0, x1, x2, x3, x4⟩ := hSa.cells); (obtain ⟨a0, a1, a2, a3⟩ := hSb.cells); (try dsimp only at hSw); (go_simp); (try with_reducible rfl))
      change wpAnyH _ _ _ _ _ _ _ (Act.put _ (some 36) _) _
      (try simp only [Act.put]); (try simp only [List.setIfInBounds_toArray]); (try simp only [List.set_cons_zero]); (try simp only [List.set_cons_succ])
      refine wpAnyH_ready (rs := [10]) (by kernel_rfl) (by simp) (AllReadyH.cons rfl (fun K hK => ?_) AllReadyH.nil)
      rw [if_pos (by kernel_rfl)]
      go_simp
      (have HKB := HK); (have HBB := HB); (have HKOB := HKO); (obtain ⟨nb, hnb⟩ : ∃ nb, nb = wB.heap.size := ⟨_, rfl⟩); (have HLO := hide (show w.heap.size + 2 < nb by rw [hnb]; exact HK.out.2.2.lt)); (have HN := hide (Box4.now wB (.int .i64 0) (.string ⟨#[]⟩) (.int .i64 0) (.slice none 0 0) ( /- t -/ 33))); (have HK := hide (And.intro (HK.out.1.below (alloc_below wB (.cells #[.int .i64 0, .string ⟨#[]⟩, .int .i64 0, .slice none 0 0] ( /- t -/ 33)))) (And.intro (HK.out.2.1.below (alloc_below wB (.cells #[.int .i64 0, .string ⟨#[]⟩, .int .i64 0, .slice none 0 0] ( /- t -/ 33)))) (HK.out.2.2.below (alloc_below wB (.cells #[.int .i64 0, .string ⟨#[]⟩, .int .i64 0, .slice none 0 0] ( /- t -/ 33))))))); (have HB := hide (HB.out.trans ((alloc_below wB (.cells #[.int .i64 0, .string ⟨#[]⟩, .int .i64 0, .slice none 0 0] ( /- t -/ 33))).mono HB.out.size))); (have HKN := hide (fun x (hx : x ∈ ks) => (show x ≠ nb by rw [hnb]; exact Nat.ne_of_lt (HKO.out.1.lt x hx)))); (have HKO := hide (And.intro (HKO.out.1.same (Same.of_below (alloc_below wB (.cells #[.int .i64 0, .string ⟨#[]⟩, .int .i64 0, .slice none 0 0] ( /- t -/ 33))) HKO.out.1.lt)) HKO.out.2))
      refine hK.out _ _ ?_ (fun hHeld => ?_)
      · exact HK.out
      clear hK K
      (try simp only [Act.put]); (try simp only [List.setIfInBounds_toArray]); (try simp only [List.set_cons_zero]); (try simp only [List.set_cons_succ])
      refine wpAnyH_ready (rs := [11]) (by kernel_rfl) (by simp) (AllReadyH.cons rfl (fun K hK => ?_) AllReadyH.nil)
      rw [if_pos (by kernel_rfl)]
      go_simp
      rw [← hnb]
      have hnw : w.heap.size + 2 < nb := HLO.out
      have hkb : ∀ x, x ∈ ks → x ≠ nb := HKN.out
      have HNX := hide (Box4.now wB (.int .i64 N.k) (.string N.fr) (.int .i64 N.ix) (.slice a5 N.kids.len c5) ( /- t -/ 33))
      rw [← hnb] at HNX
      have HK := hide (And.intro (HKB.out.1.below (alloc_below wB (.cells #[.int .i64 N.k, .string N.fr, .int .i64 N.ix, .slice a5 N.kids.len c5] ( /- t -/ 33)))) (And.intro (HKB.out.2.1.below (alloc_below wB (.cells #[.int .i64 N.k, .string N.fr, .int .i64 N.ix, .slice a5 N.kids.len c5] ( /- t -/ 33)))) (HKB.out.2.2.below (alloc_below wB (.cells #[.int .i64 N.k, .string N.fr, .int .i64 N.ix, .slice a5 N.kids.len c5] ( /- t -/ 33))))))
      have HKO := hide (And.intro (HKOB.out.1.same (Same.of_below (alloc_below wB (.cells #[.int .i64 N.k, .string N.fr, .int .i64 N.ix, .slice a5 N.kids.len c5] ( /- t -/ 33))) HKOB.out.1.lt)) HKOB.out.2)
      have HB := hide (HBB.out.trans ((alloc_below wB (.cells #[.int .i64 N.k, .string N.fr, .int .i64 N.ix, .slice a5 N.kids.len c5] ( /- t -/ 33))).mono HBB.out.size))
      refine hK.out _ _ ?_ (fun hHeld => ?_)
      · exact HK.out
      clear hK K
      (try simp only [Act.put]); (try simp only [List.setIfInBounds_toArray]); (try simp only [List.set_cons_zero]); (try simp only [List.set_cons_succ])
      refine wpAnyH_take (i := 12) (v := ?v12pz) rfl (by kernel_rfl) (by kernel_rfl) (by kernel_rfl) (fun _ _ _ h => h) (Or.inl ⟨by kernel_rfl, ?hy12pz⟩) (by assumption) ?rest12pz
      case hy12pz => ((intro wS hSw); (obtain ⟨hSa, hSb, hSc⟩ := hSw); (obtain ⟨x0, x1, x2, x3, x4⟩ := hSa.cells); (obtain ⟨a0, a1, a2, a3⟩ := hSb.cells); (try dsimp only at hSw); (go_simp); (try with_reducible rfl))
      change wpAnyH _ _ _ _ _ _ _ (Act.put _ (some 7) _) _
      (try simp only [Act.put]); (try simp only [List.setIfInBounds_toArray]); (try simp only [List.set_cons_zero]); (try simp only [List.set_cons_succ])
      refine wpAnyH_done (by kernel_rfl) ?_ _
      clear hHeld HN HKB HBB HKOB
      generalize wB.alloc (.cells #[.int .i64 N.k, .string N.fr, .int .i64 N.ix, .slice a5 N.kids.len c5] ( /- t -/ 33)) = X at *
      clear hnb
      have hge : ∀ x, x ∈ ks → w.heap.size + 2 < x := fun x hx => HGE.out x (HKO.out.2.1 x hx)
      have hnok := nxt_ok HPB.out.1 HFN.out
      obtain ⟨x0, x1, x2, x3, x4⟩ := HK.out.1.cells
      have xl := HK.out.1.lt
      obtain ⟨n0, n1, n2, n3⟩ := HNX.out.cells
      have nl := HNX.out.lt
      have hzX := HK.out.2.2.lt
      have hbo := alloc_below X (.cells #[.string m.ro, .int .i64 N.k, .string N.fr, .int .i64 N.ix, .slice a5 N.kids.len c5] ( /- t -/ 35))
      have HZX := hide (HK.out.2.2.below hbo)
      have HKX := hide (HKO.out.1.same (Same.of_below hbo HKO.out.1.lt))
      have HBX := hide (HB.out.trans (hbo.mono HB.out.size))
      have HOX := hide (Ne.Box5.now X (.string m.ro) (.int .i64 N.k) (.string N.fr) (.int .i64 N.ix) (.slice a5 N.kids.len c5) ( /- t -/ 35))
      clear hbo
      go_wp2_with fail
      refine (specMonValid _ ⟨m.ro, N.k, N.fr, N.ix, N.kids⟩ _ HKX.out.sl ⟨HF.out.1.ro, HNF.out.1, HNF.out.2.1, HNF.out.2.2⟩ (by have := (okG_w hnok).2.2; simp only at this ⊢; omega)).mono ?_
      clear x0 x1 x2 x3 x4 xl n0 n1 n2 n3 nl hzX
      rintro e w6 ⟨rfl, hb6⟩
      have HZ6 := hide (HZX.out.below hb6)
      have HK6 := hide (HKX.out.same (Same.of_below hb6 HKX.out.lt))
      have HB6 := hide (HBX.out.trans (hb6.mono HBX.out.size))
      have HO6 := hide (HOX.out.below hb6)
      clear hb6
      obtain ⟨z0, z1, z2, z3, z4⟩ := HZ6.out.cells
      have fz := HZ6.out.frozen
      have hzl := HZ6.out.lt
      cases hok2 : monOk ⟨m.ro, N.k, N.fr, N.ix, N.kids⟩ with
      | false =>
        have HR := hide (obs_no (show obsO m a = none by unfold obsO; rw [if_pos HPB.out, HFN.out]; simp [hok2]))
        go_wp2_with fail
        refine bodyPost_ret (v := .tuple #[.agg #[.string ⟨#[]⟩, .int .i64 0, .string ⟨#[]⟩, .int .i64 0, .slice none 0 0], .bool false]) (by simp [results, Tryz.results6, go_sem, *]) rfl ?_
        rw [HR.out.1, HR.out.2]
        refine MadeMo.zero ?_
        repeat (refine Below.setCell ?_ (by first | (simp; done) | (simp; omega)) _)
        exact HB6.out
      | true =>
        have HR := hide (obs_yes (show obsO m a = some ⟨m.ro, N.k, N.fr, N.ix, N.kids⟩ by unfold obsO; rw [if_pos HPB.out, HFN.out]; simp [hok2]))
        obtain ⟨o0, o1, o2, o3, o4⟩ := HO6.out.cells
        have hol := HO6.out.lt
        go_wp2_with fail
        refine bodyPost_ret (v := .tuple #[.agg #[.string m.ro, .int .i64 N.k, .string N.fr, .int .i64 N.ix, .slice a5 N.kids.len c5], .bool true]) (by simp [results, Tryz.results6, go_sem, *]) rfl ?_
        rw [HR.out.1, HR.out.2]
        refine ⟨_, ks, rfl, HK6.out.same ?_, fun x hx => by have := hge x hx; omega, HKO.out.2.2, ?_⟩
        · repeat (refine Same.setCell ?_ (fun x hx => by have := hge x hx; simp; omega) _)
          exact Same.refl _ _
        · repeat (refine Below.setCell ?_ (by first | (simp; done) | (simp; omega)) _)
          exact HB6.out
    case' kby =>
      rw [if_pos (by kernel_rfl)]
      go_simp
      (obtain ⟨nb, hnb⟩ : ∃ nb, nb = wU.heap.size := ⟨_, rfl⟩); (have HLO := hide (show w.heap.size + 2 < nb by rw [hnb]; exact HK.out.2.2.lt)); (have HN := hide (Box4.now wU (.int .i64 0) (.string ⟨#[]⟩) (.int .i64 0) (.slice none 0 0) ( /- t -/ 33))); (have HK := hide (And.intro (HK.out.1.below (alloc_below wU (.cells #[.int .i64 0, .string ⟨#[]⟩, .int .i64 0, .slice none 0 0] ( /- t -/ 33)))) (And.intro (HK.out.2.1.below (alloc_below wU (.cells #[.int .i64 0, .string ⟨#[]⟩, .int .i64 0, .slice none 0 0] ( /- t -/ 33)))) (HK.out.2.2.below (alloc_below wU (.cells #[.int .i64 0, .string ⟨#[]⟩, .int .i64 0, .slice none 0 0] ( /- t -/ 33))))))); (have HB := hide (HB.out.trans ((alloc_below wU (.cells #[.int .i64 0, .string ⟨#[]⟩, .int .i64 0, .slice none 0 0] ( /- t -/ 33))).mono HB.out.size))); (have HBN := hide (fun x (hx : x ∈ bs) => (show x ≠ nb by rw [hnb]; exact Nat.ne_of_lt (HO.out.lt x hx)))); (have HO := hide (HO.out.same (Same.of_below (alloc_below wU (.cells #[.int .i64 0, .string ⟨#[]⟩, .int .i64 0, .slice none 0 0] ( /- t -/ 33))) HO.out.lt)))
      refine hK.out _ _ ?_ (fun hHeld => ?_)
      · exact HK.out
      clear hK K
      (try simp only [Act.put]); (try simp only [List.setIfInBounds_toArray]); (try simp only [List.set_cons_zero]); (try simp only [List.set_cons_succ])
      refine wpAnyH_ready (rs := [6]) (by kernel_rfl) (by simp) (AllReadyH.cons rfl (fun K hK => ?_) AllReadyH.nil)
      rw [if_pos (by kernel_rfl)]
      go_simp
      go_at_call 16; (with_reducible refine (branch_calls _ _ (curM m).kids bs a.l HO.out hnd).mono ?_); rintro e wB ⟨hbB, hcase⟩; (obtain ⟨N, a5, c5, ks, hfn, rfl, hko, hks, hkn⟩ := br_some hcase HPB.out.2.2); (have HK := hide (And.intro (HK.out.1.below hbB) (And.intro (HK.out.2.1.below hbB) (HK.out.2.2.below hbB)))); (have HB := hide (HB.out.trans (hbB.mono HB.out.size))); (have HN := hide (HN.out.below hbB)); (have HKN := hide (fun x (hx : x ∈ ks) => HBN.out x (hks x hx))); (have HKO := hide (And.intro hko (And.intro hks hkn))); (have HFN := hide hfn); (have HNF := hide (Ow.fits HO.out hfn)); clear hbB hcase hko hks hkn hfn HO
      refine hK.out _ _ ?_ (fun hHeld => ?_)
      · exact HK.out
      clear hK K
      (try simp only [Act.put]); (try simp only [List.setIfInBounds_toArray]); (try simp only [List.set_cons_zero]); (try simp only [List.set_cons_succ])
      refine wpAnyH_take (i := 7) (v := ?v7q) rfl (by kernel_rfl) (by kernel_rfl) (by kernel_rfl) (fun _ _ _ h => h) (Or.inl ⟨by kernel_rfl, ?hy7q⟩) (by assumption) ?rest7q
      case hy7q => ((intro wS hSw); (obtain ⟨hSa, hSb, hSc⟩ := hSw); (obtain ⟨x0, x1, x2, x3, x4⟩ := hSa.cells); (obtain ⟨a0, a1, a2, a3⟩ := hSb.cells); (try dsimp only at hSw); (go_simp); (try with_reducible rfl))
      change wpAnyH _ _ _ _ _ _ _ (Act.put _ (some 27) _) _
      (try simp only [Act.put]); (try simp only [List.setIfInBounds_toArray]); (try simp only [List.set_cons_zero]); (try simp only [List.set_cons_succ])
      refine wpAnyH_take (i := 8) (v := ?v8q) rfl (by kernel_rfl) (by kernel_rfl) (by kernel_rfl) (fun _ _ _ h => h) (Or.inl ⟨by kernel_rfl, ?hy8q⟩) (by assumption) ?rest8q
      case hy8q => ((intro wS hSw); (obtain ⟨hSa, hSb, hSc⟩ := hSw); (obtain ⟨x0, x1, x2, x3, x4⟩ := hSa.cells); (obtain ⟨a0, a1, a2, a3⟩ := hSb.cells); (try dsimp only at hSw); (go_simp); (try with_reducible rfl))
      change wpAnyH _ _ _ _ _ _ _ (Act.put _ (some 35) _) _
      (try simp only [Act.put]); (try simp only [List.setIfInBounds_toArray]); (try simp only [List.set_cons_zero]); (try simp only [List.set_cons_succ])
      refine wpAnyH_take (i := 9) (v := ?v9q) rfl (by kernel_rfl) (by kernel_rfl) (by kernel_rfl) (fun _ _ _ h => h) (Or.inl ⟨by kernel_rfl, ?hy9q⟩) (by assumption) ?rest9q
      case hy9q => ((intro wS hSw); (obtain ⟨hSa, hSb, hSc⟩ := hSw); (obtain ⟨x0, x1, x2, x3, x4⟩ := hSa.cells); (obtain ⟨a0, a1, a2, a3⟩ := hSb.cells); (try dsimp only at hSw); (go_simp); (try with_reducible rfl))
      change wpAnyH _ _ _ _ _ _ _ (Act.put _ (some 36) _) _
      (try simp only [Act.put]); (try simp only [List.setIfInBounds_toArray]); (try simp only [List.set_cons_zero]); (try simp only [List.set_cons_succ])
      refine wpAnyH_ready (rs := [11]) (by kernel_rfl) (by simp) (AllReadyH.cons rfl (fun K hK => ?_) AllReadyH.nil)
      obtain ⟨n0, n1, n2, n3⟩ := HN.out.cells
      have nf := HN.out.frozen
      have nl := HN.out.lt
      rw [if_pos (by kernel_rfl)]
      go_simp
      rw [← hnb] at HN ⊢
      have hnw : w.heap.size + 2 < nb := HLO.out
      have hkb : ∀ x, x ∈ ks → x ≠ nb := HKN.out
      have HNX := hide (HN.out.setAll (.int .i64 N.k) (.string N.fr) (.int .i64 N.ix) (.slice a5 N.kids.len c5))
      have HK := hide (And.intro (HK.out.1.same (far4 (nb := nb) _ (.int .i64 N.k) (.string N.fr) (.int .i64 N.ix) (.slice a5 N.kids.len c5) (by omega))) (And.intro (HK.out.2.1.same (far4 (nb := nb) _ (.int .i64 N.k) (.string N.fr) (.int .i64 N.ix) (.slice a5 N.kids.len c5) (by omega))) (HK.out.2.2.same (far4 (nb := nb) _ (.int .i64 N.k) (.string N.fr) (.int .i64 N.ix) (.slice a5 N.kids.len c5) (by omega)))))
      have HKO := hide (And.intro (HKO.out.1.same (same_setAll hkb (.int .i64 N.k) (.string N.fr) (.int .i64 N.ix) (.slice a5 N.kids.len c5))) HKO.out.2)
      have HB := hide (set4b (nb := nb) HB.out (by omega) (.int .i64 N.k) (.string N.fr) (.int .i64 N.ix) (.slice a5 N.kids.len c5))
      refine hK.out _ _ ?_ (fun hHeld => ?_)
      · exact HK.out
      clear hK K n0 n1 n2 n3 nf nl
      (try simp only [Act.put]); (try simp only [List.setIfInBounds_toArray]); (try simp only [List.set_cons_zero]); (try simp only [List.set_cons_succ])
      refine wpAnyH_take (i := 12) (v := ?v12qz) rfl (by kernel_rfl) (by kernel_rfl) (by kernel_rfl) (fun _ _ _ h => h) (Or.inl ⟨by kernel_rfl, ?hy12qz⟩) (by assumption) ?rest12qz
      case hy12qz => ((intro wS hSw); (obtain ⟨hSa, hSb, hSc⟩ := hSw); (obtain ⟨x0, x1, x2, x3, x4⟩ := hSa.cells); (obtain ⟨a0, a1, a2, a3⟩ := hSb.cells); (try dsimp only at hSw); (go_simp); (try with_reducible rfl))
      change wpAnyH _ _ _ _ _ _ _ (Act.put _ (some 7) _) _
      (try simp only [Act.put]); (try simp only [List.setIfInBounds_toArray]); (try simp only [List.set_cons_zero]); (try simp only [List.set_cons_succ])
      refine wpAnyH_done (by kernel_rfl) ?_ _
      clear hHeld HN
      generalize ((((wB.setCell ⟨nb, 0, none⟩ (.int .i64 N.k)).setCell ⟨nb, 1, none⟩ (.string N.fr)).setCell ⟨nb, 2, none⟩ (.int .i64 N.ix)).setCell ⟨nb, 3, none⟩ (.slice a5 N.kids.len c5)) = X at *
      clear hnb
      have hge : ∀ x, x ∈ ks → w.heap.size + 2 < x := fun x hx => HGE.out x (HKO.out.2.1 x hx)
      have hnok := nxt_ok HPB.out.1 HFN.out
      obtain ⟨x0, x1, x2, x3, x4⟩ := HK.out.1.cells
      have xl := HK.out.1.lt
      obtain ⟨n0, n1, n2, n3⟩ := HNX.out.cells
      have nl := HNX.out.lt
      have hzX := HK.out.2.2.lt
      have hbo := alloc_below X (.cells #[.string m.ro, .int .i64 N.k, .string N.fr, .int .i64 N.ix, .slice a5 N.kids.len c5] ( /- t -/ 35))
      have HZX := hide (HK.out.2.2.below hbo)
      have HKX := hide (HKO.out.1.same (Same.of_below hbo HKO.out.1.lt))
      have HBX := hide (HB.out.trans (hbo.mono HB.out.size))
      have HOX := hide (Ne.Box5.now X (.string m.ro) (.int .i64 N.k) (.string N.fr) (.int .i64 N.ix) (.slice a5 N.kids.len c5) ( /- t -/ 35))
      clear hbo
      go_wp2_with fail
      refine (specMonValid _ ⟨m.ro, N.k, N.fr, N.ix, N.kids⟩ _ HKX.out.sl ⟨HF.out.1.ro, HNF.out.1, HNF.out.2.1, HNF.out.2.2⟩ (by have := (okG_w hnok).2.2; simp only at this ⊢; omega)).mono ?_
      clear x0 x1 x2 x3 x4 xl n0 n1 n2 n3 nl hzX
      rintro e w6 ⟨rfl, hb6⟩
      have HZ6 := hide (HZX.out.below hb6)
      have HK6 := hide (HKX.out.same (Same.of_below hb6 HKX.out.lt))
      have HB6 := hide (HBX.out.trans (hb6.mono HBX.out.size))
      have HO6 := hide (HOX.out.below hb6)
      clear hb6
      obtain ⟨z0, z1, z2, z3, z4⟩ := HZ6.out.cells
      have fz := HZ6.out.frozen
      have hzl := HZ6.out.lt
      cases hok2 : monOk ⟨m.ro, N.k, N.fr, N.ix, N.kids⟩ with
      | false =>
        have HR := hide (obs_no (show obsO m a = none by unfold obsO; rw [if_pos HPB.out, HFN.out]; simp [hok2]))
        go_wp2_with fail
        refine bodyPost_ret (v := .tuple #[.agg #[.string ⟨#[]⟩, .int .i64 0, .string ⟨#[]⟩, .int .i64 0, .slice none 0 0], .bool false]) (by simp [results, Tryz.results6, go_sem, *]) rfl ?_
        rw [HR.out.1, HR.out.2]
        refine MadeMo.zero ?_
        repeat (refine Below.setCell ?_ (by first | (simp; done) | (simp; omega)) _)
        exact HB6.out
      | true =>
        have HR := hide (obs_yes (show obsO m a = some ⟨m.ro, N.k, N.fr, N.ix, N.kids⟩ by unfold obsO; rw [if_pos HPB.out, HFN.out]; simp [hok2]))
        obtain ⟨o0, o1, o2, o3, o4⟩ := HO6.out.cells
        have hol := HO6.out.lt
        go_wp2_with fail
        refine bodyPost_ret (v := .tuple #[.agg #[.string m.ro, .int .i64 N.k, .string N.fr, .int .i64 N.ix, .slice a5 N.kids.len c5], .bool true]) (by simp [results, Tryz.results6, go_sem, *]) rfl ?_
        rw [HR.out.1, HR.out.2]
        refine ⟨_, ks, rfl, HK6.out.same ?_, fun x hx => by have := hge x hx; omega, HKO.out.2.2, ?_⟩
        · repeat (refine Same.setCell ?_ (fun x hx => by have := hge x hx; simp; omega) _)
          exact Same.refl _ _
        · repeat (refine Below.setCell ?_ (by first | (simp; done) | (simp; omega)) _)
          exact HB6.out
  case' kbx =>
    rw [if_pos (by kernel_rfl)]
    go_simp
    (obtain ⟨nb, hnb⟩ : ∃ nb, nb = w2.heap.size := ⟨_, rfl⟩); (have HLO := hide (show w.heap.size + 2 < nb by rw [hnb]; exact HK.out.2.2.lt)); (have HN := hide (show Box4 (w2.alloc (.cells #[.int .i64 0, .string ⟨#[]⟩, .int .i64 0, .slice none 0 0] ( /- t -/ 33))).drew w2.heap.size (.int .i64 0) (.string ⟨#[]⟩) (.int .i64 0) (.slice none 0 0) from Box4.now w2.drew _ _ _ _ ( /- t -/ 33))); (have HK := hide (And.intro (HK.out.1.below (show Below w2.drew.heap.size w2.drew (w2.alloc (.cells #[.int .i64 0, .string ⟨#[]⟩, .int .i64 0, .slice none 0 0] ( /- t -/ 33))).drew from alloc_below w2.drew (.cells #[.int .i64 0, .string ⟨#[]⟩, .int .i64 0, .slice none 0 0] ( /- t -/ 33)))) (And.intro (HK.out.2.1.below (show Below w2.drew.heap.size w2.drew (w2.alloc (.cells #[.int .i64 0, .string ⟨#[]⟩, .int .i64 0, .slice none 0 0] ( /- t -/ 33))).drew from alloc_below w2.drew (.cells #[.int .i64 0, .string ⟨#[]⟩, .int .i64 0, .slice none 0 0] ( /- t -/ 33)))) (HK.out.2.2.below (show Below w2.drew.heap.size w2.drew (w2.alloc (.cells #[.int .i64 0, .string ⟨#[]⟩, .int .i64 0, .slice none 0 0] ( /- t -/ 33))).drew from alloc_below w2.drew (.cells #[.int .i64 0, .string ⟨#[]⟩, .int .i64 0, .slice none 0 0] ( /- t -/ 33))))))); (have HB := hide (HB.out.trans ((show Below w2.drew.heap.size w2.drew (w2.alloc (.cells #[.int .i64 0, .string ⟨#[]⟩, .int .i64 0, .slice none 0 0] ( /- t -/ 33))).drew from alloc_below w2.drew (.cells #[.int .i64 0, .string ⟨#[]⟩, .int .i64 0, .slice none 0 0] ( /- t -/ 33))).mono HB.out.size)))
    refine hK.out _ _ ?_ (fun hHeld => ?_)
    · exact HK.out
    clear hK K
    (try simp only [Act.put]); (try simp only [List.setIfInBounds_toArray]); (try simp only [List.set_cons_zero]); (try simp only [List.set_cons_succ])
    refine wpAnyH_ready (rs := [2]) (by kernel_rfl) (by simp) (AllReadyH.cons rfl (fun K hK => ?_) AllReadyH.nil)
    rw [if_pos (by kernel_rfl)]
    go_simp
    go_at_call 17; (with_reducible refine (HUF.out _ HB.out).mono ?_); rintro e wU ⟨u, bs, rfl, how, hge, hnd, hbU⟩; (obtain ⟨ua, uc, rfl⟩ := how.val); (have HO := hide how); (have hfd : ∀ W : World, (Instr.field ( /- t -/ 33) (.agg #[.int .i64 (curM m).k, .string (curM m).fr, .int .i64 (curM m).ix, .slice ua (curM m).kids.len uc]) 3).run Tryz.prog W = .ok (.slice ua (curM m).kids.len uc) W := fun W => by kernel_rfl); (have HGE := hide (fun x (hx : x ∈ bs) => (show w.heap.size + 2 < x by have := hge x hx; have := HK.out.2.2.lt; omega))); (have HK := hide (And.intro (HK.out.1.below hbU) (And.intro (HK.out.2.1.below hbU) (HK.out.2.2.below hbU)))); (have HB := hide (HB.out.trans (hbU.mono HB.out.size))); (have HN := hide (HN.out.below hbU)); (have HBN := hide (fun x (hx : x ∈ bs) => (show x ≠ nb by have := hge x hx; simp at this; omega))); clear how hge hbU
    refine hK.out _ _ ?_ (fun hHeld => ?_)
    · exact HK.out
    clear hK K
    (try simp only [Act.put]); (try simp only [List.setIfInBounds_toArray]); (try simp only [List.set_cons_zero]); (try simp only [List.set_cons_succ])
    refine wpAnyH_take (i := 3) (v := ?v3r) rfl (by kernel_rfl) (by kernel_rfl) (by kernel_rfl) (fun _ _ _ h => h) (Or.inl ⟨by kernel_rfl, ?hy3r⟩) (by assumption) ?rest3r
    case hy3r => ((intro wS hSw); (obtain ⟨hSa, hSb, hSc⟩ := hSw); (obtain ⟨x0, x1, x2, x3, x4⟩ := hSa.cells); (obtain ⟨a0, a1, a2, a3⟩ := hSb.cells); (try dsimp only at hSw); (go_simp); (try with_reducible rfl))
    change wpAnyH _ _ _ _ _ _ _ (Act.put _ (some 31) _) _
    (try simp only [Act.put]); (try simp only [List.setIfInBounds_toArray]); (try simp only [List.set_cons_zero]); (try simp only [List.set_cons_succ])
    refine wpAnyH_ready (rs := [6]) (by kernel_rfl) (by simp) (AllReadyH.cons rfl (fun K hK => ?_) AllReadyH.nil)
    rw [if_pos (by kernel_rfl)]
    go_simp
    go_at_call 16; (with_reducible refine (branch_calls _ _ (curM m).kids bs a.l HO.out hnd).mono ?_); rintro e wB ⟨hbB, hcase⟩; (obtain ⟨N, a5, c5, ks, hfn, rfl, hko, hks, hkn⟩ := br_some hcase HPB.out.2.2); (have HK := hide (And.intro (HK.out.1.below hbB) (And.intro (HK.out.2.1.below hbB) (HK.out.2.2.below hbB)))); (have HB := hide (HB.out.trans (hbB.mono HB.out.size))); (have HN := hide (HN.out.below hbB)); (have HKN := hide (fun x (hx : x ∈ ks) => HBN.out x (hks x hx))); (have HKO := hide (And.intro hko (And.intro hks hkn))); (have HFN := hide hfn); (have HNF := hide (Ow.fits HO.out hfn)); clear hbB hcase hko hks hkn hfn HO
    refine hK.out _ _ ?_ (fun hHeld => ?_)
    · exact HK.out
    clear hK K
    (try simp only [Act.put]); (try simp only [List.setIfInBounds_toArray]); (try simp only [List.set_cons_zero]); (try simp only [List.set_cons_succ])
    refine wpAnyH_take (i := 7) (v := ?v7r) rfl (by kernel_rfl) (by kernel_rfl) (by kernel_rfl) (fun _ _ _ h => h) (Or.inl ⟨by kernel_rfl, ?hy7r⟩) (by assumption) ?rest7r
    case hy7r => ((intro wS hSw); (obtain ⟨hSa, hSb, hSc⟩ := hSw); (obtain ⟨x0, x1, x2, x3, x4⟩ := hSa.cells); (obtain ⟨a0, a1, a2, a3⟩ := hSb.cells); (try dsimp only at hSw); (go_simp); (try with_reducible rfl))
    change wpAnyH _ _ _ _ _ _ _ (Act.put _ (some 27) _) _
    (try simp only [Act.put]); (try simp only [List.setIfInBounds_toArray]); (try simp only [List.set_cons_zero]); (try simp only [List.set_cons_succ])
    refine wpAnyH_take (i := 8) (v := ?v8r) rfl (by kernel_rfl) (by kernel_rfl) (by kernel_rfl) (fun _ _ _ h => h) (Or.inl ⟨by kernel_rfl, ?hy8r⟩) (by assumption) ?rest8r
    case hy8r => ((intro wS hSw); (obtain ⟨hSa, hSb, hSc⟩ := hSw); (obtain ⟨x0, x1, x2, x3, x4⟩ := hSa.cells); (obtain ⟨a0, a1, a2, a3⟩ := hSb.cells); (try dsimp only at hSw); (go_simp); (try with_reducible rfl))
    change wpAnyH _ _ _ _ _ _ _ (Act.put _ (some 35) _) _
    (try simp only [Act.put]); (try simp only [List.setIfInBounds_toArray]); (try simp only [List.set_cons_zero]); (try simp only [List.set_cons_succ])
    refine wpAnyH_take (i := 9) (v := ?v9r) rfl (by kernel_rfl) (by kernel_rfl) (by kernel_rfl) (fun _ _ _ h => h) (Or.inl ⟨by kernel_rfl, ?hy9r⟩) (by assumption) ?rest9r
    case hy9r => ((intro wS hSw); (obtain ⟨hSa, hSb, hSc⟩ := hSw); (obtain ⟨x0, x1, x2, x3, x4⟩ := hSa.cells); (obtain ⟨a0, a1, a2, a3⟩ := hSb.cells); (try dsimp only at hSw); (go_simp); (try with_reducible rfl))
    change wpAnyH _ _ _ _ _ _ _ (Act.put _ (some 36) _) _
    (try simp only [Act.put]); (try simp only [List.setIfInBounds_toArray]); (try simp only [List.set_cons_zero]); (try simp only [List.set_cons_succ])
    refine wpAnyH_ready (rs := [11]) (by kernel_rfl) (by simp) (AllReadyH.cons rfl (fun K hK => ?_) AllReadyH.nil)
    obtain ⟨n0, n1, n2, n3⟩ := HN.out.cells
    have nf := HN.out.frozen
    have nl := HN.out.lt
    rw [if_pos (by kernel_rfl)]
    go_simp
    rw [← hnb] at HN ⊢
    have hnw : w.heap.size + 2 < nb := HLO.out
    have hkb : ∀ x, x ∈ ks → x ≠ nb := HKN.out
    have HNX := hide (HN.out.setAll (.int .i64 N.k) (.string N.fr) (.int .i64 N.ix) (.slice a5 N.kids.len c5))
    have HK := hide (And.intro (HK.out.1.same (far4 (nb := nb) _ (.int .i64 N.k) (.string N.fr) (.int .i64 N.ix) (.slice a5 N.kids.len c5) (by omega))) (And.intro (HK.out.2.1.same (far4 (nb := nb) _ (.int .i64 N.k) (.string N.fr) (.int .i64 N.ix) (.slice a5 N.kids.len c5) (by omega))) (HK.out.2.2.same (far4 (nb := nb) _ (.int .i64 N.k) (.string N.fr) (.int .i64 N.ix) (.slice a5 N.kids.len c5) (by omega)))))
    have HKO := hide (And.intro (HKO.out.1.same (same_setAll hkb (.int .i64 N.k) (.string N.fr) (.int .i64 N.ix) (.slice a5 N.kids.len c5))) HKO.out.2)
    have HB := hide (set4b (nb := nb) HB.out (by omega) (.int .i64 N.k) (.string N.fr) (.int .i64 N.ix) (.slice a5 N.kids.len c5))
    refine hK.out _ _ ?_ (fun hHeld => ?_)
    · exact HK.out
    clear hK K n0 n1 n2 n3 nf nl
    (try simp only [Act.put]); (try simp only [List.setIfInBounds_toArray]); (try simp only [List.set_cons_zero]); (try simp only [List.set_cons_succ])
    refine wpAnyH_take (i := 12) (v := ?v12rz) rfl (by kernel_rfl) (by kernel_rfl) (by kernel_rfl) (fun _ _ _ h => h) (Or.inl ⟨by kernel_rfl, ?hy12rz⟩) (by assumption) ?rest12rz
    case hy12rz => ((intro wS hSw); (obtain ⟨hSa, hSb, hSc⟩ := hSw); (obtain ⟨x0, x1, x2, x3, x4⟩ := hSa.cells); (obtain ⟨a0, a1, a2, a3⟩ := hSb.cells); (try dsimp only at hSw); (go_simp); (try with_reducible rfl))
    change wpAnyH _ _ _ _ _ _ _ (Act.put _ (some 7) _) _
    (try simp only [Act.put]); (try simp only [List.setIfInBounds_toArray]); (try simp only [List.set_cons_zero]); (try simp only [List.set_cons_succ])
    refine wpAnyH_done (by kernel_rfl) ?_ _
    clear hHeld HN
    generalize ((((wB.setCell ⟨nb, 0, none⟩ (.int .i64 N.k)).setCell ⟨nb, 1, none⟩ (.string N.fr)).setCell ⟨nb, 2, none⟩ (.int .i64 N.ix)).setCell ⟨nb, 3, none⟩ (.slice a5 N.kids.len c5)) = X at *
    clear hnb
    have hge : ∀ x, x ∈ ks → w.heap.size + 2 < x := fun x hx => HGE.out x (HKO.out.2.1 x hx)
    have hnok := nxt_ok HPB.out.1 HFN.out
    obtain ⟨x0, x1, x2, x3, x4⟩ := HK.out.1.cells
    have xl := HK.out.1.lt
    obtain ⟨n0, n1, n2, n3⟩ := HNX.out.cells
    have nl := HNX.out.lt
    have hzX := HK.out.2.2.lt
    have hbo := alloc_below X (.cells #[.string m.ro, .int .i64 N.k, .string N.fr, .int .i64 N.ix, .slice a5 N.kids.len c5] ( /- t -/ 35))
    have HZX := hide (HK.out.2.2.below hbo)
    have HKX := hide (HKO.out.1.same (Same.of_below hbo HKO.out.1.lt))
    have HBX := hide (HB.out.trans (hbo.mono HB.out.size))
    have HOX := hide (Ne.Box5.now X (.string m.ro) (.int .i64 N.k) (.string N.fr) (.int .i64 N.ix) (.slice a5 N.kids.len c5) ( /- t -/ 35))
    clear hbo
    go_wp2_with fail
    refine (specMonValid _ ⟨m.ro, N.k, N.fr, N.ix, N.kids⟩ _ HKX.out.sl ⟨HF.out.1.ro, HNF.out.1, HNF.out.2.1, HNF.out.2.2⟩ (by have := (okG_w hnok).2.2; simp only at this ⊢; omega)).mono ?_
    clear x0 x1 x2 x3 x4 xl n0 n1 n2 n3 nl hzX
    rintro e w6 ⟨rfl, hb6⟩
    have HZ6 := hide (HZX.out.below hb6)
    have HK6 := hide (HKX.out.same (Same.of_below hb6 HKX.out.lt))
    have HB6 := hide (HBX.out.trans (hb6.mono HBX.out.size))
    have HO6 := hide (HOX.out.below hb6)
    clear hb6
    obtain ⟨z0, z1, z2, z3, z4⟩ := HZ6.out.cells
    have fz := HZ6.out.frozen
    have hzl := HZ6.out.lt
    cases hok2 : monOk ⟨m.ro, N.k, N.fr, N.ix, N.kids⟩ with
    | false =>
      have HR := hide (obs_no (show obsO m a = none by unfold obsO; rw [if_pos HPB.out, HFN.out]; simp [hok2]))
      go_wp2_with fail
      refine bodyPost_ret (v := .tuple #[.agg #[.string ⟨#[]⟩, .int .i64 0, .string ⟨#[]⟩, .int .i64 0, .slice none 0 0], .bool false]) (by simp [results, Tryz.results6, go_sem, *]) rfl ?_
      rw [HR.out.1, HR.out.2]
      refine MadeMo.zero ?_
      repeat (refine Below.setCell ?_ (by first | (simp; done) | (simp; omega)) _)
      exact HB6.out
    | true =>
      have HR := hide (obs_yes (show obsO m a = some ⟨m.ro, N.k, N.fr, N.ix, N.kids⟩ by unfold obsO; rw [if_pos HPB.out, HFN.out]; simp [hok2]))
      obtain ⟨o0, o1, o2, o3, o4⟩ := HO6.out.cells
      have hol := HO6.out.lt
      go_wp2_with fail
      refine bodyPost_ret (v := .tuple #[.agg #[.string m.ro, .int .i64 N.k, .string N.fr, .int .i64 N.ix, .slice a5 N.kids.len c5], .bool true]) (by simp [results, Tryz.results6, go_sem, *]) rfl ?_
      rw [HR.out.1, HR.out.2]
      refine ⟨_, ks, rfl, HK6.out.same ?_, fun x hx => by have := hge x hx; omega, HKO.out.2.2, ?_⟩
      · repeat (refine Same.setCell ?_ (fun x hx => by have := hge x hx; simp; omega) _)
        exact Same.refl _ _
      · repeat (refine Below.setCell ?_ (by first | (simp; done) | (simp; omega)) _)
        exact HB6.out
end Go.Proofs.YtgcefippeokmcabGreatDoor.Lo

/- watcherOf of the program. -/
namespace Go.Proofs.YtgcefippeokmcabGreatDoor.Lo
open Go.RowKit

def set9 (w : World) (b : Nat) (u0 u1 u2 u3 u4 u5 u6 u7 u8 : Value) : World := (((((((((w.setCell ⟨b, 0, none⟩ u0).setCell ⟨b, 1, none⟩ u1).setCell ⟨b, 2, none⟩ u2).setCell ⟨b, 3, none⟩ u3).setCell ⟨b, 4, none⟩ u4).setCell ⟨b, 5, none⟩ u5).setCell ⟨b, 6, none⟩ u6).setCell ⟨b, 7, none⟩ u7).setCell ⟨b, 8, none⟩ u8)
theorem set9_below {B b : Nat} {w w' : World} (h : Below B w w') (hb : B ≤ b) (u0 u1 u2 u3 u4 u5 u6 u7 u8 : Value) : Below B w (set9 w' b u0 u1 u2 u3 u4 u5 u6 u7 u8) := by
  unfold set9
  repeat (refine Below.setCell ?_ (by exact hb) _)
  exact h
theorem set9_same {w : World} {b : Nat} {bs : List Nat} (hb : ∀ x, x ∈ bs → x ≠ b) (u0 u1 u2 u3 u4 u5 u6 u7 u8 : Value) : Same w (set9 w b u0 u1 u2 u3 u4 u5 u6 u7 u8) bs := by
  unfold set9
  repeat (refine Same.setCell ?_ (fun x hx => by have := hb x hx; simpa using this) _)
  exact Same.refl _ _
def monR (m : Ne.Mon) : Nd := curR ⟨m.k, m.fr, m.ix, m.kids⟩ (letter m.ro)

set_option maxHeartbeats 1600000 in
set_option maxRecDepth 100000 in
/-- watcherOf at what is no role. -/
theorem implWatNo (w : World) (m : Ne.Mon) (sv : Value) (hs : Sl w sv m.kids) (hr : roleB m.ro = false) :
    Calls Tryz.prog 19 #[.agg #[.string m.ro, .int .i64 m.k, .string m.fr, .int .i64 m.ix, sv]] w fun e w' => e = .returned (.tuple #[.agg #[.string ⟨#[]⟩, .int .i64 0, .string ⟨#[]⟩, .int .i64 0, .slice none 0 0, .int .i64 0, .string ⟨#[]⟩, .int .i64 0, .slice none 0 0], .bool false]) ∧ Below w.heap.size w w' := by
  have hb0 := (alloc_below w (.cells #[.string m.ro, .int .i64 m.k, .string m.fr, .int .i64 m.ix, sv] ( /- t -/ 35))).alloc (by simp) (.cells #[.string ⟨#[]⟩, .int .i64 0, .string ⟨#[]⟩, .int .i64 0, .slice none 0 0, .int .i64 0, .string ⟨#[]⟩, .int .i64 0, .slice none 0 0] ( /- t -/ 52))
  have hx0 := (Ne.Box5.now w (.string m.ro) (.int .i64 m.k) (.string m.fr) (.int .i64 m.ix) sv ( /- t -/ 35)).below (alloc_below _ (.cells #[.string ⟨#[]⟩, .int .i64 0, .string ⟨#[]⟩, .int .i64 0, .slice none 0 0, .int .i64 0, .string ⟨#[]⟩, .int .i64 0, .slice none 0 0] ( /- t -/ 52)))
  have hz0 := Blk.now (w.alloc (.cells #[.string m.ro, .int .i64 m.k, .string m.fr, .int .i64 m.ix, sv] ( /- t -/ 35))) #[.string ⟨#[]⟩, .int .i64 0, .string ⟨#[]⟩, .int .i64 0, .slice none 0 0, .int .i64 0, .string ⟨#[]⟩, .int .i64 0, .slice none 0 0] ( /- t -/ 52)
  rw [show (w.alloc (.cells #[.string m.ro, .int .i64 m.k, .string m.fr, .int .i64 m.ix, sv] ( /- t -/ 35))).heap.size = w.heap.size + 1 from by simp] at hz0
  have HSL := hide (hs.still (Still.of_below hb0))
  have HB0 := hide hb0
  have HX0 := hide hx0
  have HZ0 := hide hz0
  obtain ⟨x0, x1, x2, x3, x4⟩ := HX0.out.cells
  have hxl := HX0.out.lt
  have HR := hide (fun (W : World) => (show Calls Tryz.prog 32 #[.string m.ro] W (fun e w' => e = .returned (.bool false) ∧ W = w') by have := implRole m.ro W; rw [hr] at this; exact this))
  clear hs hb0 hx0 hz0 hr
  go_enter Tryz.func19, Tryz.ntmps19
  go_wp2_with fail
  generalize (w.alloc (.cells #[.string m.ro, .int .i64 m.k, .string m.fr, .int .i64 m.ix, sv] ( /- t -/ 35))).alloc (.cells #[.string ⟨#[]⟩, .int .i64 0, .string ⟨#[]⟩, .int .i64 0, .slice none 0 0, .int .i64 0, .string ⟨#[]⟩, .int .i64 0, .slice none 0 0] ( /- t -/ 52)) = W at *
  refine (HR.out _).mono ?_
  rintro e w1 ⟨rfl, rfl⟩
  have z0 := HZ0.out.cell 0
  have z1 := HZ0.out.cell 1
  have z2 := HZ0.out.cell 2
  have z3 := HZ0.out.cell 3
  have z4 := HZ0.out.cell 4
  have z5 := HZ0.out.cell 5
  have z6 := HZ0.out.cell 6
  have z7 := HZ0.out.cell 7
  have z8 := HZ0.out.cell 8
  have fz := HZ0.out.frozen
  have hzl := HZ0.out.lt
  simp only [List.getElem?_toArray, List.getElem?_cons_succ, List.getElem?_cons_zero] at z0 z1 z2 z3 z4 z5 z6 z7 z8
  go_wp2_with fail
  refine bodyPost_ret (v := .tuple #[.agg #[.string ⟨#[]⟩, .int .i64 0, .string ⟨#[]⟩, .int .i64 0, .slice none 0 0, .int .i64 0, .string ⟨#[]⟩, .int .i64 0, .slice none 0 0], .bool false]) (by simp [results, Tryz.results19, go_sem, *]) rfl ?_
  exact ⟨rfl, set9_below HB0.out (by omega) _ _ _ _ _ _ _ _ _⟩

set_option maxHeartbeats 1600000 in
set_option maxRecDepth 100000 in
/-- watcherOf at a role. -/
theorem implWat (w : World) (m : Ne.Mon) (sa : Option Addr) (sc : Nat) (hs : Sl w (.slice sa m.kids.len sc) m.kids) (hr : roleB m.ro = true) (R : Nd) (hR : R = monR m) (ok : Bool) (hok : ok = monOk m) :
    Calls Tryz.prog 19 #[.agg #[.string m.ro, .int .i64 m.k, .string m.fr, .int .i64 m.ix, .slice sa m.kids.len sc]] w fun e w' => ∃ u bs, e = .returned (.tuple #[.agg #[.string m.ro, .int .i64 m.k, .string m.fr, .int .i64 m.ix, .slice sa m.kids.len sc, .int .i64 R.k, .string R.fr, .int .i64 R.ix, u], .bool ok]) ∧ Ow w' u R.kids bs ∧ (∀ b, b ∈ bs → w.heap.size ≤ b) ∧ bs.Nodup ∧ Below w.heap.size w w' := by
  have hb0 := (alloc_below w (.cells #[.string m.ro, .int .i64 m.k, .string m.fr, .int .i64 m.ix, (.slice sa m.kids.len sc)] ( /- t -/ 35))).alloc (by simp) (.cells #[.string ⟨#[]⟩, .int .i64 0, .string ⟨#[]⟩, .int .i64 0, .slice none 0 0, .int .i64 0, .string ⟨#[]⟩, .int .i64 0, .slice none 0 0] ( /- t -/ 52))
  have hx0 := (Ne.Box5.now w (.string m.ro) (.int .i64 m.k) (.string m.fr) (.int .i64 m.ix) (.slice sa m.kids.len sc) ( /- t -/ 35)).below (alloc_below _ (.cells #[.string ⟨#[]⟩, .int .i64 0, .string ⟨#[]⟩, .int .i64 0, .slice none 0 0, .int .i64 0, .string ⟨#[]⟩, .int .i64 0, .slice none 0 0] ( /- t -/ 52)))
  have hz0 := Blk.now (w.alloc (.cells #[.string m.ro, .int .i64 m.k, .string m.fr, .int .i64 m.ix, (.slice sa m.kids.len sc)] ( /- t -/ 35))) #[.string ⟨#[]⟩, .int .i64 0, .string ⟨#[]⟩, .int .i64 0, .slice none 0 0, .int .i64 0, .string ⟨#[]⟩, .int .i64 0, .slice none 0 0] ( /- t -/ 52)
  rw [show (w.alloc (.cells #[.string m.ro, .int .i64 m.k, .string m.fr, .int .i64 m.ix, (.slice sa m.kids.len sc)] ( /- t -/ 35))).heap.size = w.heap.size + 1 from by simp] at hz0
  have HSL := hide (hs.still (Still.of_below hb0))
  have HB0 := hide hb0
  have HX0 := hide hx0
  have HZ0 := hide hz0
  obtain ⟨x0, x1, x2, x3, x4⟩ := HX0.out.cells
  have hxl := HX0.out.lt
  have HR := hide (fun (W : World) => (show Calls Tryz.prog 32 #[.string m.ro] W (fun e w' => e = .returned (.bool true) ∧ W = w') by have := implRole m.ro W; rw [hr] at this; exact this))
  have hlet := role_letter1 hr
  have HC := hide (fun (W : World) (hs : Sl W (.slice sa m.kids.len sc) m.kids) => (show Calls Tryz.prog 33 #[.agg #[.int .i64 m.k, .string m.fr, .int .i64 m.ix, .slice sa m.kids.len sc], .string m.ro] W (MadeR R ok W) by
    have := implCur W ⟨m.k, m.fr, m.ix, m.kids⟩ (.slice sa m.kids.len sc) (letter m.ro) hs
    rw [← hlet] at this
    rw [hR, hok]
    unfold monOk monR
    rw [hr, Bool.true_and]
    exact this))
  clear hs hb0 hx0 hz0 hr hlet hR hok
  go_enter Tryz.func19, Tryz.ntmps19
  go_wp2_with fail
  generalize (w.alloc (.cells #[.string m.ro, .int .i64 m.k, .string m.fr, .int .i64 m.ix, .slice sa m.kids.len sc] ( /- t -/ 35))).alloc (.cells #[.string ⟨#[]⟩, .int .i64 0, .string ⟨#[]⟩, .int .i64 0, .slice none 0 0, .int .i64 0, .string ⟨#[]⟩, .int .i64 0, .slice none 0 0] ( /- t -/ 52)) = W at *
  refine (HR.out _).mono ?_
  rintro e w1 ⟨rfl, rfl⟩
  go_wp2_with fail
  refine (HC.out _ HSL.out).mono ?_
  rintro e w2 ⟨u, bs, rfl, how, hge, hnd, hb⟩
  obtain ⟨ua, uc, rfl⟩ := how.val
  have hW := HB0.out.size
  have hzW := HZ0.out.lt
  have hbA := alloc_below w2 (.cells #[.int .i64 R.k, .string R.fr, .int .i64 R.ix, .slice ua R.kids.len uc] ( /- t -/ 33))
  have HX := hide ((HX0.out.below hb).below hbA)
  have HZ := hide ((HZ0.out.below hb).below hbA)
  have HB := hide (HB0.out.trans ((hb.trans (hbA.mono hb.size)).mono HB0.out.size))
  have HO := hide (how.same (Same.of_below hbA how.lt))
  have HL := hide (Box4.now w2 (.int .i64 R.k) (.string R.fr) (.int .i64 R.ix) (.slice ua R.kids.len uc) ( /- t -/ 33))
  have HGE := hide hge
  clear hb hbA how hge x0 x1 x2 x3 x4 hxl HX0 HZ0 HB0
  obtain ⟨x0, x1, x2, x3, x4⟩ := HX.out.cells
  have hxl := HX.out.lt
  obtain ⟨y0, y1, y2, y3⟩ := HL.out.cells
  have hyl := HL.out.lt
  have z0 := HZ.out.cell 0
  have z1 := HZ.out.cell 1
  have z2 := HZ.out.cell 2
  have z3 := HZ.out.cell 3
  have z4 := HZ.out.cell 4
  have z5 := HZ.out.cell 5
  have z6 := HZ.out.cell 6
  have z7 := HZ.out.cell 7
  have z8 := HZ.out.cell 8
  have fz := HZ.out.frozen
  have hzl := HZ.out.lt
  simp only [List.getElem?_toArray, List.getElem?_cons_succ, List.getElem?_cons_zero] at z0 z1 z2 z3 z4 z5 z6 z7 z8
  go_wp2_with fail
  refine bodyPost_ret (v := .tuple #[.agg #[.string m.ro, .int .i64 m.k, .string m.fr, .int .i64 m.ix, .slice sa m.kids.len sc, .int .i64 R.k, .string R.fr, .int .i64 R.ix, .slice ua R.kids.len uc], .bool ok]) (by simp [results, Tryz.results19, go_sem, *]) rfl ?_
  refine ⟨_, bs, rfl, HO.out.same (set9_same (b := w.heap.size + 1) (fun x hx => by have := HGE.out x hx; omega) _ _ _ _ _ _ _ _ _), fun x hx => by have := HGE.out x hx; omega, hnd, set9_below HB.out (by omega) _ _ _ _ _ _ _ _ _⟩
end Go.Proofs.YtgcefippeokmcabGreatDoor.Lo

/- Observe of the program. -/
namespace Go.Proofs.YtgcefippeokmcabGreatDoor.Lo
open Go.RowKit

set_option maxHeartbeats 800000 in
/-- actionOf. -/
theorem implAct (w : World) (ro fr lab frb : ByteArray) (k ix kb ixb : Int) (u v : Value) (hu : ∃ a n c, u = .slice a n c) (hv : ∃ a n c, v = .slice a n c) :
    Calls Tryz.prog 34 #[.string ro, .agg #[.int .i64 k, .string fr, .int .i64 ix, u], .agg #[.string lab, .int .i64 kb, .string frb, .int .i64 ixb, v]] w fun e w' => e = .returned (.agg #[.string ro, .bool (k == 3), .string fr, .string lab]) ∧ Below w.heap.size w w' := by
  obtain ⟨ua, un, uc, rfl⟩ := hu
  obtain ⟨va, vn, vc, rfl⟩ := hv
  go_enter Tryz.func34, Tryz.ntmps34
  go_wp2_with fail
  refine bodyPost_ret (v := .agg #[.string ro, .bool (k == 3), .string fr, .string lab]) (by simp [results, Tryz.results34, go_sem]) rfl ?_
  refine ⟨rfl, ?_⟩
  repeat (refine Below.setCell ?_ (by first | (simp; done) | (simp; omega)) _)
  exact ((alloc_below w _).alloc (by simp) _).alloc (by simp; omega) _

/-- Two actions compared. -/
theorem neq_act (r p l r' p' l' : ByteArray) (b b' : Bool) (W : World) : (binOp .neq ( /- t -/ 39) (.agg #[.string r, .bool b, .string p, .string l]) (.agg #[.string r', .bool b', .string p', .string l'])).run Tryz.prog W = .ok (.bool (!((r.toList == r'.toList) && ((b == b') && ((p.toList == p'.toList) && (l.toList == l'.toList)))))) W := by
  go_simp
  by_cases h1 : r.toList = r'.toList <;> by_cases h2 : b = b' <;> by_cases h3 : p.toList = p'.toList <;> by_cases h4 : l.toList = l'.toList <;> simp [h1, h2, h3, h4]

/-- The fields of the action that do not hang on the branch. -/
def sameC (m : Ne.Mon) (R : Nd) (a : Ne.Act) : Bool := (m.ro.toList == a.r.toList) && ((((R.k == 3) == a.rc)) && (R.fr.toList == a.p.toList))
def nxtO (m : Ne.Mon) (R : Nd) (a : Ne.Act) : Option Nd := if sameC m R a = true then (findF R.kids a.l).bind fun N => if monOk ⟨m.ro, N.k, N.fr, N.ix, N.kids⟩ = true then some N else none else none
/-- What watcher.after answers. -/
def AfP (m : Ne.Mon) (R : Nd) (a : Ne.Act) (bs : List Nat) (w : World) (e : Ending) (w' : World) : Prop :=
  Below w.heap.size w w' ∧ ((∃ T v, e = .returned (.tuple #[.agg #[.string ⟨#[]⟩, .int .i64 0, .string ⟨#[]⟩, .int .i64 0, .slice none 0 0, .int .i64 0, .string ⟨#[]⟩, .int .i64 0, .slice none 0 0], .iface T v]) ∧ nxtO m R a = none) ∨
    ∃ (N : Nd) (a5 : Option Addr) (c5 : Nat) (ks : List Nat) (d0 d2 : Int) (d1 : ByteArray) (x : Option Addr) (n c : Nat), nxtO m R a = some N ∧ e = .returned (.tuple #[.agg #[.string m.ro, .int .i64 N.k, .string N.fr, .int .i64 N.ix, .slice a5 N.kids.len c5, .int .i64 d0, .string d1, .int .i64 d2, .slice x n c], .nilIface]) ∧ Ow w' (.slice a5 N.kids.len c5) N.kids ks ∧ (∀ y, y ∈ ks → y ∈ bs) ∧ ks.Nodup)

theorem Blk.drew {w : World} {b : Nat} {cs : Array Value} (h : Blk w b cs) : Blk w.drew b cs := h
theorem Blk.set9 {w : World} {b : Nat} {v0 v1 v2 v3 v4 v5 v6 v7 v8 : Value} (h : Blk w b #[v0, v1, v2, v3, v4, v5, v6, v7, v8]) (u0 u1 u2 u3 u4 u5 u6 u7 u8 : Value) : Blk (Lo.set9 w b u0 u1 u2 u3 u4 u5 u6 u7 u8) b #[u0, u1, u2, u3, u4, u5, u6, u7, u8] := by
  obtain ⟨t, h⟩ := h
  exact ⟨t, by simp [Lo.set9, World.setCell, Array.getElem?_modify, h]⟩
theorem nxt_at {m : Ne.Mon} {R : Nd} {a : Ne.Act} {lab fr : ByteArray} {kd ix : Int} {kids rest : F} (h : sameC m R a = true → findF R.kids a.l = findF (.cons lab kd fr ix kids rest) a.l) (hm : (sameC m R a && (lab.toList == a.l.toList)) = true) :
    nxtO m R a = if monOk ⟨m.ro, kd, fr, ix, kids⟩ = true then some ⟨kd, fr, ix, kids⟩ else none := by
  simp only [Bool.and_eq_true] at hm
  unfold nxtO
  rw [if_pos hm.1, h hm.1]
  conv => lhs; unfold findF
  rw [hm.2]
  rfl
theorem nxt_bad {m : Ne.Mon} {R : Nd} {a : Ne.Act} {lab fr : ByteArray} {kd ix : Int} {kids rest : F} (h : sameC m R a = true → findF R.kids a.l = findF (.cons lab kd fr ix kids rest) a.l) (hm : (sameC m R a && (lab.toList == a.l.toList)) = true) (hk : monOk ⟨m.ro, kd, fr, ix, kids⟩ = false) : nxtO m R a = none := by
  rw [nxt_at h hm, hk]; rfl
theorem nxt_good {m : Ne.Mon} {R : Nd} {a : Ne.Act} {lab fr : ByteArray} {kd ix : Int} {kids rest : F} (h : sameC m R a = true → findF R.kids a.l = findF (.cons lab kd fr ix kids rest) a.l) (hm : (sameC m R a && (lab.toList == a.l.toList)) = true) (hk : monOk ⟨m.ro, kd, fr, ix, kids⟩ = true) : nxtO m R a = some ⟨kd, fr, ix, kids⟩ := by
  rw [nxt_at h hm, hk]; rfl
theorem nxt_nil {m : Ne.Mon} {R : Nd} {a : Ne.Act} (h : sameC m R a = true → findF R.kids a.l = findF .nil a.l) : nxtO m R a = none := by
  unfold nxtO
  split
  · rename_i hc
    rw [h hc]
    rfl
  · rfl

set_option maxHeartbeats 1000000 in
set_option maxRecDepth 100000 in
/-- watcher.after. -/
theorem implAfter (w : World) (m : Ne.Mon) (R : Nd) (a : Ne.Act) (sa ua : Option Addr) (sc uc : Nat) (bs : List Nat) (ho : Ow w (.slice ua R.kids.len uc) R.kids bs) (hnd : bs.Nodup) (hro : roleB m.ro = true) (T1 T2 : TypeId) (v1 v2 : Value)
    (he1 : w.cell? ⟨0, 0, none⟩ = some (.iface T1 v1)) (he2 : w.cell? ⟨1, 0, none⟩ = some (.iface T2 v2)) :
    Calls Tryz.prog 20 #[.agg #[.string m.ro, .int .i64 m.k, .string m.fr, .int .i64 m.ix, .slice sa m.kids.len sc, .int .i64 R.k, .string R.fr, .int .i64 R.ix, .slice ua R.kids.len uc], .agg #[.string a.r, .bool a.rc, .string a.p, .string a.l]] w (AfP m R a bs w) := by
  have hfl : R.kids.len ≤ 9223372036854775807 := by
    obtain ⟨_, _, _, e1, e2, _⟩ := id ho
    unfold maxLen at e2
    omega
  have hb0 : Below w.heap.size w (((w.alloc (.cells #[.string m.ro, .int .i64 m.k, .string m.fr, .int .i64 m.ix, .slice sa m.kids.len sc, .int .i64 R.k, .string R.fr, .int .i64 R.ix, .slice ua R.kids.len uc] ( /- t -/ 52))).alloc (.cells #[.string a.r, .bool a.rc, .string a.p, .string a.l] ( /- t -/ 39))).alloc (.cells #[.string ⟨#[]⟩, .int .i64 0, .string ⟨#[]⟩, .int .i64 0, .slice none 0 0, .int .i64 0, .string ⟨#[]⟩, .int .i64 0, .slice none 0 0] ( /- t -/ 52))) := ((alloc_below w _).alloc (by simp) _).alloc (by simp; omega) _
  have HB := hide hb0
  have HO := hide (ho.same (Same.of_below hb0 ho.lt))
  have HE1 := hide (Still.of_below hb0 _ _ he1)
  have HE2 := hide (Still.of_below hb0 _ _ he2)
  have HN := hide hnd
  have HRO := hide hro
  have HLT := hide ho.lt
  clear ho hb0 he1 he2 hnd hro
  go_enter Tryz.func20, Tryz.ntmps20
  go_wp2_with fail
  have hx0 := ((Blk.now w #[.string m.ro, .int .i64 m.k, .string m.fr, .int .i64 m.ix, .slice sa m.kids.len sc, .int .i64 R.k, .string R.fr, .int .i64 R.ix, .slice ua R.kids.len uc] ( /- t -/ 52)).below (alloc_below _ (.cells #[.string a.r, .bool a.rc, .string a.p, .string a.l] ( /- t -/ 39)))).below (alloc_below _ (.cells #[.string ⟨#[]⟩, .int .i64 0, .string ⟨#[]⟩, .int .i64 0, .slice none 0 0, .int .i64 0, .string ⟨#[]⟩, .int .i64 0, .slice none 0 0] ( /- t -/ 52)))
  have HX := hide hx0
  have ha0 := (Box4.now (w.alloc (.cells #[.string m.ro, .int .i64 m.k, .string m.fr, .int .i64 m.ix, .slice sa m.kids.len sc, .int .i64 R.k, .string R.fr, .int .i64 R.ix, .slice ua R.kids.len uc] ( /- t -/ 52))) (.string a.r) (.bool a.rc) (.string a.p) (.string a.l) ( /- t -/ 39)).below (alloc_below _ (.cells #[.string ⟨#[]⟩, .int .i64 0, .string ⟨#[]⟩, .int .i64 0, .slice none 0 0, .int .i64 0, .string ⟨#[]⟩, .int .i64 0, .slice none 0 0] ( /- t -/ 52)))
  rw [show (w.alloc (.cells #[.string m.ro, .int .i64 m.k, .string m.fr, .int .i64 m.ix, .slice sa m.kids.len sc, .int .i64 R.k, .string R.fr, .int .i64 R.ix, .slice ua R.kids.len uc] ( /- t -/ 52))).heap.size = w.heap.size + 1 from by simp] at ha0
  have HA := hide ha0
  have hz0 := Blk.now ((w.alloc (.cells #[.string m.ro, .int .i64 m.k, .string m.fr, .int .i64 m.ix, .slice sa m.kids.len sc, .int .i64 R.k, .string R.fr, .int .i64 R.ix, .slice ua R.kids.len uc] ( /- t -/ 52))).alloc (.cells #[.string a.r, .bool a.rc, .string a.p, .string a.l] ( /- t -/ 39))) #[.string ⟨#[]⟩, .int .i64 0, .string ⟨#[]⟩, .int .i64 0, .slice none 0 0, .int .i64 0, .string ⟨#[]⟩, .int .i64 0, .slice none 0 0] ( /- t -/ 52)
  rw [show ((w.alloc (.cells #[.string m.ro, .int .i64 m.k, .string m.fr, .int .i64 m.ix, .slice sa m.kids.len sc, .int .i64 R.k, .string R.fr, .int .i64 R.ix, .slice ua R.kids.len uc] ( /- t -/ 52))).alloc (.cells #[.string a.r, .bool a.rc, .string a.p, .string a.l] ( /- t -/ 39))).heap.size = w.heap.size + 1 + 1 from by simp] at hz0
  have HZ := hide hz0
  clear hx0 ha0 hz0
  generalize ((w.alloc (.cells #[.string m.ro, .int .i64 m.k, .string m.fr, .int .i64 m.ix, .slice sa m.kids.len sc, .int .i64 R.k, .string R.fr, .int .i64 R.ix, .slice ua R.kids.len uc] ( /- t -/ 52))).alloc (.cells #[.string a.r, .bool a.rc, .string a.p, .string a.l] ( /- t -/ 39))).alloc (.cells #[.string ⟨#[]⟩, .int .i64 0, .string ⟨#[]⟩, .int .i64 0, .slice none 0 0, .int .i64 0, .string ⟨#[]⟩, .int .i64 0, .slice none 0 0] ( /- t -/ 52)) = W at *
  go_loopw [14] (fun iv wr => ∃ (p q : F), R.kids = p.app q ∧ iv = .int .i64 (p.len : Nat) ∧ (sameC m R a = true → findF R.kids a.l = findF q a.l) ∧ Below W.heap.size W wr) (fun iv _ => R.kids.len - (intOf iv).toNat)
  case atStart => exact ⟨.nil, R.kids, rfl, rfl, fun _ => rfl, Below.refl _ _⟩
  case round =>
    obtain ⟨p, q, he, rfl, hfind, hbw⟩ := hrel
    have HBW := hide hbw
    have HBB := hide (HB.out.trans (hbw.mono HB.out.size))
    have HXX := hide (HX.out.below hbw)
    have HAA := hide (HA.out.below hbw)
    have HZZ := hide (HZ.out.below hbw)
    have HOO := hide (HO.out.same (Same.of_below hbw HO.out.lt))
    have g1 := Still.of_below hbw _ _ HE1.out
    have g2 := Still.of_below hbw _ _ HE2.out
    clear hbw
    cases q with
    | nil =>
      rw [F.app_nil] at he
      have hge : R.kids.len ≤ p.len := by rw [he]; exact Nat.le_refl _
      have HF := hide hfind
      clear he hfind g1
      go_wp2_with fail
      have zs := HZZ.out.cell
      have z0 := zs 0
      have z1 := zs 1
      have z2 := zs 2
      have z3 := zs 3
      have z4 := zs 4
      have z5 := zs 5
      have z6 := zs 6
      have z7 := zs 7
      have z8 := zs 8
      simp only [List.getElem?_toArray, List.getElem?_cons_succ, List.getElem?_cons_zero] at z0 z1 z2 z3 z4 z5 z6 z7 z8
      have fz := HZZ.out.frozen
      have hzl := HZZ.out.lt
      clear zs
      go_region_with fail
      all_goals
        go_wp2_with fail
        (try simp only [Act.put, List.getElem_toArray, List.getElem_cons_succ, List.getElem_cons_zero, List.setIfInBounds_toArray, List.set_cons_zero, List.set_cons_succ])
        have HB9 := Blk.set9 HZZ.out (.string ⟨#[]⟩) (.int .i64 0) (.string ⟨#[]⟩) (.int .i64 0) (.slice none 0 0) (.int .i64 0) (.string ⟨#[]⟩) (.int .i64 0) (.slice none 0 0)
        have HL9 := set9_below (b := w.heap.size + 1 + 1) HBB.out (by omega) (.string ⟨#[]⟩) (.int .i64 0) (.string ⟨#[]⟩) (.int .i64 0) (.slice none 0 0) (.int .i64 0) (.string ⟨#[]⟩) (.int .i64 0) (.slice none 0 0)
        unfold Lo.set9 at HB9 HL9
        refine bodyPost_ret (v := .tuple #[.agg #[.string ⟨#[]⟩, .int .i64 0, .string ⟨#[]⟩, .int .i64 0, .slice none 0 0, .int .i64 0, .string ⟨#[]⟩, .int .i64 0, .slice none 0 0], .iface T2 v2]) (results_blk (c := #[.string ⟨#[]⟩, .int .i64 0, .string ⟨#[]⟩, .int .i64 0, .slice none 0 0, .int .i64 0, .string ⟨#[]⟩, .int .i64 0, .slice none 0 0]) Tryz.results20 rfl HB9.drew Tryz.underlying52 rfl (by kernel_rfl)) rfl ?_
        exact ⟨HL9.drew, .inl ⟨T2, v2, rfl, nxt_nil HF.out⟩⟩
    | cons lab kd fr' ix' kids' rest =>
      have hlt : p.len < R.kids.len := by rw [he, F.len_app]; simp only [F.len]; omega
      obtain ⟨b, cap, a5, c5, ks, hu, c0, c1, c2, c3, cc5, hko, hks, hkn⟩ := HOO.out.sub HN.out he
      simp only [Value.slice.injEq, true_and] at hu
      obtain ⟨rfl, rfl⟩ := hu
      have hbl := World.block_lt_of_cell? _ _ c0
      have HE := hide (And.intro he hfind)
      have HK := hide (And.intro hko (And.intro hks hkn))
      clear he hfind hko hks hkn
      have xs := HXX.out.cell
      have y0 := xs 0
      have y5 := xs 5
      have y6 := xs 6
      have y7 := xs 7
      have y8 := xs 8
      simp only [List.getElem?_toArray, List.getElem?_cons_succ, List.getElem?_cons_zero] at y0 y5 y6 y7 y8
      have xl := HXX.out.lt
      obtain ⟨a0, a1, a2, a3⟩ := HAA.out.cells
      have al := HAA.out.lt
      clear xs
      go_wp2_with fail
      have hbb := alloc_below wr (.cells #[.string lab, .int .i64 kd, .string fr', .int .i64 ix', .slice a5 kids'.len c5] ( /- t -/ 67))
      have hst := fun (p : Addr) (v : Value) (h : wr.cell? p = some v) => Still.of_below hbb p v h
      have b5 := Ne.Box5.now wr (.string lab) (.int .i64 kd) (.string fr') (.int .i64 ix') (.slice a5 kids'.len c5) ( /- t -/ 67)
      have HBC := hide (HBB.out.trans (hbb.mono HBB.out.size))
      have HKC := hide (HK.out.1.same (Same.of_below hbb HK.out.1.lt))
      have HZC := hide (HZZ.out.below hbb)
      have HOC := hide (HOO.out.same (Same.of_below hbb HOO.out.lt))
      obtain ⟨d0, d1, d2, d3, d4⟩ := b5.cells
      have dl := b5.lt
      have hBn : ∃ nb, nb = wr.heap.size := ⟨_, rfl⟩
      replace y0 := hst _ _ y0
      replace y5 := hst _ _ y5
      replace y6 := hst _ _ y6
      replace y7 := hst _ _ y7
      replace y8 := hst _ _ y8
      replace a0 := hst _ _ a0
      replace a1 := hst _ _ a1
      replace a2 := hst _ _ a2
      replace a3 := hst _ _ a3
      replace g1 := hst _ _ g1
      clear g2 xl al c0 c1 c2 c3 cc5 hst
      generalize hW5 : wr.alloc (.cells #[.string lab, .int .i64 kd, .string fr', .int .i64 ix', .slice a5 kids'.len c5] ( /- t -/ 67)) = W5 at *
      have hmb : ∀ W : World, (binOp .neq ( /- t -/ 39) (.agg #[.string m.ro, .bool (R.k == 3), .string R.fr, .string lab]) (.agg #[.string a.r, .bool a.rc, .string a.p, .string a.l])).run Tryz.prog W = .ok (.bool (!(sameC m R a && (lab.toList == a.l.toList)))) W := fun W => by rw [neq_act]; simp only [sameC, Bool.and_assoc]
      cases hm : (sameC m R a && (lab.toList == a.l.toList)) with
      | false =>
        have hrun : ∀ W : World, (binOp .neq ( /- t -/ 39) (.agg #[.string m.ro, .bool (R.k == 3), .string R.fr, .string lab]) (.agg #[.string a.r, .bool a.rc, .string a.p, .string a.l])).run Tryz.prog W = .ok (.bool true) W := fun W => by rw [hmb, hm]; rfl
        have HNX := hide (show sameC m R a = true → findF R.kids a.l = findF rest a.l by
          intro hc
          rw [hc, Bool.true_and] at hm
          rw [HE.out.2 hc]
          conv => lhs; unfold findF
          rw [hm]
          rfl)
        clear hmb hm
        go_region_held3 (fun w' => w'.cell? ⟨w.heap.size, 0, none⟩ = some (.string m.ro) ∧ w'.cell? ⟨w.heap.size, 5, none⟩ = some (.int .i64 R.k) ∧ w'.cell? ⟨w.heap.size, 6, none⟩ = some (.string R.fr) ∧ w'.cell? ⟨w.heap.size, 7, none⟩ = some (.int .i64 R.ix) ∧ w'.cell? ⟨w.heap.size, 8, none⟩ = some (.slice (some ⟨b, 0, none⟩) R.kids.len uc) ∧
            w'.cell? ⟨wr.heap.size, 0, none⟩ = some (.string lab) ∧ w'.cell? ⟨wr.heap.size, 1, none⟩ = some (.int .i64 kd) ∧ w'.cell? ⟨wr.heap.size, 2, none⟩ = some (.string fr') ∧ w'.cell? ⟨wr.heap.size, 3, none⟩ = some (.int .i64 ix') ∧ w'.cell? ⟨wr.heap.size, 4, none⟩ = some (.slice a5 kids'.len c5) ∧
            w'.cell? ⟨w.heap.size + 1, 0, none⟩ = some (.string a.r) ∧ w'.cell? ⟨w.heap.size + 1, 1, none⟩ = some (.bool a.rc) ∧ w'.cell? ⟨w.heap.size + 1, 2, none⟩ = some (.string a.p) ∧ w'.cell? ⟨w.heap.size + 1, 3, none⟩ = some (.string a.l))
          (first | exact ⟨y0, y5, y6, y7, y8, d0, d1, d2, d3, d4, a0, a1, a2, a3⟩)
          ((first | (go_at_call 34; (with_reducible refine (implAct _ _ _ _ _ _ _ _ _ _ _ ⟨_, _, _, rfl⟩ ⟨_, _, _, rfl⟩).mono ?_); rintro e w6 ⟨rfl, hb6⟩; (have hst := fun (p : Addr) (v : Value) (h : W5.cell? p = some v) => Still.of_below hb6 p v h); (replace y0 := hst _ _ y0); (replace y5 := hst _ _ y5); (replace y6 := hst _ _ y6); (replace y7 := hst _ _ y7); (replace y8 := hst _ _ y8); (replace d0 := hst _ _ d0); (replace d1 := hst _ _ d1); (replace d2 := hst _ _ d2); (replace d3 := hst _ _ d3); (replace d4 := hst _ _ d4); (replace a0 := hst _ _ a0); (replace a1 := hst _ _ a1); (replace a2 := hst _ _ a2); (replace a3 := hst _ _ a3); (replace g1 := hst _ _ g1))))
        have HBN := hide ((HBW.out.trans (hbb.mono HBW.out.size)).drew.trans (hb6.mono (HBW.out.trans (hbb.mono HBW.out.size)).size))
        clear hb6 hst y0 y5 y6 y7 y8 d0 d1 d2 d3 d4 a0 a1 a2 a3 g1
        go_wp2_with fail
        refine ⟨⟨p.app (.cons lab kd fr' ix' kids' .nil), rest, by rw [HE.out.1, F.app_assoc]; rfl, by rw [F.len_app]; rfl, HNX.out, HBN.out⟩, by simp [intOf]; omega⟩
      | true =>
        have hrun : ∀ W : World, (binOp .neq ( /- t -/ 39) (.agg #[.string m.ro, .bool (R.k == 3), .string R.fr, .string lab]) (.agg #[.string a.r, .bool a.rc, .string a.p, .string a.l])).run Tryz.prog W = .ok (.bool false) W := fun W => by rw [hmb, hm]; rfl
        have HMM := hide hm
        clear hmb hm
        go_region_held3 (fun w' => w'.cell? ⟨w.heap.size, 0, none⟩ = some (.string m.ro) ∧ w'.cell? ⟨w.heap.size, 5, none⟩ = some (.int .i64 R.k) ∧ w'.cell? ⟨w.heap.size, 6, none⟩ = some (.string R.fr) ∧ w'.cell? ⟨w.heap.size, 7, none⟩ = some (.int .i64 R.ix) ∧ w'.cell? ⟨w.heap.size, 8, none⟩ = some (.slice (some ⟨b, 0, none⟩) R.kids.len uc) ∧
            w'.cell? ⟨wr.heap.size, 0, none⟩ = some (.string lab) ∧ w'.cell? ⟨wr.heap.size, 1, none⟩ = some (.int .i64 kd) ∧ w'.cell? ⟨wr.heap.size, 2, none⟩ = some (.string fr') ∧ w'.cell? ⟨wr.heap.size, 3, none⟩ = some (.int .i64 ix') ∧ w'.cell? ⟨wr.heap.size, 4, none⟩ = some (.slice a5 kids'.len c5) ∧
            w'.cell? ⟨w.heap.size + 1, 0, none⟩ = some (.string a.r) ∧ w'.cell? ⟨w.heap.size + 1, 1, none⟩ = some (.bool a.rc) ∧ w'.cell? ⟨w.heap.size + 1, 2, none⟩ = some (.string a.p) ∧ w'.cell? ⟨w.heap.size + 1, 3, none⟩ = some (.string a.l))
          (first | exact ⟨y0, y5, y6, y7, y8, d0, d1, d2, d3, d4, a0, a1, a2, a3⟩)
          ((first | (go_at_call 34; (with_reducible refine (implAct _ _ _ _ _ _ _ _ _ _ _ ⟨_, _, _, rfl⟩ ⟨_, _, _, rfl⟩).mono ?_); rintro e w6 ⟨rfl, hb6⟩; (have hst := fun (p : Addr) (v : Value) (h : W5.cell? p = some v) => Still.of_below hb6 p v h); (replace y0 := hst _ _ y0); (replace y5 := hst _ _ y5); (replace y6 := hst _ _ y6); (replace y7 := hst _ _ y7); (replace y8 := hst _ _ y8); (replace d0 := hst _ _ d0); (replace d1 := hst _ _ d1); (replace d2 := hst _ _ d2); (replace d3 := hst _ _ d3); (replace d4 := hst _ _ d4); (replace a0 := hst _ _ a0); (replace a1 := hst _ _ a1); (replace a2 := hst _ _ a2); (replace a3 := hst _ _ a3); (replace g1 := hst _ _ g1))))
        have hb65 := hbb.drew.trans (hb6.mono hbb.size)
        have HBN := hide (HBB.out.trans (hb65.mono HBB.out.size))
        have HK6 := hide (HK.out.1.same (Same.of_below hb65 HK.out.1.lt))
        have HZ6 := hide (HZZ.out.below hb65)
        clear hb6 hb65 hst y5 y6 y7 y8 d0 a0 a1 a2 a3
        obtain ⟨ok, hok⟩ : ∃ ok, ok = monOk ⟨m.ro, kd, fr', ix', kids'⟩ := ⟨_, rfl⟩
        obtain ⟨C, hC⟩ : ∃ C, C = monR ⟨m.ro, kd, fr', ix', kids'⟩ := ⟨_, rfl⟩
        have HWA := hide (implWat w6 ⟨m.ro, kd, fr', ix', kids'⟩ a5 c5 HK6.out.sl HRO.out C hC ok hok)
        have HOK := hide hok
        clear hok hC
        go_wp2_with fail
        (with_reducible refine HWA.out.mono ?_)
        rintro e w7 ⟨u, us, rfl, how, -, -, hb7⟩
        obtain ⟨xa, xc, rfl⟩ := how.val
        have HB7 := hide (HBN.out.trans (hb7.mono HBN.out.size))
        have HK7 := hide (HK6.out.same (Same.of_below hb7 HK6.out.lt))
        have HZ7 := hide (HZ6.out.below hb7)
        replace g1 := Still.of_below hb7 _ _ g1
        clear how hb7 y0 d1 d2 d3 d4
        cases ok with
        | false =>
          go_wp2_with fail
          have hnb := alloc_below w7 (.cells #[.string m.ro, .int .i64 kd, .string fr', .int .i64 ix', .slice a5 kids'.len c5, .int .i64 C.k, .string C.fr, .int .i64 C.ix, .slice xa C.kids.len xc] ( /- t -/ 52))
          have HZ8 := hide (HZ7.out.below hnb)
          have HB8 := hide (HB7.out.trans (hnb.mono HB7.out.size))
          replace g1 := Still.of_below hnb _ _ g1
          clear hnb
          generalize w7.alloc (.cells #[.string m.ro, .int .i64 kd, .string fr', .int .i64 ix', .slice a5 kids'.len c5, .int .i64 C.k, .string C.fr, .int .i64 C.ix, .slice xa C.kids.len xc] ( /- t -/ 52)) = w8 at *
          have zs := HZ8.out.cell
          have z0 := zs 0
          have z1 := zs 1
          have z2 := zs 2
          have z3 := zs 3
          have z4 := zs 4
          have z5 := zs 5
          have z6 := zs 6
          have z7 := zs 7
          have z8 := zs 8
          simp only [List.getElem?_toArray, List.getElem?_cons_succ, List.getElem?_cons_zero] at z0 z1 z2 z3 z4 z5 z6 z7 z8
          have fz := HZ8.out.frozen
          have hzl := HZ8.out.lt
          clear zs
          go_region_with fail
          all_goals
            go_wp2_with fail
            (try simp only [Act.put, List.getElem_toArray, List.getElem_cons_succ, List.getElem_cons_zero, List.setIfInBounds_toArray, List.set_cons_zero, List.set_cons_succ])
            have HB9 := Blk.set9 HZ8.out (.string ⟨#[]⟩) (.int .i64 0) (.string ⟨#[]⟩) (.int .i64 0) (.slice none 0 0) (.int .i64 0) (.string ⟨#[]⟩) (.int .i64 0) (.slice none 0 0)
            have HL9 := set9_below (b := w.heap.size + 1 + 1) HB8.out (by omega) (.string ⟨#[]⟩) (.int .i64 0) (.string ⟨#[]⟩) (.int .i64 0) (.slice none 0 0) (.int .i64 0) (.string ⟨#[]⟩) (.int .i64 0) (.slice none 0 0)
            unfold Lo.set9 at HB9 HL9
            refine bodyPost_ret (v := .tuple #[.agg #[.string ⟨#[]⟩, .int .i64 0, .string ⟨#[]⟩, .int .i64 0, .slice none 0 0, .int .i64 0, .string ⟨#[]⟩, .int .i64 0, .slice none 0 0], .iface T1 v1]) (results_blk (c := #[.string ⟨#[]⟩, .int .i64 0, .string ⟨#[]⟩, .int .i64 0, .slice none 0 0, .int .i64 0, .string ⟨#[]⟩, .int .i64 0, .slice none 0 0]) Tryz.results20 rfl HB9.drew Tryz.underlying52 rfl (by kernel_rfl)) rfl ?_
            exact ⟨HL9.drew, .inl ⟨T1, v1, rfl, nxt_bad HE.out.2 HMM.out HOK.out.symm⟩⟩
        | true =>
          have zs := HZ7.out.cell
          have z0 := zs 0
          have z1 := zs 1
          have z2 := zs 2
          have z3 := zs 3
          have z4 := zs 4
          have z5 := zs 5
          have z6 := zs 6
          have z7 := zs 7
          have z8 := zs 8
          simp only [List.getElem?_toArray, List.getElem?_cons_succ, List.getElem?_cons_zero] at z0 z1 z2 z3 z4 z5 z6 z7 z8
          have fz := HZ7.out.frozen
          have hzl := HZ7.out.lt
          clear zs
          go_wp2_with fail
          have HB9 := Blk.set9 HZ7.out (.string m.ro) (.int .i64 kd) (.string fr') (.int .i64 ix') (.slice a5 kids'.len c5) (.int .i64 C.k) (.string C.fr) (.int .i64 C.ix) (.slice xa C.kids.len xc)
          have HL9 := set9_below (b := w.heap.size + 1 + 1) HB7.out (by omega) (.string m.ro) (.int .i64 kd) (.string fr') (.int .i64 ix') (.slice a5 kids'.len c5) (.int .i64 C.k) (.string C.fr) (.int .i64 C.ix) (.slice xa C.kids.len xc)
          have HK9 := HK7.out.same (set9_same (b := w.heap.size + 1 + 1) (fun x hx => by have := HLT.out x (HK.out.2.1 x hx); omega) (.string m.ro) (.int .i64 kd) (.string fr') (.int .i64 ix') (.slice a5 kids'.len c5) (.int .i64 C.k) (.string C.fr) (.int .i64 C.ix) (.slice xa C.kids.len xc))
          replace HB9 := HB9.below (alloc_below _ (.cells #[.string m.ro, .int .i64 kd, .string fr', .int .i64 ix', .slice a5 kids'.len c5, .int .i64 C.k, .string C.fr, .int .i64 C.ix, .slice xa C.kids.len xc] ( /- t -/ 52)))
          replace HL9 := HL9.alloc HL9.size (.cells #[.string m.ro, .int .i64 kd, .string fr', .int .i64 ix', .slice a5 kids'.len c5, .int .i64 C.k, .string C.fr, .int .i64 C.ix, .slice xa C.kids.len xc] ( /- t -/ 52))
          replace HK9 := HK9.same (Same.of_below (alloc_below _ (.cells #[.string m.ro, .int .i64 kd, .string fr', .int .i64 ix', .slice a5 kids'.len c5, .int .i64 C.k, .string C.fr, .int .i64 C.ix, .slice xa C.kids.len xc] ( /- t -/ 52))) HK9.lt)
          unfold Lo.set9 at HB9 HL9 HK9
          refine bodyPost_ret (v := .tuple #[.agg #[.string m.ro, .int .i64 kd, .string fr', .int .i64 ix', .slice a5 kids'.len c5, .int .i64 C.k, .string C.fr, .int .i64 C.ix, .slice xa C.kids.len xc], .nilIface]) (results_blk (c := #[.string m.ro, .int .i64 kd, .string fr', .int .i64 ix', .slice a5 kids'.len c5, .int .i64 C.k, .string C.fr, .int .i64 C.ix, .slice xa C.kids.len xc]) Tryz.results20 rfl HB9 Tryz.underlying52 rfl (by kernel_rfl)) rfl ?_
          exact ⟨HL9, .inr ⟨⟨kd, fr', ix', kids'⟩, a5, c5, ks, C.k, C.ix, C.fr, xa, C.kids.len, xc, nxt_good HE.out.2 HMM.out HOK.out.symm, rfl, HK9, HK.out.2.1, HK.out.2.2⟩⟩
end Go.Proofs.YtgcefippeokmcabGreatDoor.Lo

/- Observe of the program. -/
namespace Go.Proofs.YtgcefippeokmcabGreatDoor.Lo
open Go.RowKit

theorem same_drew {a w : World} {bs : List Nat} (h : Same a w bs) : Same a w.drew bs := fun x hx => h x hx
theorem ne_of_one {x b c : Nat} (hx : x ∈ [b]) (h : b < c) : x ≠ c := by
  have : x = b := by simpa using hx
  omega
theorem cur_kind {m : Ne.Mon} {s : ByteArray} {N : Nd} (h : monOk m = true) (hf : findF (curM m).kids s = some N) : (curM m).k = 2 ∨ (curM m).k = 3 := by
  unfold monOk curOk at h
  simp only [Bool.and_eq_true] at h
  have hu := h.2.2
  unfold unfOk at hu
  simp only [Bool.and_eq_true] at hu
  obtain ⟨hw, -, -⟩ := okG_w hu.2
  obtain ⟨hgw, -, -⟩ := okG_w hu.1
  obtain ⟨h3, h4⟩ := unfN_k (m.kids.sz + 1) [] ⟨m.k, m.fr, m.ix, m.kids⟩ hgw (Nat.lt_succ_self _)
  have hne : (curM m).kids ≠ .nil := by
    obtain ⟨p, lab, rest, e⟩ := findF_split _ _ _ hf
    rw [e]
    intro e
    have := congrArg F.len e
    rw [F.len_app] at this
    simp only [F.len] at this
    omega
  unfold wN at hw
  simp only [Bool.and_eq_true] at hw
  by_cases h2 : (curM m).k = 2 ∨ (curM m).k = 3
  · exact h2
  · exact absurd (shape_leaf hw.1 h2 h3) hne
theorem obs_nxt {m : Ne.Mon} {a : Ne.Act} (h : monOk m = true) : obsO m a = (nxtO m (curM m) a).map fun N => ⟨m.ro, N.k, N.fr, N.ix, N.kids⟩ := by
  cases hf : findF (curM m).kids a.l with
  | none =>
    unfold obsO nxtO
    rw [hf]
    split <;> split <;> rfl
  | some N =>
    have hk := cur_kind h hf
    have key : (monOk m = true ∧ a.r.toList = m.ro.toList ∧ permB m a = true) ↔ sameC m (curM m) a = true := by
      have e : (curM m).k = kindI a.rc ↔ ((curM m).k == 3) = a.rc := by
        rcases hk with hk | hk <;> rw [hk] <;> cases a.rc <;> decide
      unfold permB sameC
      rw [hf]
      simp only [Bool.and_eq_true, decide_eq_true_eq, beq_iff_eq, Option.isSome_some, and_true]
      constructor
      · rintro ⟨-, h1, h2, h3⟩
        exact ⟨h1.symm, e.1 h2, h3⟩
      · rintro ⟨h1, h2, h3⟩
        exact ⟨h, h1.symm, e.2 h2, h3⟩
    unfold obsO nxtO
    rw [hf]
    by_cases hc : sameC m (curM m) a = true
    · rw [if_pos (key.2 hc), if_pos hc]
      simp only [Option.bind_some]
      split <;> rfl
    · rw [if_neg (fun h => hc (key.1 h)), if_neg hc]
      rfl

set_option maxHeartbeats 2000000 in
set_option maxRecDepth 100000 in
/-- Observe of the program. -/
theorem implObs (w : World) (m : Ne.Mon) (a : Ne.Act) (sa : Option Addr) (sc : Nat) (hs : Sl w (.slice sa m.kids.len sc) m.kids) (T1 T2 : TypeId) (v1 v2 : Value)
    (he1 : w.cell? ⟨0, 0, none⟩ = some (.iface T1 v1)) (he2 : w.cell? ⟨1, 0, none⟩ = some (.iface T2 v2)) :
    Calls Tryz.prog 9 #[.agg #[.string m.ro, .int .i64 m.k, .string m.fr, .int .i64 m.ix, .slice sa m.kids.len sc], .agg #[.string a.r, .bool a.rc, .string a.p, .string a.l]] w (MadeMo (obsR m a) (obsOk m a) w) := by
  have hb0 : Below w.heap.size w (((w.alloc (.cells #[.string m.ro, .int .i64 m.k, .string m.fr, .int .i64 m.ix, .slice sa m.kids.len sc] ( /- t -/ 35))).alloc (.cells #[.string a.r, .bool a.rc, .string a.p, .string a.l] ( /- t -/ 39))).alloc (.cells #[.string ⟨#[]⟩, .int .i64 0, .string ⟨#[]⟩, .int .i64 0, .slice none 0 0] ( /- t -/ 35))) := ((alloc_below w _).alloc (by simp) _).alloc (by simp; omega) _
  have hm0 := ((Ne.Box5.now w (.string m.ro) (.int .i64 m.k) (.string m.fr) (.int .i64 m.ix) (.slice sa m.kids.len sc) ( /- t -/ 35)).below (alloc_below _ (.cells #[.string a.r, .bool a.rc, .string a.p, .string a.l] ( /- t -/ 39)))).below (alloc_below _ (.cells #[.string ⟨#[]⟩, .int .i64 0, .string ⟨#[]⟩, .int .i64 0, .slice none 0 0] ( /- t -/ 35)))
  have ha0 := (Box4.now (w.alloc (.cells #[.string m.ro, .int .i64 m.k, .string m.fr, .int .i64 m.ix, .slice sa m.kids.len sc] ( /- t -/ 35))) (.string a.r) (.bool a.rc) (.string a.p) (.string a.l) ( /- t -/ 39)).below (alloc_below _ (.cells #[.string ⟨#[]⟩, .int .i64 0, .string ⟨#[]⟩, .int .i64 0, .slice none 0 0] ( /- t -/ 35)))
  have hz0 := Ne.Box5.now ((w.alloc (.cells #[.string m.ro, .int .i64 m.k, .string m.fr, .int .i64 m.ix, .slice sa m.kids.len sc] ( /- t -/ 35))).alloc (.cells #[.string a.r, .bool a.rc, .string a.p, .string a.l] ( /- t -/ 39))) (.string ⟨#[]⟩) (.int .i64 0) (.string ⟨#[]⟩) (.int .i64 0) (.slice none 0 0) ( /- t -/ 35)
  rw [show (w.alloc (.cells #[.string m.ro, .int .i64 m.k, .string m.fr, .int .i64 m.ix, .slice sa m.kids.len sc] ( /- t -/ 35))).heap.size = w.heap.size + 1 from by simp] at ha0
  rw [show ((w.alloc (.cells #[.string m.ro, .int .i64 m.k, .string m.fr, .int .i64 m.ix, .slice sa m.kids.len sc] ( /- t -/ 35))).alloc (.cells #[.string a.r, .bool a.rc, .string a.p, .string a.l] ( /- t -/ 39))).heap.size = w.heap.size + 1 + 1 from by simp] at hz0
  have HS := hide (hs.still (Still.of_below hb0))
  have HB0 := hide hb0
  have HM0 := hide hm0
  have HA0 := hide ha0
  have HZ0 := hide hz0
  have HE1 := hide (Still.of_below hb0 _ _ he1)
  have HE2 := hide (Still.of_below hb0 _ _ he2)
  clear hs hb0 hm0 ha0 hz0 he1 he2
  obtain ⟨ok, hok⟩ : ∃ ok, ok = monOk m := ⟨_, rfl⟩
  obtain ⟨R, hR⟩ : ∃ R, R = monR m := ⟨_, rfl⟩
  have HOK := hide hok
  have HRM := hide hR
  clear hok hR
  cases hro : roleB m.ro with
  | false =>
    have HRO := hide hro
    have HR := hide (obs_no (show obsO m a = none by unfold obsO; rw [if_neg (by rintro ⟨h, -⟩; unfold monOk at h; rw [hro] at h; cases h)]))
    clear hro
    go_enter Tryz.func9, Tryz.ntmps9
    go_wp2_with fail
    refine (implWatNo _ m _ HS.out HRO.out).mono ?_
    rintro e w1 ⟨rfl, hb⟩
    have HZ1 := hide (HZ0.out.below hb)
    have HB1 := hide (HB0.out.trans (hb.mono HB0.out.size))
    obtain ⟨z0, z1, z2, z3, z4⟩ := HZ1.out.cells
    have fz := HZ1.out.frozen
    have hzl := HZ1.out.lt
    clear hb
    go_wp2_with fail
    refine bodyPost_ret (v := .tuple #[.agg #[.string ⟨#[]⟩, .int .i64 0, .string ⟨#[]⟩, .int .i64 0, .slice none 0 0], .bool false]) (by simp [results, Tryz.results9, go_sem, z0, z1, z2, z3, z4, hzl]) rfl ?_
    rw [HR.out.1, HR.out.2]
    refine MadeMo.zero ?_
    have hs1 := HB1.out.size
    refine Below.alloc ?_ (by simp; omega) _
    repeat (refine Below.setCell ?_ (by first | (simp; done) | (simp; omega)) _)
    exact HB1.out
  | true =>
    have HRO := hide hro
    clear hro
    go_enter Tryz.func9, Tryz.ntmps9
    go_wp2_with fail
    refine (implWat _ m sa sc HS.out HRO.out R HRM.out ok HOK.out).mono ?_
    rintro e w1 ⟨u, bs, rfl, how, hge, hnd, hb⟩
    obtain ⟨ua, uc, rfl⟩ := how.val
    have hbA := alloc_below w1 (.cells #[.string m.ro, .int .i64 m.k, .string m.fr, .int .i64 m.ix, .slice sa m.kids.len sc, .int .i64 R.k, .string R.fr, .int .i64 R.ix, .slice ua R.kids.len uc] ( /- t -/ 52))
    have hbb := hb.trans (hbA.mono hb.size)
    have HZ1 := hide (HZ0.out.below hb)
    have HA1 := hide (HA0.out.below hb)
    have HB1 := hide (HB0.out.trans (hb.mono HB0.out.size))
    have HX := hide (Blk.now w1 #[.string m.ro, .int .i64 m.k, .string m.fr, .int .i64 m.ix, .slice sa m.kids.len sc, .int .i64 R.k, .string R.fr, .int .i64 R.ix, .slice ua R.kids.len uc] ( /- t -/ 52))
    have HZ2 := hide (HZ0.out.below hbb)
    have HA2 := hide (HA0.out.below hbb)
    have HO2 := hide (how.same (Same.of_below hbA how.lt))
    have HGE := hide (fun x (hx : x ∈ bs) => (show w.heap.size + 1 + 1 < x ∧ x < w1.heap.size by have := hge x hx; have := how.lt x hx; have := HZ0.out.lt; omega))
    have HB2 := hide (HB0.out.trans (hbb.mono HB0.out.size))
    have HE3 := hide (Still.of_below hbb _ _ HE1.out)
    have HE4 := hide (Still.of_below hbb _ _ HE2.out)
    have hzw : w.heap.size + 1 + 1 < w1.heap.size := by have := HZ0.out.lt; have := hb.size; omega
    obtain ⟨wb, hwb⟩ : ∃ wb, wb = w1.heap.size := ⟨_, rfl⟩
    clear hb hbA hbb how hge
    cases ok with
    | false =>
      have HR := hide (obs_no (show obsO m a = none by unfold obsO; rw [if_neg (by rintro ⟨h, -⟩; rw [← HOK.out] at h; cases h)]))
      obtain ⟨z0, z1, z2, z3, z4⟩ := HZ1.out.cells
      have fz := HZ1.out.frozen
      have hzl := HZ1.out.lt
      clear hwb
      go_wp2_with fail
      refine bodyPost_ret (v := .tuple #[.agg #[.string ⟨#[]⟩, .int .i64 0, .string ⟨#[]⟩, .int .i64 0, .slice none 0 0], .bool false]) (by simp [results, Tryz.results9, go_sem, z0, z1, z2, z3, z4, hzl]) rfl ?_
      rw [HR.out.1, HR.out.2]
      refine MadeMo.zero ?_
      have hs1 := HB1.out.size
      refine Below.alloc ?_ (by simp; omega) _
      repeat (refine Below.setCell ?_ (by first | (simp; done) | (simp; omega)) _)
      exact HB1.out
    | true =>
      have hR2 : R = curM m := by rw [HRM.out]; unfold monR curR; rw [if_pos (by have h := HOK.out.symm; unfold monOk at h; simp only [Bool.and_eq_true] at h; exact h.2)]; rfl
      have HRC := hide hR2
      have HON := hide (obs_nxt (a := a) HOK.out.symm)
      clear hR2
      obtain ⟨a0, a1, a2, a3⟩ := HA1.out.cells
      have al := HA1.out.lt
      clear hwb
      go_wp2_with fail
      refine (implAfter _ m R a sa ua sc uc bs HO2.out hnd HRO.out T1 T2 v1 v2 HE3.out HE4.out).mono ?_
      rintro e w3 ⟨hb3, hcase⟩
      have HX3 := hide (HX.out.below hb3)
      have HZ3 := hide (HZ2.out.below hb3)
      have HB3 := hide (HB2.out.trans (hb3.mono HB2.out.size))
      clear hb3 a0 a1 a2 a3 al
      have xs := HX3.out.cell
      have q0 := xs 0
      have q1 := xs 1
      have q2 := xs 2
      have q3 := xs 3
      have q4 := xs 4
      have q5 := xs 5
      have q6 := xs 6
      have q7 := xs 7
      have q8 := xs 8
      simp only [List.getElem?_toArray, List.getElem?_cons_succ, List.getElem?_cons_zero] at q0 q1 q2 q3 q4 q5 q6 q7 q8
      have fx := HX3.out.frozen
      have hxl := HX3.out.lt
      clear xs
      obtain ⟨z0, z1, z2, z3, z4⟩ := HZ3.out.cells
      have fz := HZ3.out.frozen
      have hzl := HZ3.out.lt
      rcases hcase with ⟨T, v, rfl, hno⟩ | ⟨N, a5, c5, ks, e0, e2, e1, x, n, c, hnx, rfl, hko, hks, hkn⟩
      · have HR := hide (obs_no (show obsO m a = none by rw [HON.out, ← HRC.out, hno]; rfl))
        clear hno
        go_wp2_with fail
        have HX4 := Blk.set9 HX3.out (.string ⟨#[]⟩) (.int .i64 0) (.string ⟨#[]⟩) (.int .i64 0) (.slice none 0 0) (.int .i64 0) (.string ⟨#[]⟩) (.int .i64 0) (.slice none 0 0)
        have HZ4 := HZ3.out.same (set9_same (b := w1.heap.size) (bs := [w.heap.size + 1 + 1]) (fun x hx => ne_of_one hx hzw) (.string ⟨#[]⟩) (.int .i64 0) (.string ⟨#[]⟩) (.int .i64 0) (.slice none 0 0) (.int .i64 0) (.string ⟨#[]⟩) (.int .i64 0) (.slice none 0 0) _ (by simp))
        have HB4 := set9_below (b := w1.heap.size) HB3.out (by omega) (.string ⟨#[]⟩) (.int .i64 0) (.string ⟨#[]⟩) (.int .i64 0) (.slice none 0 0) (.int .i64 0) (.string ⟨#[]⟩) (.int .i64 0) (.slice none 0 0)
        unfold Lo.set9 at HX4 HZ4 HB4
        generalize (((((((((w3.setCell ⟨w1.heap.size, 0, none⟩ (.string ⟨#[]⟩)).setCell ⟨w1.heap.size, 1, none⟩ (.int .i64 0)).setCell ⟨w1.heap.size, 2, none⟩ (.string ⟨#[]⟩)).setCell ⟨w1.heap.size, 3, none⟩ (.int .i64 0)).setCell ⟨w1.heap.size, 4, none⟩ (.slice none 0 0)).setCell ⟨w1.heap.size, 5, none⟩ (.int .i64 0)).setCell ⟨w1.heap.size, 6, none⟩ (.string ⟨#[]⟩)).setCell ⟨w1.heap.size, 7, none⟩ (.int .i64 0)).setCell ⟨w1.heap.size, 8, none⟩ (.slice none 0 0)) = w4 at *
        have HX4 := hide HX4
        have HZ4 := hide HZ4
        have HB4 := hide HB4
        clear q0 q1 q2 q3 q4 q5 q6 q7 q8 fx hxl z0 z1 z2 z3 z4 fz hzl
        have xs := HX4.out.cell
        have q0 := xs 0
        have q1 := xs 1
        have q2 := xs 2
        have q3 := xs 3
        have q4 := xs 4
        simp only [List.getElem?_toArray, List.getElem?_cons_succ, List.getElem?_cons_zero] at q0 q1 q2 q3 q4
        have hxl := HX4.out.lt
        obtain ⟨z0, z1, z2, z3, z4⟩ := HZ4.out.cells
        have fz := HZ4.out.frozen
        have hzl := HZ4.out.lt
        clear xs
        go_region_with fail
        all_goals
          go_wp2_with fail
          (try simp only [Act.put, List.getElem_toArray, List.getElem_cons_succ, List.getElem_cons_zero, List.setIfInBounds_toArray, List.set_cons_zero, List.set_cons_succ])
          refine bodyPost_ret (v := .tuple #[.agg #[.string ⟨#[]⟩, .int .i64 0, .string ⟨#[]⟩, .int .i64 0, .slice none 0 0], .bool false]) (by simp [results, Tryz.results9, go_sem, z0, z1, z2, z3, z4]) rfl ?_
          rw [HR.out.1, HR.out.2]
          refine MadeMo.zero ?_
          refine Below.drew ?_
          repeat (refine Below.setCell ?_ (by first | (simp; done) | (simp; omega)) _)
          exact HB4.out
      · have HR := hide (obs_yes (show obsO m a = some ⟨m.ro, N.k, N.fr, N.ix, N.kids⟩ by rw [HON.out, ← HRC.out, hnx]; rfl))
        have HKO := hide (And.intro hko (And.intro hks hkn))
        clear hnx hko hks hkn
        go_wp2_with fail
        have HX4 := Blk.set9 HX3.out (.string m.ro) (.int .i64 N.k) (.string N.fr) (.int .i64 N.ix) (.slice a5 N.kids.len c5) (.int .i64 e0) (.string e1) (.int .i64 e2) (.slice x n c)
        have HZ4 := HZ3.out.same (set9_same (b := w1.heap.size) (bs := [w.heap.size + 1 + 1]) (fun x hx => ne_of_one hx hzw) (.string m.ro) (.int .i64 N.k) (.string N.fr) (.int .i64 N.ix) (.slice a5 N.kids.len c5) (.int .i64 e0) (.string e1) (.int .i64 e2) (.slice x n c) _ (by simp))
        have HB4 := set9_below (b := w1.heap.size) HB3.out (by omega) (.string m.ro) (.int .i64 N.k) (.string N.fr) (.int .i64 N.ix) (.slice a5 N.kids.len c5) (.int .i64 e0) (.string e1) (.int .i64 e2) (.slice x n c)
        have HK4 := HKO.out.1.same (set9_same (b := w1.heap.size) (fun y hy => by have := HGE.out y (HKO.out.2.1 y hy); omega) (.string m.ro) (.int .i64 N.k) (.string N.fr) (.int .i64 N.ix) (.slice a5 N.kids.len c5) (.int .i64 e0) (.string e1) (.int .i64 e2) (.slice x n c))
        unfold Lo.set9 at HX4 HZ4 HB4 HK4
        generalize (((((((((w3.setCell ⟨w1.heap.size, 0, none⟩ (.string m.ro)).setCell ⟨w1.heap.size, 1, none⟩ (.int .i64 N.k)).setCell ⟨w1.heap.size, 2, none⟩ (.string N.fr)).setCell ⟨w1.heap.size, 3, none⟩ (.int .i64 N.ix)).setCell ⟨w1.heap.size, 4, none⟩ (.slice a5 N.kids.len c5)).setCell ⟨w1.heap.size, 5, none⟩ (.int .i64 e0)).setCell ⟨w1.heap.size, 6, none⟩ (.string e1)).setCell ⟨w1.heap.size, 7, none⟩ (.int .i64 e2)).setCell ⟨w1.heap.size, 8, none⟩ (.slice x n c)) = w4 at *
        have HX4 := hide HX4
        have HZ4 := hide HZ4
        have HB4 := hide HB4
        have HK4 := hide HK4
        clear q0 q1 q2 q3 q4 q5 q6 q7 q8 fx hxl z0 z1 z2 z3 z4 fz hzl
        have xs := HX4.out.cell
        have q0 := xs 0
        have q1 := xs 1
        have q2 := xs 2
        have q3 := xs 3
        have q4 := xs 4
        simp only [List.getElem?_toArray, List.getElem?_cons_succ, List.getElem?_cons_zero] at q0 q1 q2 q3 q4
        have hxl := HX4.out.lt
        obtain ⟨z0, z1, z2, z3, z4⟩ := HZ4.out.cells
        have fz := HZ4.out.frozen
        have hzl := HZ4.out.lt
        clear xs
        go_region_with fail
        all_goals
          go_wp2_with fail
          (try simp only [Act.put, List.getElem_toArray, List.getElem_cons_succ, List.getElem_cons_zero, List.setIfInBounds_toArray, List.set_cons_zero, List.set_cons_succ])
          refine bodyPost_ret (v := .tuple #[.agg #[.string m.ro, .int .i64 N.k, .string N.fr, .int .i64 N.ix, .slice a5 N.kids.len c5], .bool true]) (by simp [results, Tryz.results9, go_sem, z0, z1, z2, z3, z4]) rfl ?_
          rw [HR.out.1, HR.out.2]
          refine ⟨_, ks, rfl, HK4.out.same (same_drew ?_), fun y hy => by have := HGE.out y (HKO.out.2.1 y hy); omega, HKO.out.2.2, ?_⟩
          · repeat (refine Same.setCell ?_ (fun y hy => by have := HGE.out y (HKO.out.2.1 y hy); simp; omega) _)
            exact Same.refl _ _
          · refine Below.drew ?_
            repeat (refine Below.setCell ?_ (by first | (simp; done) | (simp; omega)) _)
            exact HB4.out
end Go.Proofs.YtgcefippeokmcabGreatDoor.Lo
