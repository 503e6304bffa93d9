/- StepLocal of the model. -/
import Derived.Test.YtkepinjpihmjkabLVs
namespace Go.Proofs.Ytkepinjpihmjkab.Lo
open Go.RowKit

theorem findF_split : ∀ (f : F) (s : ByteArray) (N : Nd), findF f s = some N → ∃ (p : F) (lab : ByteArray) (rest : F), f = p.app (.cons lab N.k N.fr N.ix N.kids rest)
  | .nil, _, _, h => by simp [findF] at h
  | .cons lab k fr ix kids rest, s, N, h => by
    unfold findF at h
    split at h
    · simp only [Option.some.injEq] at h
      subst h
      exact ⟨.nil, lab, rest, rfl⟩
    · obtain ⟨p, l2, r2, e⟩ := findF_split rest s N h
      exact ⟨.cons lab k fr ix kids p, l2, r2, by rw [F.app, ← e]⟩

/-- What l2Branch owes. -/
def BrPost (w : World) (f : F) (bs : List Nat) (s : ByteArray) (e : Ending) (w' : World) : Prop :=
  Below w.heap.size w w' ∧
    ((findF f s = none ∧ e = .returned (.tuple #[.agg #[.int .i64 0, .string ⟨#[]⟩, .int .i64 0, .slice none 0 0], .bool false])) ∨
     ∃ (N : Nd) (a : Option Addr) (c : Nat) (ks : List Nat), findF f s = some N ∧ e = .returned (.tuple #[.agg #[.int .i64 N.k, .string N.fr, .int .i64 N.ix, .slice a N.kids.len c], .bool true]) ∧ Ow w' (.slice a N.kids.len c) N.kids ks ∧ (∀ x, x ∈ ks → x ∈ bs) ∧ ks.Nodup)

set_option maxHeartbeats 2000000 in
set_option maxRecDepth 100000 in
/-- l2Branch of the model. -/
theorem branch_calls (w : World) (v : Value) (f : F) (bs : List Nat) (s : ByteArray) (ho : Ow w v f bs) (hn : bs.Nodup) :
    Calls Try.prog 24 #[v, .string s] w (BrPost w f bs s) := by
  obtain ⟨va, vc, rfl⟩ := ho.val
  have hfl : f.len ≤ 9223372036854775807 := by
    obtain ⟨_, _, _, e1, e2, _⟩ := id ho
    unfold maxLen at e2
    omega
  have hb0 := alloc_below w (.cells #[.int .i64 0, .string ⟨#[]⟩, .int .i64 0, .slice none 0 0] ( /- t -/ 28))
  have hz0 := Box4.now w (.int .i64 0) (.string ⟨#[]⟩) (.int .i64 0) (.slice none 0 0) ( /- t -/ 28)
  have HO := hide (ho.same (Same.of_below hb0 ho.lt))
  have HL := hide ho.lt
  have HB := hide hb0
  have HZ := hide hz0
  have HN := hide hn
  clear ho hb0 hz0 hn
  go_enter Try.func24, Try.ntmps24
  go_wp2_with fail
  generalize w.alloc (.cells #[.int .i64 0, .string ⟨#[]⟩, .int .i64 0, .slice none 0 0] ( /- t -/ 28)) = W at *
  obtain ⟨z0, z1, z2, z3⟩ := HZ.out.cells
  have fz := HZ.out.frozen
  have zl := HZ.out.lt
  go_loopw [6] (fun iv wr => ∃ (p q : F), f = p.app q ∧ iv = .int .i64 (p.len : Nat) ∧ findF f s = findF q s ∧ wr = W) (fun iv _ => f.len - (intOf iv).toNat)
  case atStart => exact ⟨.nil, f, rfl, rfl, rfl, rfl⟩
  case round =>
    obtain ⟨p, q, he, rfl, hfind, rfl⟩ := hrel
    cases q with
    | nil =>
      rw [F.app_nil] at he
      have hge : f.len ≤ p.len := by rw [he]; exact Nat.le_refl _
      have HF := hide hfind
      clear he hfind
      go_wp2_with fail
      refine bodyPost_ret (v := .tuple #[.agg #[.int .i64 0, .string ⟨#[]⟩, .int .i64 0, .slice none 0 0], .bool false]) (by simp [results, Try.results24, go_sem, *]) rfl ?_
      refine ⟨?_, Or.inl ⟨HF.out, rfl⟩⟩
      exact (((HB.out.setCell (Nat.le_refl _) _).setCell (Nat.le_refl _) _).setCell (Nat.le_refl _) _).setCell (Nat.le_refl _) _
    | cons lab kd fr' ix' kids' rest =>
      have hlt : p.len < f.len := by rw [he, F.len_app]; simp only [F.len]; omega
      obtain ⟨b, cap, a5, c5, ks, hu, c0, c1, c2, c3, cc5, hko, hks, hkn⟩ := HO.out.sub HN.out he
      simp only [Value.slice.injEq, true_and] at hu
      obtain ⟨rfl, rfl⟩ := hu
      have hbl := World.block_lt_of_cell? _ _ c0
      have HE := hide (And.intro he hfind)
      have HK := hide (And.intro hko (And.intro hks hkn))
      clear he hfind hko hks hkn
      cases hl : (lab.toList == s.toList) with
      | true =>
        have hl3 : lab.toList = s.toList := by simpa using hl
        have hno : findF f s = some ⟨kd, fr', ix', kids'⟩ := by
          rw [HE.out.2]
          unfold findF
          rw [hl]
          rfl
        have HNO := hide hno
        clear hno
        go_wp2_with fail
        refine bodyPost_ret (v := .tuple #[.agg #[.int .i64 kd, .string fr', .int .i64 ix', .slice a5 kids'.len c5], .bool true]) (by simp [results, Try.results24, go_sem, *]) rfl ?_
        have q : ∀ x, x ∈ ks → x ≠ w.heap.size := fun x hx => Nat.ne_of_lt (HL.out x (HK.out.2.1 x hx))
        refine ⟨?_, Or.inr ⟨⟨kd, fr', ix', kids'⟩, a5, c5, ks, HNO.out, rfl, HK.out.1.same (same_setAll q _ _ _ _), HK.out.2.1, HK.out.2.2⟩⟩
        exact (((HB.out.setCell (Nat.le_refl _) _).setCell (Nat.le_refl _) _).setCell (Nat.le_refl _) _).setCell (Nat.le_refl _) _
      | false =>
        have hl3 : ¬ lab.toList = s.toList := by simpa using hl
        have hnx : findF f s = findF rest s := by
          rw [HE.out.2]
          conv => lhs; unfold findF
          rw [hl]
          rfl
        have HNX := hide hnx
        clear hnx
        go_wp2_with fail
        refine ⟨⟨p.app (.cons lab kd fr' ix' kids' .nil), rest, by rw [HE.out.1, F.app_assoc]; rfl, by rw [F.len_app]; rfl, HNX.out, trivial⟩, by simp [intOf]; omega⟩

set_option maxHeartbeats 4000000 in
set_option maxRecDepth 100000 in
theorem specStep (w : World) (g : Nd) (sv : Value) (s : ByteArray) (hs : Sl w sv g.kids) (hf : Fit g) (hbig : g.kids.sz ≤ 160000000000000000) :
    Calls Try.prog 12 #[.agg #[.int .i64 g.k, .string g.fr, .int .i64 g.ix, sv], .string s] w (MadeR (stepR g s) (stepOk g s) w) := by
  have HS := hide hs
  have HF := hide hf
  have HBG := hide hbig
  have hb0 := (alloc_below w (.cells #[.int .i64 g.k, .string g.fr, .int .i64 g.ix, sv] ( /- t -/ 28))).alloc (by simp) (.cells #[.int .i64 0, .string ⟨#[]⟩, .int .i64 0, .slice none 0 0] ( /- t -/ 28))
  have hz0 := Box4.now (w.alloc (.cells #[.int .i64 g.k, .string g.fr, .int .i64 g.ix, sv] ( /- t -/ 28))) (.int .i64 0) (.string ⟨#[]⟩) (.int .i64 0) (.slice none 0 0) ( /- t -/ 28)
  rw [show (w.alloc (.cells #[.int .i64 g.k, .string g.fr, .int .i64 g.ix, sv] ( /- t -/ 28))).heap.size = w.heap.size + 1 from by simp] at hz0
  have HB0 := hide hb0
  have HZ0 := hide hz0
  clear hs hf hb0 hz0 hbig
  obtain ⟨R, hR⟩ : ∃ R, R = unfR g := ⟨_, rfl⟩
  obtain ⟨ok, hok⟩ : ∃ ok, ok = unfOk g := ⟨_, rfl⟩
  have HR := hide hR
  have HOK := hide hok
  clear hR hok
  go_enter Try.func12, Try.ntmps12
  go_wp2_with fail
  generalize (w.alloc (.cells #[.int .i64 g.k, .string g.fr, .int .i64 g.ix, sv] ( /- t -/ 28))).alloc (.cells #[.int .i64 0, .string ⟨#[]⟩, .int .i64 0, .slice none 0 0] ( /- t -/ 28)) = W at *
  refine (specUnf W g sv (HS.out.still (Still.of_below HB0.out)) HF.out HBG.out).mono ?_
  rw [← HR.out, ← HOK.out]
  rintro e w1 ⟨u, bs, rfl, how, hge, hnd, hb⟩
  obtain ⟨ua, uc, rfl⟩ := how.val
  have hWl := HZ0.out.lt
  have hbA := alloc_below w1 (.cells #[.int .i64 R.k, .string R.fr, .int .i64 R.ix, .slice ua R.kids.len uc] ( /- t -/ 28))
  have h1 := HB0.out.trans (hb.mono HB0.out.size)
  have HB2 := hide (h1.trans (hbA.mono h1.size))
  have HZ2 := hide ((HZ0.out.below hb).below hbA)
  have HO2 := hide (how.same (Same.of_below hbA how.lt))
  have HGE := hide (fun x (hx : x ∈ bs) => (show w.heap.size + 1 < x by have := hge x hx; omega))
  clear how hge hb hbA h1 HZ0 HB0 HS HF HBG
  go_wp2_with fail
  refine (branch_calls _ _ R.kids bs s HO2.out hnd).mono ?_
  generalize w1.alloc (.cells #[.int .i64 R.k, .string R.fr, .int .i64 R.ix, .slice ua R.kids.len uc] ( /- t -/ 28)) = W2 at *
  rintro e w2 ⟨hb2, hcase⟩
  have HZ3 := hide (HZ2.out.below hb2)
  have HB3 := hide (HB2.out.trans (hb2.mono HB2.out.size))
  clear hb2 HZ2 HB2 HO2
  rcases hcase with ⟨hfn, rfl⟩ | ⟨N, a5, c5, ks, hfn, rfl, hko, hks, hkn⟩
  · have hno : stepO g s = none := by rw [stepO_of, ← HR.out, hfn]
    have HNO := hide hno
    obtain ⟨z0, z1, z2, z3⟩ := HZ3.out.cells
    have fz := HZ3.out.frozen
    have zl := HZ3.out.lt
    clear hno hfn HOK
    cases ok
    all_goals
      go_wp2_with fail
      refine bodyPost_ret (v := .tuple #[.agg #[.int .i64 0, .string ⟨#[]⟩, .int .i64 0, .slice none 0 0], .bool false]) (by simp [results, Try.results12, go_sem, *]) rfl ?_
      rw [show stepOk g s = false by unfold stepOk; rw [HNO.out]; rfl, show stepR g s = zeroNd by unfold stepR; rw [HNO.out]; rfl]
      refine MadeR.zero ?_
      first
        | (repeat (refine Below.setCell ?_ (by first | (simp; done) | (simp; omega)) _)
           exact HB3.out)
        | (refine Below.alloc ?_ (by simp; omega) _
           repeat (refine Below.setCell ?_ (by first | (simp; done) | (simp; omega)) _)
           exact HB3.out)
        | (repeat (refine Below.setCell ?_ (by first | (simp; done) | (simp; omega)) _)
           exact HB3.out.alloc (by omega) _)
  · have hokt : ok = true := by
      cases hh : ok with
      | true => rfl
      | false =>
        have h1 := HR.out
        unfold unfR at h1
        rw [← HOK.out, hh] at h1
        rw [h1] at hfn
        simp [zeroNd, findF] at hfn
    subst hokt
    have hRu : R = unf g := by rw [HR.out]; unfold unfR; rw [← HOK.out]; rfl
    have hno : stepO g s = some N := by rw [stepO_of, ← HR.out, hfn]
    have hval : okN N.k N.fr N.ix N.kids = true := by
      obtain ⟨p, lab, rest, e⟩ := findF_split _ _ _ hfn
      exact step_valid HOK.out.symm (by rw [← hRu]; exact e)
    have hsz : N.kids.sz ≤ 160000000000000000 := by
      unfold okN at hval
      simp only [Bool.and_eq_true, decide_eq_true_eq] at hval
      omega
    have HNO := hide (And.intro hno (And.intro hval hsz))
    have HKO := hide (And.intro hko (And.intro hks hkn))
    clear hno hval hsz hko hks hkn hfn hRu
    go_wp2_with fail
    have hbB := alloc_below w2 (.cells #[.int .i64 N.k, .string N.fr, .int .i64 N.ix, .slice a5 N.kids.len c5] ( /- t -/ 28))
    have hbn := Box4.now w2 (.int .i64 N.k) (.string N.fr) (.int .i64 N.ix) (.slice a5 N.kids.len c5) ( /- t -/ 28)
    have hk5 := HKO.out.1.same (Same.of_below hbB HKO.out.1.lt)
    have hz5 := HZ3.out.below hbB
    have hb5 := HB3.out.trans (hbB.mono HB3.out.size)
    refine (specValidBig _ N.k N.ix N.fr _ N.kids hk5.sl (fun _ => HNO.out.2.2)).mono ?_
    rw [HNO.out.2.1]
    rintro e w5 ⟨rfl, hb6⟩
    have hbn6 := hbn.below hb6
    have hz6 := hz5.below hb6
    have HK6 := hide (hk5.same (Same.of_below hb6 hk5.lt))
    have HB6 := hide (hb5.trans (hb6.mono hb5.size))
    obtain ⟨n0, n1, n2, n3⟩ := hbn6.cells
    have nl := hbn6.lt
    obtain ⟨z0, z1, z2, z3⟩ := hz6.cells
    have fz := hz6.frozen
    have zl := hz6.lt
    clear hbB hbn hk5 hz5 hb5 hb6 hbn6 hz6
    go_wp2_with fail
    refine bodyPost_ret (v := .tuple #[.agg #[.int .i64 N.k, .string N.fr, .int .i64 N.ix, .slice a5 N.kids.len c5], .bool true]) (by simp [results, Try.results12, go_sem, *]) rfl ?_
    rw [show stepOk g s = true by unfold stepOk; rw [HNO.out.1]; rfl, show stepR g s = N by unfold stepR; rw [HNO.out.1]; rfl]
    have q : ∀ b, b ∈ ks → w.heap.size + 1 < b := fun b hb => HGE.out b (HKO.out.2.1 b hb)
    refine ⟨_, ks, rfl, HK6.out.same (same_setAll (fun b hb => Nat.ne_of_gt (q b hb)) _ _ _ _), fun b hb => by have := q b hb; omega, HKO.out.2.2, ?_⟩
    repeat (refine Below.setCell ?_ (by first | (simp; done) | (simp; omega)) _)
    exact HB6.out

end Go.Proofs.Ytkepinjpihmjkab.Lo
