/- UnfoldGlobal of the model. -/
import Derived.Test.YtgcefippeokmcaaUl
namespace Go.Proofs.Ytgcefippeokmcaa
open Go.RowKit

def okG (g : Nd) : Bool := okN g.k g.fr g.tg g.ix g.kids
theorem okG_w {g : Nd} (h : okG g = true) : wN g 0 0 = true ∧ hN g ≤ 40 ∧ g.kids.sz + 1 ≤ 400 := by
  unfold okG okN at h
  rw [vldN_w g 0 0 40 (by omega) (by omega)] at h
  simp only [Bool.and_eq_true, decide_eq_true_eq] at h
  exact ⟨h.1.1, by omega, h.2⟩
theorem okG_of_w {g : Nd} (h : wN g 0 0 = true) : okG g = (decide (hN g ≤ 40) && decide (g.kids.sz + 1 ≤ 400)) := by
  unfold okG okN
  rw [vldN_w g 0 0 40 (by omega) (by omega), h, Bool.true_and]
  congr 1
  apply decide_eq_decide.2
  omega

def zeroNd : Nd := ⟨0, ⟨#[]⟩, ⟨#[]⟩, 0, .nil⟩
/-- Whether the unfolding is valid. -/
def unfOk (g : Nd) : Bool := okG g && okG (unf g)
/-- What UnfoldGlobal gives. -/
def unfR (g : Nd) : Nd := if unfOk g then unf g else zeroNd
/-- A node in new memory, and a flag. -/
def MadeR (R : Nd) (ok : Bool) (w : World) (e : Ending) (w' : World) : Prop :=
  ∃ u bs, e = .returned (.tuple #[.agg #[.int .i64 R.k, .string R.fr, .string R.tg, .int .i64 R.ix, u], .bool ok]) ∧ Ow w' u R.kids bs ∧ (∀ b, b ∈ bs → w.heap.size ≤ b) ∧ bs.Nodup ∧ Below w.heap.size w w'

theorem MadeR.zero {w w' : World} (h : Below w.heap.size w w') : MadeR zeroNd false w (.returned (.tuple #[.agg #[.int .i64 0, .string ⟨#[]⟩, .string ⟨#[]⟩, .int .i64 0, .slice none 0 0], .bool false])) w' :=
  ⟨_, [], rfl, ⟨none, 0, rfl, Nat.le_refl _, Nat.zero_le _, Or.inl ⟨rfl, rfl⟩⟩, fun _ h => absurd h (List.not_mem_nil), List.nodup_nil, h⟩

set_option maxHeartbeats 2000000 in
set_option maxRecDepth 100000 in
theorem specUnf (w : World) (g : Nd) (sv : Value) (hs : Sl w sv g.kids) (hf : Fit g) :
    Calls Try.prog 7 #[.agg #[.int .i64 g.k, .string g.fr, .string g.tg, .int .i64 g.ix, sv]] w (MadeR (unfR g) (unfOk g) w) := by
  have HS := hide hs
  have HF := hide hf
  have hb0 := (alloc_below w (.cells #[.int .i64 g.k, .string g.fr, .string g.tg, .int .i64 g.ix, sv] ( /- t -/ 25))).alloc (by simp) (.cells #[.int .i64 0, .string ⟨#[]⟩, .string ⟨#[]⟩, .int .i64 0, .slice none 0 0] ( /- t -/ 25))
  have hx0 := (Box5.now w (.int .i64 g.k) (.string g.fr) (.string g.tg) (.int .i64 g.ix) sv ( /- t -/ 25)).below (alloc_below _ (.cells #[.int .i64 0, .string ⟨#[]⟩, .string ⟨#[]⟩, .int .i64 0, .slice none 0 0] ( /- t -/ 25)))
  have hz0 := Box5.now (w.alloc (.cells #[.int .i64 g.k, .string g.fr, .string g.tg, .int .i64 g.ix, sv] ( /- t -/ 25))) (.int .i64 0) (.string ⟨#[]⟩) (.string ⟨#[]⟩) (.int .i64 0) (.slice none 0 0) ( /- t -/ 25)
  rw [show (w.alloc (.cells #[.int .i64 g.k, .string g.fr, .string g.tg, .int .i64 g.ix, sv] ( /- t -/ 25))).heap.size = w.heap.size + 1 from by simp] at hz0
  have HB0 := hide hb0
  have HX0 := hide hx0
  have HZ0 := hide hz0
  clear hs hf hb0 hx0 hz0
  go_enter Try.func7, Try.ntmps7
  go_wp2_with fail
  generalize (w.alloc (.cells #[.int .i64 g.k, .string g.fr, .string g.tg, .int .i64 g.ix, sv] ( /- t -/ 25))).alloc (.cells #[.int .i64 0, .string ⟨#[]⟩, .string ⟨#[]⟩, .int .i64 0, .slice none 0 0] ( /- t -/ 25)) = W at *
  refine (specValidBig W g.k g.ix g.fr g.tg sv g.kids (HS.out.still (Still.of_below HB0.out))).mono ?_
  rintro e w1 ⟨rfl, hb⟩
  have HX1 := hide (HX0.out.below hb)
  have HZ1 := hide (HZ0.out.below hb)
  have HB1 := hide (HB0.out.trans (hb.mono HB0.out.size))
  obtain ⟨x0, x1, x2, x3, x4⟩ := HX1.out.cells
  have hxl := HX1.out.lt
  clear hb HX0 HZ0 HB0
  cases hok : okN g.k g.fr g.tg g.ix g.kids with
  | false =>
    have hr : unfOk g = false := by unfold unfOk okG; rw [hok]; rfl
    have HR := hide hr
    obtain ⟨z0, z1, z2, z3, z4⟩ := HZ1.out.cells
    have fz := HZ1.out.frozen
    have hzl := HZ1.out.lt
    clear hok hr
    go_wp2_with fail
    refine bodyPost_ret (v := .tuple #[.agg #[.int .i64 0, .string ⟨#[]⟩, .string ⟨#[]⟩, .int .i64 0, .slice none 0 0], .bool false]) (by simp [results, Try.results7, go_sem, *]) rfl ?_
    have e1 : unfR g = zeroNd := by unfold unfR; rw [HR.out]; rfl
    rw [HR.out, e1]
    refine MadeR.zero ?_
    repeat (refine Below.setCell ?_ (by first | (simp; done) | (simp; omega)) _)
    exact HB1.out
  | true =>
    have hg : okG g = true := hok
    obtain ⟨hw, hh, hsz⟩ := okG_w hg
    have HG := hide (And.intro hg (And.intro hw (And.intro hh hsz)))
    clear hok hg hw hh hsz
    go_wp2_with fail
    refine (unf_calls w1 g sv (HS.out.still (Still.of_below HB1.out)) HG.out.2.1 HG.out.2.2.1 HF.out).mono ?_
    rintro e w2 ⟨u, ks, rfl, how, -, -, hb2⟩
    obtain ⟨ua, uc, rfl⟩ := how.val
    have HO := hide how
    have HX2 := hide (HX1.out.below hb2)
    have HZ2 := hide (HZ1.out.below hb2)
    have HB2 := hide (HB1.out.trans (hb2.mono HB1.out.size))
    clear how hb2 x0 x1 x2 x3 x4 hxl HX1 HZ1 HB1
    obtain ⟨x0, x1, x2, x3, x4⟩ := HX2.out.cells
    have hxl := HX2.out.lt
    go_wp2_with fail
    refine (specValidBig w2 (unf g).k (unf g).ix (unf g).fr (unf g).tg _ (unf g).kids HO.out.sl).mono ?_
    rintro e w3 ⟨rfl, hb3⟩
    have HX3 := hide (HX2.out.below hb3)
    have HZ3 := hide (HZ2.out.below hb3)
    have HB3 := hide (HB2.out.trans (hb3.mono HB2.out.size))
    clear hb3 x0 x1 x2 x3 x4 hxl HX2 HZ2 HB2
    obtain ⟨x0, x1, x2, x3, x4⟩ := HX3.out.cells
    have hxl := HX3.out.lt
    obtain ⟨z0, z1, z2, z3, z4⟩ := HZ3.out.cells
    have fz := HZ3.out.frozen
    have hzl := HZ3.out.lt
    cases hok : okN (unf g).k (unf g).fr (unf g).tg (unf g).ix (unf g).kids with
    | false =>
      have hr : unfOk g = false := by unfold unfOk; rw [show okG (unf g) = false from hok, Bool.and_false]
      have HR := hide hr
      clear hok hr
      go_wp2_with fail
      refine bodyPost_ret (v := .tuple #[.agg #[.int .i64 0, .string ⟨#[]⟩, .string ⟨#[]⟩, .int .i64 0, .slice none 0 0], .bool false]) (by simp [results, Try.results7, go_sem, *]) rfl ?_
      have e1 : unfR g = zeroNd := by unfold unfR; rw [HR.out]; rfl
      rw [HR.out, e1]
      refine MadeR.zero ?_
      repeat (refine Below.setCell ?_ (by first | (simp; done) | (simp; omega)) _)
      exact HB3.out
    | true =>
      have hr : unfOk g = true := by unfold unfOk; rw [show okG (unf g) = true from hok, HG.out.1]; rfl
      have HR := hide hr
      clear hok hr z0 z1 z2 z3 z4 fz hzl
      go_wp2_with fail
      refine (unf_calls w3 g sv (HS.out.still (Still.of_below HB3.out)) HG.out.2.1 HG.out.2.2.1 HF.out).mono ?_
      rintro e w4 ⟨u4, ks4, rfl, how4, hks4, hnd4, hb4⟩
      obtain ⟨va, vc, rfl⟩ := how4.val
      have HZ4 := HZ3.out.below hb4
      have hbx := HB3.out.trans (hb4.mono HB3.out.size)
      obtain ⟨z0, z1, z2, z3, z4⟩ := HZ4.cells
      have fz := HZ4.frozen
      have hzl := HZ4.lt
      have HO4 := hide how4
      have HK4 := hide hks4
      have HB4 := hide hbx
      have hl3 := HZ3.out.lt
      clear how4 hks4 hb4 HZ4 hbx x0 x1 x2 x3 x4 hxl
      go_wp2_with fail
      refine bodyPost_ret (v := .tuple #[.agg #[.int .i64 (unf g).k, .string (unf g).fr, .string (unf g).tg, .int .i64 (unf g).ix, .slice va (unf g).kids.len vc], .bool true]) (by simp [results, Try.results7, go_sem, *]) rfl ?_
      have e1 : unfR g = unf g := by unfold unfR; rw [HR.out]; rfl
      rw [HR.out, e1]
      have q : ∀ b, b ∈ ks4 → w.heap.size + 1 < b := fun b h => by have := HK4.out b h; omega
      refine ⟨_, ks4, rfl, HO4.out.same ?_, fun b h => by have := q b h; omega, hnd4, ?_⟩
      · repeat (refine Same.setCell ?_ (fun b h => by have := q b h; simp; omega) _)
        exact Same.refl _ _
      · repeat (refine Below.setCell ?_ (by first | (simp; done) | (simp; omega)) _)
        exact HB4.out

end Go.Proofs.Ytgcefippeokmcaa
