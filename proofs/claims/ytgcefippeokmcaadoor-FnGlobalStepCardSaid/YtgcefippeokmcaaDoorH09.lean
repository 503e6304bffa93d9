/- Qs, Uz, Uc, Eg, Ux, Uy, Uw, Ea, Vs, Gv, Eu -/
import Derived.Test.YtgcefippeokmcaaDoorH08
import Derived.StillTailTactics
import Derived.Test.YtgcefippeokmcaaDoorH02
import Derived.Test.YtgcefippeokmcaaDoorH00
import Derived.Test.YtgcefippeokmcaaDoorRows
import Derived.ArgAppend
import Derived.WalkLawsBesides
import Derived.Deep.CutRange
import Derived.Test.YtgcefippeokmcaaDoorH07
import Derived.Deep.LoopGhost
import Derived.Deep.RegionHeld
import Derived.RegionTactic
/- GlobalEqual of the program. -/
namespace Go.Proofs.YtgcefippeokmcaaDoor
open Go.RowKit

set_option maxHeartbeats 800000 in
/-- GlobalEqual of the program, at trees whose memory is the call's own. -/
theorem implSame (w : World) (k ix k' ix' : Int) (fr tg fr' tg' : ByteArray) (u u' : Value) (f f' : F) (bs bs' : List Nat) (h : Ow w u f bs) (h' : Ow w u' f' bs') (hsz : f.sz ≤ 1048576) :
    Calls Tryd.prog 32 #[.agg #[.int .i64 k, .string fr, .string tg, .int .i64 ix, u], .agg #[.int .i64 k', .string fr', .string tg', .int .i64 ix', u']] w
      fun e w' => e = .returned (.bool (sameN k fr tg ix f k' fr' tg' ix' f')) ∧ Below w.heap.size w w' := by
  obtain ⟨a, c, rfl⟩ := h.val
  obtain ⟨a', c', rfl⟩ := h'.val
  have hb0 := (alloc_below w (.cells #[.int .i64 k, .string fr, .string tg, .int .i64 ix, .slice a f.len c] ( /- t -/ 39))).alloc (by simp) (.cells #[.int .i64 k', .string fr', .string tg', .int .i64 ix', .slice a' f'.len c'] ( /- t -/ 39))
  have HU := hide (h.same (Same.of_below hb0 (fun b hb => h.lt b hb)))
  have HU' := hide (h'.same (Same.of_below hb0 (fun b hb => h'.lt b hb)))
  clear h h'
  go_enter Tryd.func32, Tryd.ntmps32
  go_wp2_with fail
  refine (same_walk _ k ix k' ix' fr tg fr' tg' a a' c c' f f' ⟨⟨_, HU.out⟩, _, HU'.out⟩ hsz).mono ?_
  rintro e w1 ⟨rfl, hb⟩
  have hb2 := hb0.trans (hb.mono hb0.size)
  clear hb0 hb
  go_wp2_with fail
  go_ret
  exact ⟨rfl, hb2⟩
end Go.Proofs.YtgcefippeokmcaaDoor

/- UnfoldGlobal of the model. -/
namespace Go.Proofs.YtgcefippeokmcaaDoor
open Go.RowKit

def okG (g : Nd) : Bool := okN g.k g.fr g.tg g.ix g.kids
theorem okG_w {g : Nd} (h : okG g = true) : wN g 0 0 = true ∧ hN g ≤ 40 ∧ g.kids.sz + 1 ≤ 400 := by
  unfold okG okN at h
  rw [vldN_w g 0 0 40 (by omega) (by omega)] at h
  simp only [Bool.and_eq_true, decide_eq_true_eq] at h
  exact ⟨h.1.1, by omega, h.2⟩
theorem okG_of_w {g : Nd} (h : wN g 0 0 = true) : okG g = (decide (hN g ≤ 40) && decide (g.kids.sz + 1 ≤ 400)) := by
  unfold okG okN
  rw [vldN_w g 0 0 40 (by omega) (by omega), h, Bool.true_and]
  congr 1
  apply decide_eq_decide.2
  omega

def zeroNd : Nd := ⟨0, ⟨#[]⟩, ⟨#[]⟩, 0, .nil⟩
/-- Whether the unfolding is valid. -/
def unfOk (g : Nd) : Bool := okG g && okG (unf g)
/-- What UnfoldGlobal gives. -/
def unfR (g : Nd) : Nd := if unfOk g then unf g else zeroNd
/-- A node in new memory, and a flag. -/
def MadeR (R : Nd) (ok : Bool) (w : World) (e : Ending) (w' : World) : Prop :=
  ∃ u bs, e = .returned (.tuple #[.agg #[.int .i64 R.k, .string R.fr, .string R.tg, .int .i64 R.ix, u], .bool ok]) ∧ Ow w' u R.kids bs ∧ (∀ b, b ∈ bs → w.heap.size ≤ b) ∧ bs.Nodup ∧ Below w.heap.size w w'

theorem MadeR.zero {w w' : World} (h : Below w.heap.size w w') : MadeR zeroNd false w (.returned (.tuple #[.agg #[.int .i64 0, .string ⟨#[]⟩, .string ⟨#[]⟩, .int .i64 0, .slice none 0 0], .bool false])) w' :=
  ⟨_, [], rfl, ⟨none, 0, rfl, Nat.le_refl _, Nat.zero_le _, Or.inl ⟨rfl, rfl⟩⟩, fun _ h => absurd h (List.not_mem_nil), List.nodup_nil, h⟩

set_option maxHeartbeats 2000000 in
set_option maxRecDepth 100000 in
theorem specUnf (w : World) (g : Nd) (sv : Value) (hs : Sl w sv g.kids) (hf : Fit g) :
    Calls Tryd.prog 31 #[.agg #[.int .i64 g.k, .string g.fr, .string g.tg, .int .i64 g.ix, sv]] w (MadeR (unfR g) (unfOk g) w) := by
  have HS := hide hs
  have HF := hide hf
  have hb0 := (alloc_below w (.cells #[.int .i64 g.k, .string g.fr, .string g.tg, .int .i64 g.ix, sv] ( /- t -/ 39))).alloc (by simp) (.cells #[.int .i64 0, .string ⟨#[]⟩, .string ⟨#[]⟩, .int .i64 0, .slice none 0 0] ( /- t -/ 39))
  have hx0 := (Box5.now w (.int .i64 g.k) (.string g.fr) (.string g.tg) (.int .i64 g.ix) sv ( /- t -/ 39)).below (alloc_below _ (.cells #[.int .i64 0, .string ⟨#[]⟩, .string ⟨#[]⟩, .int .i64 0, .slice none 0 0] ( /- t -/ 39)))
  have hz0 := Box5.now (w.alloc (.cells #[.int .i64 g.k, .string g.fr, .string g.tg, .int .i64 g.ix, sv] ( /- t -/ 39))) (.int .i64 0) (.string ⟨#[]⟩) (.string ⟨#[]⟩) (.int .i64 0) (.slice none 0 0) ( /- t -/ 39)
  rw [show (w.alloc (.cells #[.int .i64 g.k, .string g.fr, .string g.tg, .int .i64 g.ix, sv] ( /- t -/ 39))).heap.size = w.heap.size + 1 from by simp] at hz0
  have HB0 := hide hb0
  have HX0 := hide hx0
  have HZ0 := hide hz0
  clear hs hf hb0 hx0 hz0
  go_enter Tryd.func31, Tryd.ntmps31
  go_wp2_with fail
  generalize (w.alloc (.cells #[.int .i64 g.k, .string g.fr, .string g.tg, .int .i64 g.ix, sv] ( /- t -/ 39))).alloc (.cells #[.int .i64 0, .string ⟨#[]⟩, .string ⟨#[]⟩, .int .i64 0, .slice none 0 0] ( /- t -/ 39)) = W at *
  refine (specValidBig W g.k g.ix g.fr g.tg sv g.kids (HS.out.still (Still.of_below HB0.out))).mono ?_
  rintro e w1 ⟨rfl, hb⟩
  have HX1 := hide (HX0.out.below hb)
  have HZ1 := hide (HZ0.out.below hb)
  have HB1 := hide (HB0.out.trans (hb.mono HB0.out.size))
  obtain ⟨x0, x1, x2, x3, x4⟩ := HX1.out.cells
  have hxl := HX1.out.lt
  clear hb HX0 HZ0 HB0
  cases hok : okN g.k g.fr g.tg g.ix g.kids with
  | false =>
    have hr : unfOk g = false := by unfold unfOk okG; rw [hok]; rfl
    have HR := hide hr
    obtain ⟨z0, z1, z2, z3, z4⟩ := HZ1.out.cells
    have fz := HZ1.out.frozen
    have hzl := HZ1.out.lt
    clear hok hr
    go_wp2_with fail
    refine bodyPost_ret (v := .tuple #[.agg #[.int .i64 0, .string ⟨#[]⟩, .string ⟨#[]⟩, .int .i64 0, .slice none 0 0], .bool false]) (by simp [results, Tryd.results31, go_sem, *]) rfl ?_
    have e1 : unfR g = zeroNd := by unfold unfR; rw [HR.out]; rfl
    rw [HR.out, e1]
    refine MadeR.zero ?_
    repeat (refine Below.setCell ?_ (by first | (simp; done) | (simp; omega)) _)
    exact HB1.out
  | true =>
    have hg : okG g = true := hok
    obtain ⟨hw, hh, hsz⟩ := okG_w hg
    have HG := hide (And.intro hg (And.intro hw (And.intro hh hsz)))
    clear hok hg hw hh hsz
    go_wp2_with fail
    refine (unf_calls w1 g sv (HS.out.still (Still.of_below HB1.out)) HG.out.2.1 HG.out.2.2.1 HF.out).mono ?_
    rintro e w2 ⟨u, ks, rfl, how, -, -, hb2⟩
    obtain ⟨ua, uc, rfl⟩ := how.val
    have HO := hide how
    have HX2 := hide (HX1.out.below hb2)
    have HZ2 := hide (HZ1.out.below hb2)
    have HB2 := hide (HB1.out.trans (hb2.mono HB1.out.size))
    clear how hb2 x0 x1 x2 x3 x4 hxl HX1 HZ1 HB1
    obtain ⟨x0, x1, x2, x3, x4⟩ := HX2.out.cells
    have hxl := HX2.out.lt
    go_wp2_with fail
    refine (specValidBig w2 (unf g).k (unf g).ix (unf g).fr (unf g).tg _ (unf g).kids HO.out.sl).mono ?_
    rintro e w3 ⟨rfl, hb3⟩
    have HX3 := hide (HX2.out.below hb3)
    have HZ3 := hide (HZ2.out.below hb3)
    have HB3 := hide (HB2.out.trans (hb3.mono HB2.out.size))
    clear hb3 x0 x1 x2 x3 x4 hxl HX2 HZ2 HB2
    obtain ⟨x0, x1, x2, x3, x4⟩ := HX3.out.cells
    have hxl := HX3.out.lt
    obtain ⟨z0, z1, z2, z3, z4⟩ := HZ3.out.cells
    have fz := HZ3.out.frozen
    have hzl := HZ3.out.lt
    cases hok : okN (unf g).k (unf g).fr (unf g).tg (unf g).ix (unf g).kids with
    | false =>
      have hr : unfOk g = false := by unfold unfOk; rw [show okG (unf g) = false from hok, Bool.and_false]
      have HR := hide hr
      clear hok hr
      go_wp2_with fail
      refine bodyPost_ret (v := .tuple #[.agg #[.int .i64 0, .string ⟨#[]⟩, .string ⟨#[]⟩, .int .i64 0, .slice none 0 0], .bool false]) (by simp [results, Tryd.results31, go_sem, *]) rfl ?_
      have e1 : unfR g = zeroNd := by unfold unfR; rw [HR.out]; rfl
      rw [HR.out, e1]
      refine MadeR.zero ?_
      repeat (refine Below.setCell ?_ (by first | (simp; done) | (simp; omega)) _)
      exact HB3.out
    | true =>
      have hr : unfOk g = true := by unfold unfOk; rw [show okG (unf g) = true from hok, HG.out.1]; rfl
      have HR := hide hr
      clear hok hr z0 z1 z2 z3 z4 fz hzl
      go_wp2_with fail
      refine (unf_calls w3 g sv (HS.out.still (Still.of_below HB3.out)) HG.out.2.1 HG.out.2.2.1 HF.out).mono ?_
      rintro e w4 ⟨u4, ks4, rfl, how4, hks4, hnd4, hb4⟩
      obtain ⟨va, vc, rfl⟩ := how4.val
      have HZ4 := HZ3.out.below hb4
      have hbx := HB3.out.trans (hb4.mono HB3.out.size)
      obtain ⟨z0, z1, z2, z3, z4⟩ := HZ4.cells
      have fz := HZ4.frozen
      have hzl := HZ4.lt
      have HO4 := hide how4
      have HK4 := hide hks4
      have HB4 := hide hbx
      have hl3 := HZ3.out.lt
      clear how4 hks4 hb4 HZ4 hbx x0 x1 x2 x3 x4 hxl
      go_wp2_with fail
      refine bodyPost_ret (v := .tuple #[.agg #[.int .i64 (unf g).k, .string (unf g).fr, .string (unf g).tg, .int .i64 (unf g).ix, .slice va (unf g).kids.len vc], .bool true]) (by simp [results, Tryd.results31, go_sem, *]) rfl ?_
      have e1 : unfR g = unf g := by unfold unfR; rw [HR.out]; rfl
      rw [HR.out, e1]
      have q : ∀ b, b ∈ ks4 → w.heap.size + 1 < b := fun b h => by have := HK4.out b h; omega
      refine ⟨_, ks4, rfl, HO4.out.same ?_, fun b h => by have := q b h; omega, hnd4, ?_⟩
      · repeat (refine Same.setCell ?_ (fun b h => by have := q b h; simp; omega) _)
        exact Same.refl _ _
      · repeat (refine Below.setCell ?_ (by first | (simp; done) | (simp; omega)) _)
        exact HB4.out

end Go.Proofs.YtgcefippeokmcaaDoor

/- copyGlobal of the program. -/
namespace Go.Proofs.YtgcefippeokmcaaDoor
open Go.RowKit

/-- What the question for a variable answers. -/
def VarTest (v : Value) (k ix : Int) : Prop :=
  ∀ w, (Instr.typeAssert v ( /- t -/ 172) ( /- t -/ 169) true).run Tryd.prog w = .ok (.tuple #[.agg #[.int .i64 (if k = 4 then ix else 0)], .bool (decide (k = 4))]) w

theorem node_test (w : World) (k ix : Int) (fr tg : ByteArray) (sv : Value) (kids : F) (hs : Sl w sv kids) (hsh : shapeB k fr tg ix kids = true) :
    Calls Tryd.prog 126 #[.agg #[.int .i64 k, .string fr, .string tg, .int .i64 ix, sv]] w fun e w' => ∃ v, e = .returned v ∧ VarTest v k ix ∧ Below w.heap.size w w' := by
  by_cases h1 : k = 1
  · subst h1
    obtain ⟨a, b, c, d⟩ := shape_end hsh
    refine (node_end w ix fr tg sv kids hs a b c d).mono ?_
    rintro e w' ⟨rfl, hb⟩
    exact ⟨_, rfl, fun w => taEndVar _ w, hb⟩
  by_cases h2 : k = 2
  · subst h2
    obtain ⟨a, b, c, d, f⟩ := shape_msg hsh
    refine (node_msg w ix fr tg sv kids hs a b c d f).mono ?_
    rintro e w' ⟨rfl, hb⟩
    exact ⟨_, rfl, fun w => taMsgVar _ w, hb⟩
  by_cases h3 : k = 3
  · subst h3
    obtain ⟨a, b, c, lab, k', fr', tg', ix', kids', rfl, hl⟩ := shape_rec hsh
    obtain ⟨ad, cap, rfl, hlen, hat⟩ := hs.at
    obtain ⟨bb, o, rfl, _, _, _, _, _, c0, c1, c2, c3, c4, ⟨sv', c5, _⟩, _⟩ := hat.head
    simp only [Nat.zero_mul, Nat.add_zero] at c0 c1 c2 c3 c4 c5
    refine (node_rec w ix fr tg bb o cap lab k' ix' fr' tg' sv' a b c hl c0 c1 c2 c3 c4 c5).mono ?_
    rintro e w' ⟨rfl, hb⟩
    exact ⟨_, rfl, fun w => taRecVar _ w, hb⟩
  by_cases h4 : k = 4
  · subst h4
    obtain ⟨a, b, c, d⟩ := shape_var hsh
    refine (node_var w ix fr tg sv kids hs a b c d).mono ?_
    rintro e w' ⟨rfl, hb⟩
    exact ⟨_, rfl, fun w => taVarVar _ w, hb⟩
  · simp [shapeB, h1, h2, h3, h4] at hsh

/-- What a copy owes: the node in new memory and its nodes counted, if it keeps the limits; else nothing. -/
def CpPost (c : Nat) (N : Nd) (d : Int) (m : Nat) (w : World) (e : Ending) (w' : World) : Prop :=
  ∃ m' : Nat, Only c w w' ∧ Ctr w' c m' ∧
    ((m + (N.kids.sz + 1) ≤ 400 ∧ d + (hF N.kids : Int) ≤ 40 ∧ m' = m + (N.kids.sz + 1) ∧ ∃ u bs, e = .returned (.tuple #[.agg #[.int .i64 N.k, .string N.fr, .string N.tg, .int .i64 N.ix, u], .bool true]) ∧ Ow w' u N.kids bs ∧ (∀ b, b ∈ bs → w.heap.size ≤ b) ∧ bs.Nodup) ∨
     (¬ (m + (N.kids.sz + 1) ≤ 400 ∧ d + (hF N.kids : Int) ≤ 40) ∧ e = .returned (.tuple #[.agg #[.int .i64 0, .string ⟨#[]⟩, .string ⟨#[]⟩, .int .i64 0, .slice none 0 0], .bool false])))

theorem CpPost.put {c : Nat} {N : Nd} {d : Int} {m m' : Nat} {w w1 : World} {b0 : Nat} {u : Value} {bs : List Nat} (ho : Only c w w1) (hc : Ctr w1 c m') (hb0 : w.heap.size ≤ b0) (hcb : c ≠ b0)
    (h1 : m + (N.kids.sz + 1) ≤ 400) (h2 : d + (hF N.kids : Int) ≤ 40) (h3 : m' = m + (N.kids.sz + 1)) (how : Ow w1 u N.kids bs) (hge : ∀ b, b ∈ bs → b0 < b) (hnd : bs.Nodup) (v0 v1 v2 v3 v4 : Value) :
    CpPost c N d m w (.returned (.tuple #[.agg #[.int .i64 N.k, .string N.fr, .string N.tg, .int .i64 N.ix, u], .bool true])) (((((w1.setCell ⟨b0, 0, none⟩ v0).setCell ⟨b0, 1, none⟩ v1).setCell ⟨b0, 2, none⟩ v2).setCell ⟨b0, 3, none⟩ v3).setCell ⟨b0, 4, none⟩ v4) := by
  refine ⟨m', ?_, ?_, Or.inl ⟨h1, h2, h3, u, bs, rfl, how.same ?_, fun b hb => Nat.le_of_lt (Nat.lt_of_le_of_lt hb0 (hge b hb)), hnd⟩⟩
  · exact ((((ho.setCell (Or.inr hb0) _).setCell (Or.inr hb0) _).setCell (Or.inr hb0) _).setCell (Or.inr hb0) _).setCell (Or.inr hb0) _
  · exact ((((hc.setOther hcb _).setOther hcb _).setOther hcb _).setOther hcb _).setOther hcb _
  · have q : ∀ b, b ∈ bs → b ≠ b0 := fun b hb => Nat.ne_of_gt (hge b hb)
    exact (((((Same.refl _ _).setCell q _).setCell q _).setCell q _).setCell q _).setCell q _
theorem CpPost.no {c : Nat} {N : Nd} {d : Int} {m m' : Nat} {w w1 : World} {b0 : Nat} (ho : Only c w w1) (hc : Ctr w1 c m') (hb0 : w.heap.size ≤ b0) (hcb : c ≠ b0)
    (h : ¬ (m + (N.kids.sz + 1) ≤ 400 ∧ d + (hF N.kids : Int) ≤ 40)) (v0 v1 v2 v3 v4 : Value) :
    CpPost c N d m w (.returned (.tuple #[.agg #[.int .i64 0, .string ⟨#[]⟩, .string ⟨#[]⟩, .int .i64 0, .slice none 0 0], .bool false])) (((((w1.setCell ⟨b0, 0, none⟩ v0).setCell ⟨b0, 1, none⟩ v1).setCell ⟨b0, 2, none⟩ v2).setCell ⟨b0, 3, none⟩ v3).setCell ⟨b0, 4, none⟩ v4) := by
  refine ⟨m', ?_, ?_, Or.inr ⟨h, rfl⟩⟩
  · exact ((((ho.setCell (Or.inr hb0) _).setCell (Or.inr hb0) _).setCell (Or.inr hb0) _).setCell (Or.inr hb0) _).setCell (Or.inr hb0) _
  · exact ((((hc.setOther hcb _).setOther hcb _).setOther hcb _).setOther hcb _).setOther hcb _

def CpAt (q n : Nat) : Prop := ∀ (W0 w : World) (c m : Nat) (d k ix : Int) (fr tg : ByteArray) (sv ev : Value) (kids : F) (s : List (Option Nd)), kids.sz < n → puts s = q → Below W0.heap.size W0 w → W0.heap.size ≤ c → Ctr w c m → m ≤ 400 → 1 ≤ d → d ≤ 41 →
  EnvIs W0 w c s ev → GoodS s → s.length + hF kids ≤ 500 → wN ⟨k, fr, tg, ix, kids⟩ (s.length : Int) 0 = true → Fit ⟨k, fr, tg, ix, kids⟩ → Sl W0 sv kids →
  Calls Tryd.prog 83 #[.agg #[.int .i64 k, .string fr, .string tg, .int .i64 ix, sv], ev, .int .i64 d, .pointer (some ⟨c, 0, none⟩)] w (CpPost c (cpN (vals s) ⟨k, fr, tg, ix, kids⟩) d m w)

/-- The closure over a recursion. -/
def CloOk (W0 : World) (c : Nat) (R : Nd) (t : List (Option Nd)) : Prop := ∀ (w : World) (m : Nat) (d : Int) (rb ob : Nat) (sv ov : Value), Below W0.heap.size W0 w → Ctr w c m → m ≤ 400 → 1 ≤ d → d ≤ 41 →
  Cell5 w rb R sv → Sl W0 sv R.kids → Fit R → w.cell? ⟨ob, 0, none⟩ = some ov → EnvIs W0 w c t ov →
  Calls Tryd.prog 82 #[.int .i64 d, .pointer (some ⟨rb, 0, none⟩), .pointer (some ⟨ob, 0, none⟩), .pointer (some ⟨c, 0, none⟩)] w (CpPost c (cpN (vals t) R) d m w)

set_option maxHeartbeats 1000000 in
set_option maxRecDepth 100000 in
theorem clo_calls (W0 : World) (c q : Nat) (R : Nd) (t : List (Option Nd)) (hc0 : W0.heap.size ≤ c) (hq : ∀ n, CpAt q n) (hp : puts t = q) (hg : GoodS t) (hh : t.length + hF R.kids ≤ 500) (hw : wN R (t.length : Int) 0 = true) : CloOk W0 c R t := by
  intro w m d rb ob sv ov hb hc hm hd1 hd2 hr hs hf ho he
  have hb1 := alloc_below w (.cells #[.int .i64 0, .string ⟨#[]⟩, .string ⟨#[]⟩, .int .i64 0, .slice none 0 0] ( /- t -/ 39))
  have HCALL : Hid (Calls Tryd.prog 83 #[.agg #[.int .i64 R.k, .string R.fr, .string R.tg, .int .i64 R.ix, sv], ov, .int .i64 d, .pointer (some ⟨c, 0, none⟩)] (w.alloc (.cells #[.int .i64 0, .string ⟨#[]⟩, .string ⟨#[]⟩, .int .i64 0, .slice none 0 0] ( /- t -/ 39))) (CpPost c (cpN (vals t) R) d m (w.alloc (.cells #[.int .i64 0, .string ⟨#[]⟩, .string ⟨#[]⟩, .int .i64 0, .slice none 0 0] ( /- t -/ 39))))) :=
    hide (hq (R.kids.sz + 1) W0 _ c m d R.k R.ix R.fr R.tg sv ov R.kids t (Nat.lt_succ_self _) hp (hb.trans (hb1.mono hb.size)) hc0 (hc.alloc _) hm hd1 hd2 (he.still (Still.of_below hb1)) hg hh hw hf hs)
  obtain ⟨r0, r1, r2, r3, r4⟩ := hr
  have hrl := World.block_lt_of_cell? _ _ r0
  have hol := World.block_lt_of_cell? _ _ ho
  have HZ := hide (Box5.now w (.int .i64 0) (.string ⟨#[]⟩) (.string ⟨#[]⟩) (.int .i64 0) (.slice none 0 0) ( /- t -/ 39))
  have hcl := hc.lt
  have HC := hide hc
  clear hq hp hg hh hw hb hc hs hf he hb1 hm hd1 hd2
  go_enter Tryd.func82, Tryd.ntmps82
  go_wp2_with fail
  refine HCALL.out.mono ?_
  rintro e w1 ⟨m', ho1, hc1, hcase⟩
  have hz1 : Box5 w1 w.heap.size (.int .i64 0) (.string ⟨#[]⟩) (.string ⟨#[]⟩) (.int .i64 0) (.slice none 0 0) := HZ.out.same (ho1.block _ (by simp) (by omega))
  obtain ⟨z0, z1, z2, z3, z4⟩ := hz1.cells
  have fz := hz1.frozen
  have hzl := hz1.lt
  have HO := hide ho1
  have HC1 := hide hc1
  clear ho1 hc1 hz1
  rcases hcase with ⟨h1, h2, h3, u, bs, rfl, how, hge, hnd⟩ | ⟨h1, rfl⟩
  · obtain ⟨ua, uc, rfl⟩ := how.val
    have HW := hide how
    have HG := hide hge
    have HH := hide (And.intro h1 (And.intro h2 h3))
    clear how hge h1 h2 h3
    go_wp2_with fail
    refine bodyPost_ret (v := .tuple #[.agg #[.int .i64 (cpN (vals t) R).k, .string (cpN (vals t) R).fr, .string (cpN (vals t) R).tg, .int .i64 (cpN (vals t) R).ix, .slice ua (cpN (vals t) R).kids.len uc], .bool true]) (by simp [results, Tryd.results82, go_sem, *]) rfl ?_
    exact CpPost.put (((Only.refl c w).alloc _).trans HO.out) HC1.out (Nat.le_refl _) (by omega) HH.out.1 HH.out.2.1 HH.out.2.2 HW.out (fun b hb => by have := HG.out b hb; simp at this; omega) hnd _ _ _ _ _
  · go_wp2_with fail
    refine bodyPost_ret (v := .tuple #[.agg #[.int .i64 0, .string ⟨#[]⟩, .string ⟨#[]⟩, .int .i64 0, .slice none 0 0], .bool false]) (by simp [results, Tryd.results82, go_sem, *]) rfl ?_
    exact CpPost.no (((Only.refl c w).alloc _).trans HO.out) HC1.out (Nat.le_refl _) (by omega) h1 _ _ _ _ _

theorem clo_some (rb ob c : Nat) (w : World) : (binOp .neq ( /- t -/ 174) (.func (.func ( /- f -/ 82)) #[] #[.pointer (some ⟨rb, 0, none⟩), .pointer (some ⟨ob, 0, none⟩), .pointer (some ⟨c, 0, none⟩)]) .nilFunc).run Tryd.prog w = .ok (.bool true) w := by kernel_rfl
theorem clo_none (w : World) : (binOp .neq ( /- t -/ 174) .nilFunc .nilFunc).run Tryd.prog w = .ok (.bool false) w := by kernel_rfl

set_option maxHeartbeats 2000000 in
set_option maxRecDepth 100000 in
/-- A variable that is replaced. -/
theorem cp_put (W0 w : World) (c m : Nat) (d : Int) (i : Nat) (fr tg : ByteArray) (sv : Value) (kids : F) (n b cap T : Nat) (hb : Below W0.heap.size W0 w) (hc : Ctr w c m) (hm : m ≤ 400) (hd1 : 1 ≤ d) (hd2 : d ≤ 41)
    (hsh : shapeB 4 fr tg (i : Int) kids = true) (hs : Sl W0 sv kids) (R : Nd) (t : List (Option Nd)) (hclo : CloOk W0 c R t) (hn : n = i + 1 + T) (hnb : n ≤ 1000)
    (rb ob : Nat) (rv ov : Value) (c0 : w.cell? ⟨b, T, none⟩ = some (cloV rb ob c)) (c1 : Cell5 w rb R rv) (c2 : Sl W0 rv R.kids) (c3 : Fit R) (c4 : w.cell? ⟨ob, 0, none⟩ = some ov) (c5 : EnvIs W0 w c t ov) :
    Calls Tryd.prog 83 #[.agg #[.int .i64 4, .string fr, .string tg, .int .i64 i, sv], .slice (some ⟨b, 0, none⟩) n cap, .int .i64 d, .pointer (some ⟨c, 0, none⟩)] w (CpPost c (cpN (vals t) R) d m w) := by
  have hbA := (alloc_below w (.cells #[.int .i64 4, .string fr, .string tg, .int .i64 i, sv] ( /- t -/ 39))).alloc (by simp) (.cells #[.int .i64 0, .string ⟨#[]⟩, .string ⟨#[]⟩, .int .i64 0, .slice none 0 0] ( /- t -/ 39))
  have hz0 := Box5.now (w.alloc (.cells #[.int .i64 4, .string fr, .string tg, .int .i64 i, sv] ( /- t -/ 39))) (.int .i64 0) (.string ⟨#[]⟩) (.string ⟨#[]⟩) (.int .i64 0) (.slice none 0 0) ( /- t -/ 39)
  rw [show (w.alloc (.cells #[.int .i64 4, .string fr, .string tg, .int .i64 i, sv] ( /- t -/ 39))).heap.size = w.heap.size + 1 from by simp] at hz0
  have HZ := hide hz0
  clear hz0
  have hcl := hc.lt
  have hbl := World.block_lt_of_cell? _ _ c0
  have hix : (n : Int) - 1 - (i : Int) = (T : Int) := by omega
  have hTn : T < n := by omega
  have hTn2 : (T : Int) < (n : Int) := by omega
  have HH := hide (And.intro hb (And.intro hc (And.intro hsh (And.intro hs (And.intro hclo (And.intro c1 (And.intro c2 (And.intro c3 (And.intro c4 c5)))))))))
  have HC0 := hide c0
  have HBA := hide hbA
  have HN := hide hn
  clear hb hc hsh hs hclo c1 c2 c3 c4 c5 c0 hbA hn
  go_enter Tryd.func83, Tryd.ntmps83
  go_wp2_with fail
  generalize (w.alloc (.cells #[.int .i64 4, .string fr, .string tg, .int .i64 i, sv] ( /- t -/ 39))).alloc (.cells #[.int .i64 0, .string ⟨#[]⟩, .string ⟨#[]⟩, .int .i64 0, .slice none 0 0] ( /- t -/ 39)) = W at *
  refine (node_test W 4 i fr tg sv kids ((HH.out.2.2.2.1.still (Still.of_below HH.out.1)).still (Still.of_below HBA.out)) HH.out.2.2.1).mono ?_
  rintro e w1 ⟨v, rfl, hv, hb1⟩
  have hB1 := HBA.out.trans (hb1.mono HBA.out.size)
  have c0 : w1.cell? ⟨b, T, none⟩ = some (cloV rb ob c) := Still.of_below hB1 _ _ HC0.out
  unfold cloV at c0
  have hbl1 := World.block_lt_of_cell? _ _ c0
  have HB1 := hide hB1
  have HBB := hide hb1
  have hta : ∀ w, (Instr.typeAssert v ( /- t -/ 172) ( /- t -/ 169) true).run Tryd.prog w = .ok (.tuple #[.agg #[.int .i64 (i : Int)], .bool true]) w := fun w => by simpa using hv w
  have hcs := clo_some rb ob c
  have hwl : w.heap.size + 1 < W.heap.size := HZ.out.lt
  clear hb1 hB1 hv
  go_wp2_with fail
  have hB2 := HB1.out.alloc HB1.out.size (.cells #[.int .i64 (i : Int)] ( /- t -/ 169))
  have hst := Still.of_below hB2
  obtain ⟨hb, hc, -, -, hclo, c1, c2, c3, c4, c5⟩ := HH.out
  refine (hclo _ m d rb ob rv ov (hb.trans (hB2.mono hb.size)) (hc.below hB2) hm hd1 hd2 ⟨hst _ _ c1.1, hst _ _ c1.2.1, hst _ _ c1.2.2.1, hst _ _ c1.2.2.2.1, hst _ _ c1.2.2.2.2⟩ c2 c3 (hst _ _ c4) (c5.still hst)).mono ?_
  rintro e w3 ⟨m', ho3, hc3, hcase⟩
  have hw1 := HBB.out.size
  have hz3 : Box5 w3 (w.heap.size + 1) (.int .i64 0) (.string ⟨#[]⟩) (.string ⟨#[]⟩) (.int .i64 0) (.slice none 0 0) := ((HZ.out.below HBB.out).below (alloc_below _ _)).same (ho3.block _ (by simp; omega) (by omega))
  obtain ⟨z0, z1, z2, z3, z4⟩ := hz3.cells
  have fz := hz3.frozen
  have hzl := hz3.lt
  have HO := hide (((Only.refl c w).below hB2).trans ho3)
  have HC3 := hide hc3
  have hs3 : (w1.alloc (.cells #[.int .i64 (i : Int)] ( /- t -/ 169))).heap.size = w1.heap.size + 1 := by simp
  clear hB2 hst hb hc hclo c1 c2 c3 c4 c5 ho3 hc3 hz3 c0 hcs hta
  rcases hcase with ⟨h1, h2, h3, u, bs, rfl, how, hge, hnd⟩ | ⟨h1, rfl⟩
  · obtain ⟨ua, uc, rfl⟩ := how.val
    rw [hs3] at hge
    have HW := hide how
    have HG := hide hge
    have HE := hide (And.intro h1 (And.intro h2 h3))
    clear how hge h1 h2 h3 hs3
    go_wp2_with fail
    refine bodyPost_ret (v := .tuple #[.agg #[.int .i64 (cpN (vals t) R).k, .string (cpN (vals t) R).fr, .string (cpN (vals t) R).tg, .int .i64 (cpN (vals t) R).ix, .slice ua (cpN (vals t) R).kids.len uc], .bool true]) (by simp [results, Tryd.results83, go_sem, *]) rfl ?_
    exact CpPost.put HO.out HC3.out (Nat.le_succ _) (by omega) HE.out.1 HE.out.2.1 HE.out.2.2 HW.out (fun b hb => by have := HG.out b hb; omega) hnd _ _ _ _ _
  · clear hs3
    go_wp2_with fail
    refine bodyPost_ret (v := .tuple #[.agg #[.int .i64 0, .string ⟨#[]⟩, .string ⟨#[]⟩, .int .i64 0, .slice none 0 0], .bool false]) (by simp [results, Tryd.results83, go_sem, *]) rfl ?_
    exact CpPost.no HO.out HC3.out (Nat.le_succ _) (by omega) h1 _ _ _ _ _

end Go.Proofs.YtgcefippeokmcaaDoor

/- The environment grows by one entry: in new memory, or in the room behind its end. -/
namespace Go.Proofs.YtgcefippeokmcaaDoor
open Go.RowKit

theorem copierInfo : (Tryd.prog.info? ( /- t -/ 174)).map (fun i => (i.zero, i.size, i.bytes)) = some (some .nilFunc, 1, 8) := by kernel_rfl

/-- Every place of the environment is there. -/
theorem EnvIs.cellAt {W0 w : World} {c : Nat} {s : List (Option Nd)} {b cap : Nat} (h : EnvIs W0 w c s (.slice (some ⟨b, 0, none⟩) s.length cap)) (j : Nat) (hj : j < s.length) :
    ∃ v, w.cell? ⟨b, j, none⟩ = some v ∧ (v = .nilFunc ∨ ∃ rb ob, v = cloV rb ob c) := by
  obtain ⟨p, x, t, hs, hp, hx⟩ := EnvIs.at s b cap h (s.length - 1 - j) (by omega)
  have hl : t.length = j := by
    have e := congrArg List.length hs
    simp at e
    omega
  rw [hl] at hx
  cases x with
  | none => exact ⟨_, hx, Or.inl rfl⟩
  | some R =>
    obtain ⟨rb, ob, _, _, c0, _⟩ := hx
    exact ⟨_, c0, Or.inr ⟨_, _, rfl⟩⟩
/-- Its cells. -/
theorem EnvIs.olds {W0 w : World} {c : Nat} {s : List (Option Nd)} {a : Option Addr} {cap : Nat} (h : EnvIs W0 w c s (.slice a s.length cap)) :
    ∃ olds : List Value, olds.length = s.length ∧ ∀ b, a = some b → ∀ j u, olds[j]? = some u → w.cell? (b.add j) = some u := by
  cases hs : s with
  | nil => exact ⟨[], rfl, fun b _ j u hu => by simp at hu⟩
  | cons x t =>
    rw [hs] at h
    obtain ⟨b, cap', e, h1, h2, h3⟩ := id h
    simp only [List.length_cons, Value.slice.injEq, true_and] at e
    obtain ⟨rfl, rfl⟩ := e
    refine ⟨(List.range (t.length + 1)).map (fun j => (w.cell? ⟨b, j, none⟩).getD undef), by simp, fun b' hb' j u hu => ?_⟩
    simp only [Option.some.injEq] at hb'
    subst hb'
    rw [List.getElem?_map] at hu
    by_cases hj : j < t.length + 1
    · rw [List.getElem?_range hj] at hu
      simp only [Option.map_some, Option.some.injEq] at hu
      obtain ⟨v, hv, _⟩ := EnvIs.cellAt (s := x :: t) h j (by simpa using hj)
      rw [hv] at hu
      simp only [Option.getD_some] at hu
      subst hu
      rw [Addr.add_lit, Nat.zero_add]
      exact hv
    · rw [List.getElem?_eq_none (by simpa using hj)] at hu
      cases hu

theorem EnvIs.grow {W0 w w' : World} {c : Nat} {s : List (Option Nd)} {a : Option Addr} {cap : Nat} (h : EnvIs W0 w c s (.slice a s.length cap)) {olds : List Value} {y v' : Value} {base : Nat} {T : TypeId}
    (hl : olds.length = s.length) (hol : ∀ b, a = some b → ∀ j u, olds[j]? = some u → w.cell? (b.add j) = some u) (ho : w'.ownsRow base T 1 v' (s.length + 1) (olds ++ [y])) (hg : w.grownBy w' none) :
    ∃ g cap', v' = .slice (some ⟨g, 0, none⟩) (s.length + 1) cap' ∧ s.length + 1 ≤ cap' ∧ cap' ≤ maxLen ∧ base ≤ g ∧ EnvIs W0 w' c s (.slice (some ⟨g, 0, none⟩) s.length cap') ∧ w'.cell? ⟨g, s.length, none⟩ = some y ∧
      (∃ cur, w'.heap[g]? = some (.cells cur T (0, 0)) ∧ cur.size = cap') := by
  obtain ⟨hlen, h0 | ⟨g, cap', cur, rfl, h1, h2, h3, h4, h5, h6⟩⟩ := ho
  · omega
  · have hst : Still w w' := fun p v e => by rw [World.cell?_of_block (w := w) (hg.block _ (World.block_lt_of_cell? _ _ e) (by simp))]; exact e
    have hcell : ∀ j, j < s.length + 1 → w'.cell? ⟨g, j, none⟩ = (olds ++ [y])[j]? := fun j hj => by
      rw [← h6, List.getElem?_take, if_pos (by omega)]
      simp [World.cell?, h2]
    have hy : w'.cell? ⟨g, s.length, none⟩ = some y := by rw [hcell _ (by omega), List.getElem?_append_right (by omega), hl]; simp
    refine ⟨g, cap', rfl, h3, h4, h1, ?_, hy, cur, h2, by omega⟩
    cases hs : s with
    | nil => exact ⟨_, _, rfl, h4, fun e => by cases e⟩
    | cons x t =>
      rw [hs] at h
      obtain ⟨b, cap2, e, _⟩ := id h
      simp only [List.length_cons, Value.slice.injEq, true_and] at e
      obtain ⟨rfl, rfl⟩ := e
      refine EnvIs.moved b g (x :: t) cap cap' (h.still hst) (fun i hi => ?_) (by rw [hs] at h3; simp at h3 ⊢; omega) h4
      rw [hcell i (by rw [hs]; omega), List.getElem?_append_left (by rw [hl, hs]; omega)]
      obtain ⟨v, hv, _⟩ := EnvIs.cellAt h i hi
      have hi2 : i < olds.length := by rw [hl, hs]; exact hi
      have he : olds[i]? = some olds[i] := List.getElem?_eq_getElem hi2
      have h7 := hol _ rfl i _ he
      rw [Addr.add_lit, Nat.zero_add] at h7
      rw [he, ← h7]
      rw [h7]
      exact (hst _ _ h7).symm
theorem EnvIs.kept {W0 w : World} {c g cap : Nat} {s : List (Option Nd)} (h : EnvIs W0 w c s (.slice (some ⟨g, 0, none⟩) s.length cap)) (h1 : s.length + 1 ≤ cap) (h2 : cap ≤ maxLen) (hy : w.cell? ⟨g, s.length, none⟩ = some .nilFunc) :
    EnvIs W0 w c (none :: s) (.slice (some ⟨g, 0, none⟩) (s.length + 1) cap) := ⟨g, cap, rfl, h1, h2, h, hy⟩

/-- Written behind its end. -/
theorem EnvIs.room {W0 w : World} {c : Nat} {s : List (Option Nd)} {b cap : Nat} (h : EnvIs W0 w c s (.slice (some ⟨b, 0, none⟩) s.length cap)) (y : Value) : EnvIs W0 (w.setCell ⟨b, s.length, none⟩ y) c s (.slice (some ⟨b, 0, none⟩) s.length cap) := by
  by_cases hs : s.length = 0
  · have : s = [] := List.eq_nil_of_length_eq_zero hs
    subst this
    exact h
  · have h0 := EnvIs.cellAt h 0 (by omega)
    refine EnvIs.keep (fun p => p = ⟨b, s.length, none⟩) s.length (fun p v e hp => ?_) (fun b' j v hj e hv hp => ?_) (fun rb R sv _ hr j hj hp => ?_) (fun ob a n cp e hp => ?_) s _ (Nat.le_refl _) h
    · rw [World.cell?_setCell_other _ _ _ _ (fun e => hp e.symm)]
      exact e
    · simp only [Addr.mk.injEq] at hp
      omega
    · simp only [Addr.mk.injEq] at hp
      obtain ⟨v, hv, hvv⟩ := h0
      have hr0 := hr.1
      rw [hp.1] at hr0
      rw [hr0] at hv
      simp only [Option.some.injEq] at hv
      subst hv
      rcases hvv with hvv | ⟨_, _, hvv⟩ <;> simp [cloV] at hvv
    · simp only [Addr.mk.injEq] at hp
      omega
end Go.Proofs.YtgcefippeokmcaaDoor

/- copyGlobal of the program: a node that stays. -/
namespace Go.Proofs.YtgcefippeokmcaaDoor
open Go.RowKit

theorem Box5.only {w w' : World} {b c : Nat} {v0 v1 v2 v3 v4 : Value} (h : Box5 w b v0 v1 v2 v3 v4) (ho : Only c w w') (hb : b ≠ c) : Box5 w' b v0 v1 v2 v3 v4 := h.same (ho.block _ h.lt hb)

set_option maxHeartbeats 1000000 in
set_option maxRecDepth 100000 in
/-- slices.Clip. -/
theorem clip_calls (w : World) (a : Option Addr) (n cap : Nat) (hn : n ≤ cap) :
    Calls Tryd.prog 127 #[.slice a n cap] w fun e w' => e = .returned (.slice a n n) ∧ w' = w := by
  go_enter Tryd.func127, Tryd.ntmps127
  go_wp2_with fail
  go_ret
  exact ⟨rfl, rfl⟩

/-- What stands in memory while a node is copied. -/
structure CpSt (W0 w wd : World) (c m : Nat) (k ix : Int) (fr tg : ByteArray) (sv : Value) (s : List (Option Nd)) (ev : Value) : Prop where
  hx : Box5 wd w.heap.size (.int .i64 k) (.string fr) (.string tg) (.int .i64 ix) sv
  hz : Box5 wd (w.heap.size + 1) (.int .i64 0) (.string ⟨#[]⟩) (.string ⟨#[]⟩) (.int .i64 0) (.slice none 0 0)
  hc : Ctr wd c m
  ho : Only c w wd
  he : EnvIs W0 wd c s ev

theorem CpSt.lt {W0 w wd : World} {c m : Nat} {k ix : Int} {fr tg : ByteArray} {sv ev : Value} {s : List (Option Nd)} (h : CpSt W0 w wd c m k ix fr tg sv s ev) : w.heap.size + 1 < wd.heap.size := h.hz.lt
theorem CpSt.below {W0 w wd we : World} {c m : Nat} {k ix : Int} {fr tg : ByteArray} {sv ev : Value} {s : List (Option Nd)} (h : CpSt W0 w wd c m k ix fr tg sv s ev) (hb : Below wd.heap.size wd we) : CpSt W0 w we c m k ix fr tg sv s ev :=
  ⟨h.hx.below hb, h.hz.below hb, h.hc.below hb, h.ho.below hb, h.he.still (Still.of_below hb)⟩
theorem CpSt.only {W0 w wd we : World} {c m m' : Nat} {k ix : Int} {fr tg : ByteArray} {sv ev : Value} {s : List (Option Nd)} (h : CpSt W0 w wd c m k ix fr tg sv s ev) (hc : c < w.heap.size) (ho : Only c wd we) (hc' : Ctr we c m') : CpSt W0 w we c m' k ix fr tg sv s ev :=
  ⟨h.hx.only ho (by omega), h.hz.only ho (by omega), hc', h.ho.trans ho, h.he.only h.hc ho⟩
/-- A cell outside is written. -/
theorem CpSt.set {W0 w wd : World} {c m : Nat} {k ix : Int} {fr tg : ByteArray} {sv ev : Value} {s : List (Option Nd)} (h : CpSt W0 w wd c m k ix fr tg sv s ev) (hc : c < w.heap.size) (b o : Nat) (hb : w.heap.size + 2 ≤ b) (v : Value)
    (he : EnvIs W0 (wd.setCell ⟨b, o, none⟩ v) c s ev) : CpSt W0 w (wd.setCell ⟨b, o, none⟩ v) c m k ix fr tg sv s ev :=
  ⟨h.hx.setOther (by simp; omega) _, h.hz.setOther (by simp; omega) _, h.hc.setOther (by simp; omega) _, h.ho.setCell (Or.inr (by simp; omega)) _, he⟩

theorem grown_below {w w' : World} (h : w.grownBy w' none) : Below w.heap.size w w' := ⟨h.os, h.tape, h.output, h.size, fun k hk => h.block k hk (by simp)⟩
theorem Gr.only {w w' : World} {base c : Nat} {v : Value} {f : F} {bs : List Nat} (h : Gr w base v f bs) (ho : Only c w w') (hc : c < base) : Gr w' base v f bs :=
  h.same (fun b hb => ho.block b (h.lt b hb) (by have := h.ge b hb; omega))

theorem CpPost.no0 {c : Nat} {N : Nd} {d : Int} {m m' : Nat} {w w' : World} (ho : Only c w w') (hc : Ctr w' c m') (h : ¬ (m + (N.kids.sz + 1) ≤ 400 ∧ d + (hF N.kids : Int) ≤ 40)) :
    CpPost c N d m w (.returned (.tuple #[.agg #[.int .i64 0, .string ⟨#[]⟩, .string ⟨#[]⟩, .int .i64 0, .slice none 0 0], .bool false])) w' := ⟨m', ho, hc, Or.inr ⟨h, rfl⟩⟩

/-- What holds at each round's head. -/
def CpRel (W0 wc : World) (c m : Nat) (d k ix : Int) (fr tg : ByteArray) (kids : F) (Q : List (Option Nd)) (a : Option Addr) (X : Nat) (iv : Value) (wr : World) : Prop :=
  ∃ (p g : F) (v : Value) (bs : List Nat) (m' : Nat), kids = p.app g ∧ iv = .int .i64 (p.len : Nat) ∧ At W0 a p.len g ∧ Ctr wr c m' ∧ Only c wc wr ∧ Box5 wr X (.int .i64 k) (.string fr) (.string tg) (.int .i64 ix) v ∧ Gr wr (X + 1) v (cpF (vals Q) p) bs ∧
    m' = m + 1 + (cpF (vals Q) p).sz ∧ m' ≤ 400 ∧ d + (hF (cpF (vals Q) p) : Int) ≤ 40

/-- What the environment stands for fits into values. -/
theorem EnvIs.fits {W0 w : World} {c : Nat} : ∀ (s : List (Option Nd)) (ev : Value), EnvIs W0 w c s ev → ∀ U, some U ∈ vals s → Fit U := by
  intro s
  induction s with
  | nil => intro ev _ U hU; simp [vals] at hU
  | cons x t ih =>
    intro ev h U hU
    obtain ⟨b, cap, rfl, _, _, ht, hx⟩ := h
    cases x with
    | none =>
      rcases List.mem_cons.1 (show some U ∈ none :: vals t from hU) with h | h
      · cases h
      · exact ih _ ht U h
    | some R =>
      obtain ⟨_, _, _, _, _, _, _, hf, _⟩ := hx
      rcases List.mem_cons.1 (show some U ∈ some (cpN (vals t) R) :: vals t from hU) with h | h
      · cases h
        exact cpN_fit (ih _ ht) hf
      · exact ih _ ht U h

/-- A child in its place. -/
theorem kid_w {k ix : Int} {fr tg : ByteArray} {kids : F} {s Q : List (Option Nd)} (hw : wN ⟨k, fr, tg, ix, kids⟩ (s.length : Int) 0 = true) (hQ : Q = if k = 3 then none :: s else s) {p rest : F} {lab : ByteArray} {kd ix' : Int} {fr' tg' : ByteArray} {kids' : F}
    (he : kids = p.app (.cons lab kd fr' tg' ix' kids' rest)) : wN ⟨kd, fr', tg', ix', kids'⟩ (Q.length : Int) 0 = true := by
  unfold wN at hw
  simp only [Bool.and_eq_true] at hw
  obtain ⟨h1, h2⟩ := hw
  have hne : kids ≠ .nil := by
    rw [he]
    intro e
    have := congrArg F.len e
    rw [F.len_app] at this
    simp only [F.len] at this
    omega
  by_cases h3 : k = 3
  · rw [if_neg (by omega), if_pos h3, he, wF_app] at h2
    rw [hQ, if_pos h3]
    simp only [wF, Bool.and_eq_true] at h2
    refine wN_u _ _ 1 0 ?_ (by omega)
    unfold wN
    simp only [Bool.and_eq_true, List.length_cons]
    exact h2.2.1
  · by_cases h2' : k = 2
    · rw [if_neg (by omega), if_neg h3, if_pos h2', he, wF_app] at h2
      rw [hQ, if_neg h3]
      simp only [wF, Bool.and_eq_true] at h2
      unfold wN
      simp only [Bool.and_eq_true]
      exact h2.2.1
    · exact absurd (shape_leaf h1 h2' h3) hne

set_option maxHeartbeats 2000000 in
set_option maxRecDepth 100000 in
theorem cp_node (q n : Nat) (hq : CpAt q n) (W0 w : World) (c m : Nat) (d k ix : Int) (fr tg : ByteArray) (sv ev : Value) (kids : F) (s : List (Option Nd)) (hn : kids.sz < n + 1) (hp : puts s = q) (hb : Below W0.heap.size W0 w) (hc0 : W0.heap.size ≤ c) (hc : Ctr w c m) (hm : m ≤ 400) (hd1 : 1 ≤ d) (hd2 : d ≤ 41)
    (he : EnvIs W0 w c s ev) (hg : GoodS s) (hh : s.length + hF kids ≤ 500) (hw : wN ⟨k, fr, tg, ix, kids⟩ (s.length : Int) 0 = true) (hf : Fit ⟨k, fr, tg, ix, kids⟩) (hs : Sl W0 sv kids)
    (hkeep : k ≠ 4 ∨ ∃ (i T b cap nn : Nat), k = 4 ∧ ix = (i : Int) ∧ ev = .slice (some ⟨b, 0, none⟩) nn cap ∧ nn = i + 1 + T ∧ w.cell? ⟨b, T, none⟩ = some .nilFunc) (S' : List (Option Nd)) (hS : S' = if k = 3 then none :: vals s else vals s) :
    Calls Tryd.prog 83 #[.agg #[.int .i64 k, .string fr, .string tg, .int .i64 ix, sv], ev, .int .i64 d, .pointer (some ⟨c, 0, none⟩)] w (CpPost c ⟨k, fr, tg, ix, cpF S' kids⟩ d m w) := by
  have HS' := hide hS
  clear hS
  have hsh : shapeB k fr tg ix kids = true := by unfold wN at hw; simp only [Bool.and_eq_true] at hw; exact hw.1
  obtain ⟨ea, ecap, rfl, en1, en2, en3⟩ := he.form
  have hcl := hc.lt
  have hslen : s.length ≤ 500 := by omega
  have hst : Hid (∀ w1, Below ((w.alloc (.cells #[.int .i64 k, .string fr, .string tg, .int .i64 ix, sv] ( /- t -/ 39))).alloc (.cells #[.int .i64 0, .string ⟨#[]⟩, .string ⟨#[]⟩, .int .i64 0, .slice none 0 0] ( /- t -/ 39))).heap.size ((w.alloc (.cells #[.int .i64 k, .string fr, .string tg, .int .i64 ix, sv] ( /- t -/ 39))).alloc (.cells #[.int .i64 0, .string ⟨#[]⟩, .string ⟨#[]⟩, .int .i64 0, .slice none 0 0] ( /- t -/ 39))) w1 → CpSt W0 w w1 c m k ix fr tg sv s (.slice ea s.length ecap) ∧ Below w.heap.size w w1) := hide (fun w1 hb1 => by
    have h1 := Box5.now w (.int .i64 k) (.string fr) (.string tg) (.int .i64 ix) sv ( /- t -/ 39)
    have h2 := Box5.now (w.alloc (.cells #[.int .i64 k, .string fr, .string tg, .int .i64 ix, sv] ( /- t -/ 39))) (.int .i64 0) (.string ⟨#[]⟩) (.string ⟨#[]⟩) (.int .i64 0) (.slice none 0 0) ( /- t -/ 39)
    rw [show (w.alloc (.cells #[.int .i64 k, .string fr, .string tg, .int .i64 ix, sv] ( /- t -/ 39))).heap.size = w.heap.size + 1 from by simp] at h2
    have hA := alloc_below w (.cells #[.int .i64 k, .string fr, .string tg, .int .i64 ix, sv] ( /- t -/ 39))
    have hB := hA.alloc (by simp) (.cells #[.int .i64 0, .string ⟨#[]⟩, .string ⟨#[]⟩, .int .i64 0, .slice none 0 0] ( /- t -/ 39))
    have hC := hB.trans (hb1.mono hB.size)
    exact ⟨⟨(h1.below (alloc_below _ _)).below hb1, h2.below hb1, hc.below hC, (Only.refl c w).below hC, he.still (Still.of_below hC)⟩, hC⟩)
  have hBB0 := (alloc_below w (.cells #[.int .i64 k, .string fr, .string tg, .int .i64 ix, sv] ( /- t -/ 39))).alloc (by simp) (.cells #[.int .i64 0, .string ⟨#[]⟩, .string ⟨#[]⟩, .int .i64 0, .slice none 0 0] ( /- t -/ 39))
  have HSW : Hid (Sl ((w.alloc (.cells #[.int .i64 k, .string fr, .string tg, .int .i64 ix, sv] ( /- t -/ 39))).alloc (.cells #[.int .i64 0, .string ⟨#[]⟩, .string ⟨#[]⟩, .int .i64 0, .slice none 0 0] ( /- t -/ 39))) sv kids) :=
    hide ((hs.still (Still.of_below hb)).still (Still.of_below hBB0))
  have HH := hide (And.intro hn (And.intro hp (And.intro hb (And.intro hc0 (And.intro hg (And.intro hh (And.intro hw (And.intro hf (And.intro hs (And.intro hc he))))))))))
  have HK := hide hkeep
  have HSH := hide hsh
  clear hn hp hb hc0 hg hh hw hf hs hc he hkeep hsh hBB0
  go_enter Tryd.func83, Tryd.ntmps83
  go_upto_region 1 with fail
  generalize (w.alloc (.cells #[.int .i64 k, .string fr, .string tg, .int .i64 ix, sv] ( /- t -/ 39))).alloc (.cells #[.int .i64 0, .string ⟨#[]⟩, .string ⟨#[]⟩, .int .i64 0, .slice none 0 0] ( /- t -/ 39)) = W at *
  have hW := (hst.out W (Below.refl _ _)).1
  obtain ⟨x0, x1, x2, x3, x4⟩ := hW.hx.cells
  have hxl := hW.hx.lt
  clear hW
  go_wp2_with fail
  refine (node_test W k ix fr tg sv kids HSW.out HSH.out).mono ?_
  rintro e w1 ⟨v, rfl, hv, hb1⟩
  have HB1 := hide hb1
  obtain ⟨bb, hbb⟩ : ∃ bb : Bool, bb = decide (k = 4) := ⟨_, rfl⟩
  obtain ⟨X, hX⟩ : ∃ X : Int, X = if k = 4 then ix else 0 := ⟨_, rfl⟩
  have hta : ∀ w, (Instr.typeAssert v ( /- t -/ 172) ( /- t -/ 169) true).run Tryd.prog w = .ok (.tuple #[.agg #[.int .i64 X], .bool bb]) w := fun w => by rw [hX, hbb]; exact hv w
  have HX := hide hX
  have HBB := hide hbb
  clear hv hb1 hbb hX x0 x1 x2 x3 x4 hxl
  go_upto_if 24 with fail
  go_cut [12] from 25 to 40 (fun _ wc => wc = w1.alloc (.cells #[.int .i64 X] ( /- t -/ 169)))
  case first =>
    by_cases h4 : k = 4
    · have hb : bb = true := HBB.out.trans (decide_eq_true h4)
      subst hb
      rcases HK.out with h | ⟨i, T, b, cap, nn, -, hi, hev, hnn, hcell⟩
      · exact absurd h4 h
      · simp only [Value.slice.injEq] at hev
        obtain ⟨rfl, rfl, rfl⟩ := hev
        have hXi : X = (i : Int) := by rw [HX.out, if_pos h4, hi]
        subst hXi
        have hcell1 : w1.cell? ⟨b, T, none⟩ = some .nilFunc := Still.of_below (hst.out w1 HB1.out).2 _ _ hcell
        have hbl1 := World.block_lt_of_cell? _ _ hcell1
        have hix : (s.length : Int) - 1 - (i : Int) = (T : Int) := by omega
        have hTn : T < s.length := by omega
        have hTn2 : (T : Int) < (s.length : Int) := by omega
        have hcn := clo_none
        clear hnn hi hcell h4
        go_wp2_with fail
        go_meet
        case rel => rfl
    · have hb : bb = false := HBB.out.trans (decide_eq_false h4)
      subst hb
      clear h4
      go_wp2_with fail
      go_meet
      case rel => rfl
  case rest =>
    subst hcut
    have hst2 := (hst.out w1 HB1.out).1.below (alloc_below w1 (.cells #[.int .i64 X] ( /- t -/ 169)))
    generalize w1.alloc (.cells #[.int .i64 X] ( /- t -/ 169)) = W2 at *
    have HST := hide hst2
    have hcc := hst2.hc.cell
    have hcf := hst2.hc.frozen
    have hc2 := hst2.hc.lt
    clear hst hst2 HB1 HBB HX hta HSW HK
    obtain ⟨z0, z1, z2, z3, z4⟩ := HST.out.hz.cells
    have fz := HST.out.hz.frozen
    have hzl := HST.out.hz.lt
    by_cases hm4 : 400 ≤ m
    · go_wp2_with fail
      refine bodyPost_ret (v := .tuple #[.agg #[.int .i64 0, .string ⟨#[]⟩, .string ⟨#[]⟩, .int .i64 0, .slice none 0 0], .bool false]) (by simp [results, Tryd.results83, go_sem, *]) rfl ?_
      have hC : Ctr (W2.setCell ⟨c, 0, none⟩ (.int .i64 ((m : Int) + 1))) c ((m + 1 : Nat) : Int) := by
        have := HST.out.hc.set ((m : Int) + 1)
        rwa [show ((m + 1 : Nat) : Int) = (m : Int) + 1 by omega]
      exact CpPost.no (HST.out.ho.setCell (Or.inl rfl) _) hC (Nat.le_succ _) (by omega) (fun h => by have := h.1; omega) _ _ _ _ _
    by_cases hd4 : 40 < d
    · go_wp2_with fail
      refine bodyPost_ret (v := .tuple #[.agg #[.int .i64 0, .string ⟨#[]⟩, .string ⟨#[]⟩, .int .i64 0, .slice none 0 0], .bool false]) (by simp [results, Tryd.results83, go_sem, *]) rfl ?_
      have hC : Ctr (W2.setCell ⟨c, 0, none⟩ (.int .i64 ((m : Int) + 1))) c ((m + 1 : Nat) : Int) := by
        have := HST.out.hc.set ((m : Int) + 1)
        rwa [show ((m + 1 : Nat) : Int) = (m : Int) + 1 by omega]
      exact CpPost.no (HST.out.ho.setCell (Or.inl rfl) _) hC (Nat.le_succ _) (by omega) (fun h => by have := h.2; omega) _ _ _ _ _
    clear z0 z1 z2 z3 z4 fz hzl
    go_upto_if 53 with fail
    have hst3 : CpSt W0 w (W2.setCell ⟨c, 0, none⟩ (.int .i64 ((m : Int) + 1))) c (m + 1) k ix fr tg sv s (.slice ea s.length ecap) := by
      have := HST.out.hc.set ((m : Int) + 1)
      exact HST.out.only hcl ((Only.refl c W2).setCell (Or.inl rfl) _) (by rwa [show ((m + 1 : Nat) : Int) = (m : Int) + 1 by omega])
    generalize W2.setCell ⟨c, 0, none⟩ (.int .i64 ((m : Int) + 1)) = W3 at *
    obtain ⟨x0, x1, x2, x3, x4⟩ := hst3.hx.cells
    have hxl := hst3.hx.lt
    have HST := hide hst3
    clear hst3 hcc hcf hc2
    go_upto_if 57 with fail
    obtain ⟨kk, hkk⟩ : ∃ kk : Bool, kk = (k == 3) := ⟨_, rfl⟩
    rw [← hkk]
    have HKK := hide hkk
    clear hkk
    obtain ⟨Q, hQ⟩ : ∃ Q : List (Option Nd), Q = if k = 3 then none :: s else s := ⟨_, rfl⟩
    have HQ := hide hQ
    clear hQ
    go_cut [1] from 58 to 61 (fun v1 wd => CpSt W0 w wd c (m + 1) k ix fr tg sv Q v1)
    case first =>
      by_cases h3 : k = 3
      · have hb : kk = true := HKK.out.trans (beq_iff_eq.2 h3)
        have hQ : Q = none :: s := by rw [HQ.out, if_pos h3]
        subst hb hQ
        clear h3
        obtain ⟨olds, hol1, hol2⟩ := HST.out.he.olds
        obtain ⟨i0, hi, hz0, hz1, hz2⟩ := info_parts copierInfo
        have HI := hide (And.intro hi (And.intro hz0 (And.intro hz1 hz2)))
        clear hi hz0 hz1 hz2
        go_wp2_with fail
        refine (clip_calls _ ea s.length ecap en1).mono ?_
        rintro e w' ⟨rfl, rfl⟩
        go_wp2_with (first | (at_builtin; go_loud (refine wpList_append_grows _ rfl _ _ ( /- t -/ 93) rfl ( /- t -/ 174) i0 .nilFunc 1 8 Tryd.underlying93 HI.out.1 HI.out.2.1 HI.out.2.2.1 HI.out.2.2.2 rfl (by omega) ea s.length s.length olds rfl (fun e => ⟨(en3 e).1, (en3 e).1⟩) (by omega) (fun b hb j u hu => Still.of_below (alloc_below _ _) _ _ (hol2 b hb j u hu)) ⟨w'.heap.size, 0, none⟩ 1 1 [.nilFunc] rfl rfl (World.news_of_block (cs := #[.nilFunc]) (t := ( /- t -/ 174)) (fr := (0, 0)) (heap_alloc_new w' _)) (by simp [Value.oneCell']) (by omega) (by unfold maxLen; omega) (by omega) ?_; intro v' w5 hown5 hgr5)) | fail)
        go_meet
        case rel =>
          have hbA := alloc_below w' (.cells #[.nilFunc] ( /- t -/ 174))
          obtain ⟨g, cap', rfl, e1, e2, e3, e4, e5, -⟩ := (HST.out.he.still (Still.of_below hbA)).grow hol1 (fun b hb j u hu => Still.of_below hbA _ _ (hol2 b hb j u hu)) hown5 hgr5
          have h5 := HST.out.below (hbA.trans ((grown_below hgr5).mono hbA.size))
          exact ⟨h5.hx, h5.hz, h5.hc, h5.ho, e4.kept e1 e2 e5⟩
      · have hb : kk = false := HKK.out.trans (beq_eq_false_iff_ne.2 h3)
        have hQ : Q = s := by rw [HQ.out, if_neg h3]
        subst hb hQ
        clear h3
        go_wp2_with fail
        go_meet
        case rel => exact HST.out
    case rest =>
      have hst := hcut
      clear hcut
      obtain ⟨x0, x1, x2, x3, x4⟩ := hst.hx.cells
      have hxl := hst.hx.lt
      obtain ⟨hn, hp, hb, hc0, hg, hh, hw, hf, hs, -, -⟩ := HH.out
      have hlen3 : kids.len ≤ 3 := (kids_w hw (by omega)).1
      obtain ⟨ka, kcap, rfl, klen, kat⟩ := hs.at
      have hlt2 := hst.lt
      obtain ⟨XX, hXX⟩ : ∃ XX, XX = wc.heap.size := ⟨_, rfl⟩
      have hVQ : vals Q = S' := by
        rw [HS'.out, HQ.out]
        split <;> rfl
      have HREL : Hid (CpRel W0 wc c m d k ix fr tg kids Q ka XX (.int .i64 0) (wc.alloc (.cells #[.int .i64 k, .string fr, .string tg, .int .i64 ix, .slice none 0 0] ( /- t -/ 39)))) := by
        have hbA := alloc_below wc (.cells #[.int .i64 k, .string fr, .string tg, .int .i64 ix, .slice none 0 0] ( /- t -/ 39))
        have hbox := Box5.now wc (.int .i64 k) (.string fr) (.string tg) (.int .i64 ix) (.slice none 0 0) ( /- t -/ 39)
        rw [← hXX] at hbox
        exact hide ⟨.nil, kids, _, [], m + 1, rfl, rfl, kat, hst.hc.below hbA, (Only.refl c wc).below hbA, hbox, by rw [cpF]; exact Gr.nil _ _, by rw [cpF]; rfl, by omega, by rw [cpF]; simp only [hF]; omega⟩
      obtain ⟨i0, hi, hz0, hz1, hz2⟩ := info_parts Tryd.info54
      have HI := hide (And.intro hi (And.intro hz0 (And.intro hz1 hz2)))
      have HWC := hide hst
      clear hst
      have HHH := hide (And.intro hn (And.intro hp (And.intro hb (And.intro hc0 (And.intro hg (And.intro hh (And.intro hw (And.intro hf hVQ))))))))
      clear hi hz0 hz1 hz2 hn hp hb hc0 hg hh hw hf hs HST HH HSH klen kat hVQ en3
      go_wp2_with fail
      rw [← hXX]
      have hXw : w.heap.size + 2 ≤ XX := by omega
      have HXX := hide hXX
      clear hXX hlt2 x0 x1 x2 x3 x4 hxl
      go_loopw [74] (fun iv wr => CpRel W0 wc c m d k ix fr tg kids Q ka XX iv wr) (fun iv _ => kids.len - (intOf iv).toNat)
      case atStart => exact HREL.out
      case round =>
        obtain ⟨p, g, v, bs, m', hfe, rfl, hat, hcw, hoc, hbx, hgr, hm', hm4', hd'⟩ := hrel
        have hst := HWC.out.only hcl hoc hcw
        have HOC := hide hoc
        clear hcw hoc
        cases g with
        | nil =>
          have hge : kids.len ≤ p.len := by rw [hfe, F.app_nil]; exact Nat.le_refl _
          rw [F.app_nil] at hfe
          obtain ⟨va, vc, rfl⟩ := hgr.val
          obtain ⟨o0, o1, o2, o3, o4⟩ := hbx.cells
          have hol := hbx.lt
          obtain ⟨z0, z1, z2, z3, z4⟩ := hst.hz.cells
          have fz := hst.hz.frozen
          have hzl := hst.hz.lt
          have HS2 := hide hst
          have HG := hide hgr
          have HE := hide (And.intro hfe (And.intro hm' hd'))
          clear hst hbx hgr hfe hat hm' hd' HREL
          go_wp2_with fail
          refine bodyPost_ret (v := .tuple #[.agg #[.int .i64 k, .string fr, .string tg, .int .i64 ix, .slice va (cpF (vals Q) p).len vc], .bool true]) (by simp [results, Tryd.results83, go_sem, *]) rfl ?_
          have hVQ := HHH.out.2.2.2.2.2.2.2.2
          rw [HE.out.1, ← hVQ]
          exact CpPost.put (N := ⟨k, fr, tg, ix, cpF (vals Q) p⟩) HS2.out.ho HS2.out.hc (Nat.le_succ _) (by omega) (by have := HE.out.2.1; simp only; omega) HE.out.2.2 (by have := HE.out.2.1; simp only; omega) HG.out.ow (fun b hb => by have := HG.out.ge b hb; omega) HG.out.nodup _ _ _ _ _
        | cons lab kd fr' tg' ix' kids' rest =>
          have hlt : p.len < kids.len := by rw [hfe, F.len_app]; simp only [F.len]; omega
          obtain ⟨hn, hp, hb, hc0, hg, hh, hw, hf, hVQ⟩ := HHH.out
          have hbW : Below W0.heap.size W0 wr := hb.trans (hst.ho.to_below hc0 hb.size)
          obtain ⟨b', o, rfl, l1, l2, l3, l4, l5, c0, c1, c2, c3, c4, ⟨sv0, c5, hsv⟩, -⟩ := hat.head
          obtain ⟨sa, scap, rfl, -⟩ := id hsv
          have hlift : ∀ (o : Nat) (y : Value), W0.cell? ⟨b', o, none⟩ = some y → wr.cell? ⟨b', o, none⟩ = some y := fun o y h => Still.of_below hbW _ _ h
          have c0 := hlift _ _ c0
          have c1 := hlift _ _ c1
          have c2 := hlift _ _ c2
          have c3 := hlift _ _ c3
          have c4 := hlift _ _ c4
          have c5 := hlift _ _ c5
          have hbl := World.block_lt_of_cell? _ _ c0
          have hQQ := HQ.out
          have hpQ : puts Q = q := by rw [hQQ]; split <;> exact hp
          have hgQ : GoodS Q := by rw [hQQ]; split <;> exact hg
          have hQl : Q.length ≤ s.length + 1 := by rw [hQQ]; split <;> simp
          have hkw := kid_w hw hQQ hfe
          have hks : kids'.sz < n ∧ 1 + hF kids' ≤ hF kids := by
            rw [hfe, F.sz_app] at hn
            rw [hfe, hF_app]
            simp only [F.sz, hF] at hn ⊢
            omega
          obtain ⟨N, hN⟩ : ∃ N, N = cpN (vals Q) ⟨kd, fr', tg', ix', kids'⟩ := ⟨_, rfl⟩
          have hst2 := hst.below (alloc_below wr (.cells #[.string lab, .int .i64 kd, .string fr', .string tg', .int .i64 ix', .slice sa kids'.len scap] ( /- t -/ 54)))
          have hcall := hq W0 _ c m' (d + 1) kd ix' fr' tg' _ u1 kids' Q hks.1 hpQ (hbW.trans ((alloc_below wr (.cells #[.string lab, .int .i64 kd, .string fr', .string tg', .int .i64 ix', .slice sa kids'.len scap] ( /- t -/ 54))).mono hbW.size)) hc0 hst2.hc hm4' (by omega) (by omega) hst2.he hgQ (by omega) hkw ⟨l2, l3, l4, l5⟩ hsv
          have HFN : Hid (Fit N) := hide (by rw [hN]; exact cpN_fit (EnvIs.fits Q u1 hst.he) ⟨l2, l3, l4, l5⟩)
          rw [← hN] at hcall
          have HCALL := hide hcall
          have hbx2 : w.heap.size + 2 ≤ XX ∧ XX < wr.heap.size := ⟨hXw, hbx.lt⟩
          have HS := hide hst
          have HBX := hide hbx
          have HGR := hide hgr
          have HNN := hide hN
          have HE := hide (And.intro hfe (And.intro hm' (And.intro hd' (And.intro hat l1))))
          have hdd : (d : Int) + 1 ≤ 41 := by omega
          clear hn hp hb hc0 hg hh hw hf hVQ hbW hlift hQQ hpQ hgQ hQl hkw hks hst2 hcall hst hbx hgr hN hfe hm' hd' hat l1 l2 l3 l4 l5 hsv HREL
          go_wp2_with fail
          refine HCALL.out.mono ?_
          rintro e w3 ⟨m3, ho3, hc3, hcase⟩
          have hst3 := (HS.out.below (alloc_below wr (.cells #[.string lab, .int .i64 kd, .string fr', .string tg', .int .i64 ix', .slice sa kids'.len scap] ( /- t -/ 54)))).only hcl ho3 hc3
          have hbx3 := (HBX.out.below (alloc_below wr (.cells #[.string lab, .int .i64 kd, .string fr', .string tg', .int .i64 ix', .slice sa kids'.len scap] ( /- t -/ 54)))).only ho3 (by omega)
          have hgr3 := (HGR.out.below (alloc_below wr (.cells #[.string lab, .int .i64 kd, .string fr', .string tg', .int .i64 ix', .slice sa kids'.len scap] ( /- t -/ 54)))).only ho3 (by omega)
          have hlab : w3.cell? ⟨wr.heap.size, 0, none⟩ = some (.string lab) := by
            have h1 : (wr.alloc (.cells #[.string lab, .int .i64 kd, .string fr', .string tg', .int .i64 ix', .slice sa kids'.len scap] ( /- t -/ 54))).cell? ⟨wr.heap.size, 0, none⟩ = some (.string lab) := cell_of_heap (alloc_last wr _ _)
            rw [World.cell?_of_block (ho3.block _ (by simp) (by show wr.heap.size ≠ c; omega))]
            exact h1
          have HO3 := hide ((HOC.out.below (alloc_below wr (.cells #[.string lab, .int .i64 kd, .string fr', .string tg', .int .i64 ix', .slice sa kids'.len scap] ( /- t -/ 54)))).trans ho3)
          have hs3 := ho3.size
          simp only [World.size_alloc] at hs3
          have HS3 := hide hst3
          have HB3 := hide hbx3
          have HG3 := hide hgr3
          have hlab3 := World.block_lt_of_cell? _ _ hlab
          clear hst3 hbx3 hgr3 c0 c1 c2 c3 c4 c5 hbl ho3 hc3
          rcases hcase with ⟨h1, h2, h3, u, ks, rfl, how, hks, hknd⟩ | ⟨h1, rfl⟩
          · obtain ⟨ua, uc, rfl⟩ := how.val
            simp only [World.size_alloc] at hks
            have HW := hide how
            have HK := hide hks
            have HLIM := hide (And.intro h1 (And.intro h2 h3))
            clear how hks h1 h2 h3
            have o4 := HB3.out.cells.2.2.2.2
            have fo := HB3.out.frozen
            have hol := HB3.out.lt
            have hpl3 : (cpF (vals Q) p).len ≤ 3 := by rw [cpF_len]; omega
            have HPL := hide hpl3
            clear hpl3
            go_wp2_with (first | (at_builtin; go_loud (refine wpList_append_lies _ rfl _ _ ( /- t -/ 37) rfl (XX + 1) ( /- t -/ 54) i0 _ 6 88 Tryd.underlying37 HI.out.1 HI.out.2.1 HI.out.2.2.1 HI.out.2.2.2 rfl (by omega) v (cpF (vals Q) p).len (grXs ((w3.alloc (.cells #[.int .i64 N.k, .string N.fr, .string N.tg, .int .i64 N.ix, .slice ua N.kids.len uc] ( /- t -/ 39))).alloc (.cells #[.string lab, .int .i64 N.k, .string N.fr, .string N.tg, .int .i64 N.ix, .slice ua N.kids.len uc] ( /- t -/ 54))) v (cpF (vals Q) p)) (by rfl) ((HG3.out.below (alloc_below _ _)).below (alloc_below _ _)).owns ⟨w3.heap.size + 1, 0, none⟩ 1 1 [.string lab, .int .i64 N.k, .string N.fr, .string N.tg, .int .i64 N.ix, .slice ua N.kids.len uc] (by rfl) (by rfl) (World.news_of_block (cs := #[.string lab, .int .i64 N.k, .string N.fr, .string N.tg, .int .i64 N.ix, .slice ua N.kids.len uc]) (t := ( /- t -/ 54)) (fr := (0, 0)) (by have h := heap_alloc_new (w3.alloc (.cells #[.int .i64 N.k, .string N.fr, .string N.tg, .int .i64 N.ix, .slice ua N.kids.len uc] ( /- t -/ 39))) (.cells #[.string lab, .int .i64 N.k, .string N.fr, .string N.tg, .int .i64 N.ix, .slice ua N.kids.len uc] ( /- t -/ 54)); simpa using h)) (by simp [Value.oneCell']) (by omega) (by have := HPL.out; unfold maxLen; omega) (by have := HPL.out; omega) (by simp; omega) _ rfl ?_; intro gg cp w6 hown6 hgrow6 hat6 hlt6; (have hgr6 := (HG3.out.below (alloc_below w3 (.cells #[.int .i64 N.k, .string N.fr, .string N.tg, .int .i64 N.ix, .slice ua N.kids.len uc] ( /- t -/ 39)))).below (alloc_below (w3.alloc (.cells #[.int .i64 N.k, .string N.fr, .string N.tg, .int .i64 N.ix, .slice ua N.kids.len uc] ( /- t -/ 39))) (.cells #[.string lab, .int .i64 N.k, .string N.fr, .string N.tg, .int .i64 N.ix, .slice ua N.kids.len uc] ( /- t -/ 54)))); (have hb6 := ((HB3.out.below (alloc_below w3 (.cells #[.int .i64 N.k, .string N.fr, .string N.tg, .int .i64 N.ix, .slice ua N.kids.len uc] ( /- t -/ 39)))).below (alloc_below (w3.alloc (.cells #[.int .i64 N.k, .string N.fr, .string N.tg, .int .i64 N.ix, .slice ua N.kids.len uc] ( /- t -/ 39))) (.cells #[.string lab, .int .i64 N.k, .string N.fr, .string N.tg, .int .i64 N.ix, .slice ua N.kids.len uc] ( /- t -/ 54)))).same (hgrow6.block XX (by simp; omega) (fun e => by have := hgr6.ge _ (hgr6.block _ e.symm); omega))); (have e4 := hb6.cells.2.2.2.2); (have ef := hb6.frozen); (have el := hb6.lt))) | fail)
            refine ⟨?_, by simp [intOf]; omega⟩
            obtain ⟨hfe, hm', hd', hat, l1⟩ := HE.out
            obtain ⟨h1, h2, h3⟩ := HLIM.out
            obtain ⟨q1, q2, q3, q4⟩ := HFN.out
            have hou := (HW.out.same (Same.of_below (alloc_below w3 (.cells #[.int .i64 N.k, .string N.fr, .string N.tg, .int .i64 N.ix, .slice ua N.kids.len uc] ( /- t -/ 39))) HW.out.lt))
            have hou2 := hou.same (Same.of_below (alloc_below (w3.alloc (.cells #[.int .i64 N.k, .string N.fr, .string N.tg, .int .i64 N.ix, .slice ua N.kids.len uc] ( /- t -/ 39))) (.cells #[.string lab, .int .i64 N.k, .string N.fr, .string N.tg, .int .i64 N.ix, .slice ua N.kids.len uc] ( /- t -/ 54))) hou.lt)
            obtain ⟨bs', hpush, -⟩ := Gr.push hgr6 (k := N.k) (ix := N.ix) hou2 (fun b hb => by have := HK.out b hb; omega) hknd
              (fun b hb hb2 => by have h8 := HGR.out.lt b hb; have h9 := HK.out b hb2; omega) l1 q1 q2 q3 q4 hown6 hgrow6 (by rcases hat6 with h | h; exact Or.inl h; exact Or.inr h)
            have hEQ : (cpF (vals Q) p).app (.cons lab N.k N.fr N.tg N.ix N.kids .nil) = cpF (vals Q) (p.app (.cons lab kd fr' tg' ix' kids' .nil)) := by
              rw [cpF_app, cpF_cons, ← HNN.out, cpF]
            rw [hEQ] at hpush
            have hz6 := (HS3.out.below (alloc_below w3 (.cells #[.int .i64 N.k, .string N.fr, .string N.tg, .int .i64 N.ix, .slice ua N.kids.len uc] ( /- t -/ 39)))).below (alloc_below (w3.alloc (.cells #[.int .i64 N.k, .string N.fr, .string N.tg, .int .i64 N.ix, .slice ua N.kids.len uc] ( /- t -/ 39))) (.cells #[.string lab, .int .i64 N.k, .string N.fr, .string N.tg, .int .i64 N.ix, .slice ua N.kids.len uc] ( /- t -/ 54)))
            have far : ∀ b, b < XX → (w6.setCell ⟨XX, 4, none⟩ (.slice (some ⟨gg, 0, none⟩) ((cpF (vals Q) p).len + 1) cp)).heap[b]? = ((w3.alloc (.cells #[.int .i64 N.k, .string N.fr, .string N.tg, .int .i64 N.ix, .slice ua N.kids.len uc] ( /- t -/ 39))).alloc (.cells #[.string lab, .int .i64 N.k, .string N.fr, .string N.tg, .int .i64 N.ix, .slice ua N.kids.len uc] ( /- t -/ 54))).heap[b]? := fun b hb => by
              rw [Below.heap_setCell _ _ _ _ (by simp; omega), hgrow6.block b (by simp; omega) (fun e => by have := hgr6.ge b (hgr6.block b e.symm); omega)]
            have h9 := (HO3.out.below (alloc_below w3 (.cells #[.int .i64 N.k, .string N.fr, .string N.tg, .int .i64 N.ix, .slice ua N.kids.len uc] ( /- t -/ 39)))).below (alloc_below (w3.alloc (.cells #[.int .i64 N.k, .string N.fr, .string N.tg, .int .i64 N.ix, .slice ua N.kids.len uc] ( /- t -/ 39))) (.cells #[.string lab, .int .i64 N.k, .string N.fr, .string N.tg, .int .i64 N.ix, .slice ua N.kids.len uc] ( /- t -/ 54)))
            have hxe := HXX.out
            refine ⟨p.app (.cons lab kd fr' tg' ix' kids' .nil), rest, _, bs', m3, by rw [hfe, F.app_assoc]; rfl, by rw [F.len_app]; rfl, by rw [F.len_app]; exact hat.tail, hz6.hc.same (far c (by omega)), ?_, hb6.set4 _,
              hpush.same (fun b hb => Below.heap_setCell _ _ _ _ (by have := hpush.ge b hb; simp; omega)), ?_, by omega, ?_⟩
            · exact ⟨hgrow6.os.trans h9.os, hgrow6.tape.trans h9.tape, hgrow6.output.trans h9.output, by have h1 := h9.size; have h2 := hgrow6.size; simp at h1 h2 ⊢; omega, fun b hb hne => (far b (by omega)).trans (h9.block b hb hne)⟩
            · rw [← hEQ, F.sz_app]
              simp only [F.sz]
              omega
            · rw [← hEQ, hF_app]
              simp only [hF]
              omega
          · obtain ⟨z0, z1, z2, z3, z4⟩ := HS3.out.hz.cells
            have fz := HS3.out.hz.frozen
            have hzl := HS3.out.hz.lt
            have H1 := hide h1
            clear h1
            go_wp2_with fail
            refine bodyPost_ret (v := .tuple #[.agg #[.int .i64 0, .string ⟨#[]⟩, .string ⟨#[]⟩, .int .i64 0, .slice none 0 0], .bool false]) (by simp [results, Tryd.results83, go_sem, *]) rfl ?_
            have hVQ := HHH.out.2.2.2.2.2.2.2.2
            have hcb : c ≠ w.heap.size + 1 := by omega
            refine CpPost.no0 (m' := m3) ?_ ?_ ?_
            · exact (((((HS3.out.ho.setCell (Or.inr (by simp)) _).setCell (Or.inr (by simp)) _).setCell (Or.inr (by simp)) _).setCell (Or.inr (by simp)) _).setCell (Or.inr (by simp)) _).alloc _
            · exact (((((HS3.out.hc.setOther hcb _).setOther hcb _).setOther hcb _).setOther hcb _).setOther hcb _).alloc _
            · intro hc
              refine H1.out ?_
              obtain ⟨a1, a2⟩ := hc
              have e1 := HE.out.2.1
              rw [HE.out.1, ← hVQ, cpF_app, cpF_cons, ← HNN.out] at a1 a2
              simp only [F.sz_app, F.sz, hF_app, hF] at a1 a2
              exact ⟨by omega, by omega⟩

end Go.Proofs.YtgcefippeokmcaaDoor

/- copyGlobal of the program, whole. -/
namespace Go.Proofs.YtgcefippeokmcaaDoor
open Go.RowKit

theorem cp_all : ∀ q n, CpAt q n := by
  intro q
  induction q using Nat.strongRecOn with
  | _ q ihq =>
  intro n
  induction n with
  | zero => intro W0 w c m d k ix fr tg sv ev kids s hn; omega
  | succ n ihn =>
    intro W0 w c m d k ix fr tg sv ev kids s hn hp hb hc0 hc hm hd1 hd2 he hg hh hw hf hs
    by_cases h4 : k = 4
    · subst h4
      have hw2 := hw
      unfold wN at hw2
      simp only [if_true, Bool.and_eq_true, decide_eq_true_eq] at hw2
      obtain ⟨hsh, hi0, hi1⟩ := hw2
      obtain ⟨i, rfl⟩ := Int.eq_ofNat_of_zero_le hi0
      have hi : i < s.length := by omega
      obtain ⟨b, cap, hev⟩ : ∃ b cap, ev = .slice (some ⟨b, 0, none⟩) s.length cap := by
        cases s with
        | nil => simp at hi
        | cons x t =>
          obtain ⟨b, cap, rfl, _⟩ := he
          exact ⟨b, cap, rfl⟩
      subst hev
      obtain ⟨p, x, t, hst, hpl, hx⟩ := EnvIs.at s b cap he i hi
      have hsl : s.length = i + 1 + t.length := by rw [hst, List.length_append, List.length_cons, hpl]; omega
      have hva := vals_at p x t
      rw [← hst, hpl] at hva
      cases x with
      | none =>
        have e : cpN (vals s) ⟨4, fr, tg, (i : Int), kids⟩ = ⟨4, fr, tg, (i : Int), cpF (vals s) kids⟩ := by
          unfold cpN
          simp only [if_true, Int.toNat_natCast]
          rw [hva]
        rw [e]
        exact cp_node q n ihn W0 w c m d 4 i fr tg sv _ kids s hn hp hb hc0 hc hm hd1 hd2 he hg hh hw hf hs (Or.inr ⟨i, t.length, b, cap, s.length, rfl, rfl, rfl, hsl, hx⟩) (vals s) rfl
      | some R =>
        have e : cpN (vals s) ⟨4, fr, tg, (i : Int), kids⟩ = cpN (vals t) R := by
          conv => lhs; unfold cpN
          simp only [if_true, Int.toNat_natCast]
          rw [hva]
        rw [e]
        obtain ⟨rb, ob, rv, ov, c0, c1, c2, c3, c4, c5, c6⟩ := hx
        have hgt : GoodS (some R :: t) := GoodS.suffix p _ (by rw [← hst]; exact hg)
        obtain ⟨_, hwR, hhR, hgt⟩ := hgt
        have hpt : puts t < q := by
          have h9 := hp
          rw [hst, puts_app] at h9
          simp only [puts] at h9
          omega
        have hclo := clo_calls W0 c (puts t) R t hc0 (ihq _ hpt) rfl hgt hhR hwR
        exact cp_put W0 w c m d i fr tg sv kids s.length b cap t.length hb hc hm hd1 hd2 hsh hs R t hclo hsl (by omega) rb ob rv ov c0 c1 c2 c3 c4 c5
    · rw [cpN_k h4]
      exact cp_node q n ihn W0 w c m d k ix fr tg sv ev kids s hn hp hb hc0 hc hm hd1 hd2 he hg hh hw hf hs (Or.inl h4) _ rfl
end Go.Proofs.YtgcefippeokmcaaDoor

/- UnfoldGlobal of the program. -/
namespace Go.Proofs.YtgcefippeokmcaaDoor
open Go.RowKit

theorem EnvIs.cons {W0 w : World} {c g r o cap : Nat} {s : List (Option Nd)} {N : Nd} {sv ov : Value} (h : EnvIs W0 w c s (.slice (some ⟨g, 0, none⟩) s.length cap)) (h1 : s.length + 1 ≤ cap) (h2 : cap ≤ maxLen) (hy : w.cell? ⟨g, s.length, none⟩ = some (cloV r o c))
    (hr : Cell5 w r N sv) (hs : Sl W0 sv N.kids) (hf : Fit N) (ho : w.cell? ⟨o, 0, none⟩ = some ov) (hov : EnvIs W0 w c s ov) (hcr : c < r) : EnvIs W0 w c (some N :: s) (.slice (some ⟨g, 0, none⟩) (s.length + 1) cap) :=
  ⟨g, cap, rfl, h1, h2, h, r, o, sv, ov, hy, hr, hs, hf, ho, hov, hcr⟩

/-- The environment's slice is the call's own. -/
def EnvOwn (wr : World) (c : Nat) (s : List (Option Nd)) (ev : Value) : Prop :=
  (s = [] ∧ ev = .slice none 0 0) ∨ ∃ b cap cur, s ≠ [] ∧ ev = .slice (some ⟨b, 0, none⟩) s.length cap ∧ wr.heap[b]? = some (.cells cur ( /- t -/ 174) (0, 0)) ∧ cur.size = cap ∧ c < b

/-- What holds at each head of the loop. -/
def UyRel (w : World) (c : Nat) (T : Nd) (n : Nat) (ev : Value) (wr : World) : Prop :=
  ∃ (s : List (Option Nd)) (N : Nd) (sv : Value), UlIs T n (vals s) N ∧ Sl w sv N.kids ∧ Fit N ∧ Box5 wr w.heap.size (.int .i64 N.k) (.string N.fr) (.string N.tg) (.int .i64 N.ix) sv ∧
    Box5 wr (w.heap.size + 1) (.int .i64 0) (.string ⟨#[]⟩) (.string ⟨#[]⟩) (.int .i64 0) (.slice none 0 0) ∧ Ctr wr c 0 ∧ EnvIs w wr c s ev ∧ GoodS s ∧ EnvOwn wr c s ev ∧ Below w.heap.size w wr

/-- One recursion more. -/
theorem UyRel.push {w w6 : World} {c n : Nat} {T N C : Nd} {s : List (Option Nd)} {v' sv svc : Value} (hwc : w.heap.size + 1 < c) (hul : UlIs T n (vals (some N :: s)) C) (hsc : Sl w svc C.kids) (hfc : Fit C) (hsl : Sl w sv N.kids)
    (hx : Box5 w6 w.heap.size (.int .i64 N.k) (.string N.fr) (.string N.tg) (.int .i64 N.ix) sv) (hz : Box5 w6 (w.heap.size + 1) (.int .i64 0) (.string ⟨#[]⟩) (.string ⟨#[]⟩) (.int .i64 0) (.slice none 0 0)) (hc : Ctr w6 c 0)
    (he : EnvIs w w6 c (some N :: s) v') (hg : GoodS (some N :: s)) (ho : EnvOwn w6 c (some N :: s) v') (hb : Below w.heap.size w w6) :
    UyRel w c T n v' (((((w6.setCell ⟨w.heap.size, 0, none⟩ (.int .i64 C.k)).setCell ⟨w.heap.size, 1, none⟩ (.string C.fr)).setCell ⟨w.heap.size, 2, none⟩ (.string C.tg)).setCell ⟨w.heap.size, 3, none⟩ (.int .i64 C.ix)).setCell ⟨w.heap.size, 4, none⟩ svc) := by
  have far : ∀ b, b ≠ w.heap.size → (((((w6.setCell ⟨w.heap.size, 0, none⟩ (.int .i64 C.k)).setCell ⟨w.heap.size, 1, none⟩ (.string C.fr)).setCell ⟨w.heap.size, 2, none⟩ (.string C.tg)).setCell ⟨w.heap.size, 3, none⟩ (.int .i64 C.ix)).setCell ⟨w.heap.size, 4, none⟩ svc).heap[b]? = w6.heap[b]? := fun b hb => by
    rw [Below.heap_setCell _ _ _ _ hb, Below.heap_setCell _ _ _ _ hb, Below.heap_setCell _ _ _ _ hb, Below.heap_setCell _ _ _ _ hb, Below.heap_setCell _ _ _ _ hb]
  have hal := hx.setAll (.int .i64 C.k) (.string C.fr) (.string C.tg) (.int .i64 C.ix) svc
  have hbb : Below w.heap.size w (((((w6.setCell ⟨w.heap.size, 0, none⟩ (.int .i64 C.k)).setCell ⟨w.heap.size, 1, none⟩ (.string C.fr)).setCell ⟨w.heap.size, 2, none⟩ (.string C.tg)).setCell ⟨w.heap.size, 3, none⟩ (.int .i64 C.ix)).setCell ⟨w.heap.size, 4, none⟩ svc) :=
    ((((hb.setCell (by simp) _).setCell (by simp) _).setCell (by simp) _).setCell (by simp) _).setCell (by simp) _
  generalize (((((w6.setCell ⟨w.heap.size, 0, none⟩ (.int .i64 C.k)).setCell ⟨w.heap.size, 1, none⟩ (.string C.fr)).setCell ⟨w.heap.size, 2, none⟩ (.string C.tg)).setCell ⟨w.heap.size, 3, none⟩ (.int .i64 C.ix)).setCell ⟨w.heap.size, 4, none⟩ svc) = w7 at *
  refine ⟨some N :: s, C, svc, hul, hsc, hfc, hal, hz.same (far _ (by omega)), hc.same (far _ (by omega)), ?_, hg, ?_, hbb⟩
  · obtain ⟨x0, x1, x2, x3, x4⟩ := hx.cells
    obtain ⟨ka, kc, rfl, _⟩ := hsl
    refine EnvIs.keep (fun p => p.block = w.heap.size) (s.length + 1) (fun p v e hp => ?_) (fun b j v _ e hv hp => ?_) (fun rb R sv hcr _ j _ hp => ?_) (fun ob a n cap e hp => ?_) _ _ (by simp) he
    · rw [World.cell?_of_block (far _ hp)]
      exact e
    · simp only at hp
      subst hp
      obtain ⟨t, ht⟩ := hx
      have hj : j = 0 ∨ j = 1 ∨ j = 2 ∨ j = 3 ∨ j = 4 ∨ 5 ≤ j := by omega
      rcases hj with rfl | rfl | rfl | rfl | rfl | hj
      · rw [x0] at e; rcases hv with rfl | ⟨_, _, rfl⟩ <;> simp [cloV] at e
      · rw [x1] at e; rcases hv with rfl | ⟨_, _, rfl⟩ <;> simp [cloV] at e
      · rw [x2] at e; rcases hv with rfl | ⟨_, _, rfl⟩ <;> simp [cloV] at e
      · rw [x3] at e; rcases hv with rfl | ⟨_, _, rfl⟩ <;> simp [cloV] at e
      · rw [x4] at e; rcases hv with rfl | ⟨_, _, rfl⟩ <;> simp [cloV] at e
      · rw [cell_of_heap ht, Array.getElem?_eq_none (by simp; omega)] at e
        cases e
    · simp only at hp
      omega
    · simp only at hp
      subst hp
      rw [x0] at e
      simp at e
  · rcases ho with ⟨h, _⟩ | ⟨b, cap, cur, h1, h2, h3, h4, h5⟩
    · cases h
    · exact Or.inr ⟨b, cap, cur, h1, h2, (far b (by omega)).trans h3, h4, h5⟩

/-- What is known in a round once the closure is made. -/
structure UwF (w w6 : World) (C r : Nat) (N : Nd) (sv ev : Value) (b' o : Nat) (M : Nd) (svc : Value) (s : List (Option Nd)) : Prop where
  hx : Box5 w6 w.heap.size (.int .i64 N.k) (.string N.fr) (.string N.tg) (.int .i64 N.ix) sv
  hz : Box5 w6 (w.heap.size + 1) (.int .i64 0) (.string ⟨#[]⟩) (.string ⟨#[]⟩) (.int .i64 0) (.slice none 0 0)
  hc : Ctr w6 C 0
  he : EnvIs w w6 C s ev
  hr : Cell5 w6 r N sv
  ho : w6.cell? ⟨r + 1, 0, none⟩ = some ev
  hk : w6.cell? ⟨b', o + 1, none⟩ = some (.int .i64 M.k) ∧ w6.cell? ⟨b', o + 2, none⟩ = some (.string M.fr) ∧ w6.cell? ⟨b', o + 3, none⟩ = some (.string M.tg) ∧ w6.cell? ⟨b', o + 4, none⟩ = some (.int .i64 M.ix) ∧ w6.cell? ⟨b', o + 5, none⟩ = some svc
  hb : Below w.heap.size w w6

theorem UwF.below {w w6 w7 : World} {C r : Nat} {N : Nd} {sv ev : Value} {b' o : Nat} {M : Nd} {svc : Value} {s : List (Option Nd)} (h : UwF w w6 C r N sv ev b' o M svc s) (hb : Below w6.heap.size w6 w7) : UwF w w7 C r N sv ev b' o M svc s := by
  have st := Still.of_below hb
  obtain ⟨r0, r1, r2, r3, r4⟩ := h.hr
  obtain ⟨k1, k2, k3, k4, k5⟩ := h.hk
  exact ⟨h.hx.below hb, h.hz.below hb, h.hc.below hb, h.he.still st, ⟨st _ _ r0, st _ _ r1, st _ _ r2, st _ _ r3, st _ _ r4⟩, st _ _ h.ho, ⟨st _ _ k1, st _ _ k2, st _ _ k3, st _ _ k4, st _ _ k5⟩, h.hb.trans (hb.mono h.hb.size)⟩
/-- A cell elsewhere is written. -/
theorem UwF.set {w w6 : World} {C r : Nat} {N : Nd} {sv ev : Value} {b' o : Nat} {M : Nd} {svc : Value} {s : List (Option Nd)} (h : UwF w w6 C r N sv ev b' o M svc s) (p : Addr) (y : Value) (h1 : w.heap.size + 1 < p.block) (h2 : p.block ≠ C) (h3 : p.block ≠ r) (h4 : p.block ≠ r + 1) (h5 : b' < w.heap.size)
    (he : EnvIs w (w6.setCell p y) C s ev) : UwF w (w6.setCell p y) C r N sv ev b' o M svc s := by
  have st : ∀ (b o : Nat) (v : Value), b ≠ p.block → w6.cell? ⟨b, o, none⟩ = some v → (w6.setCell p y).cell? ⟨b, o, none⟩ = some v := fun b o v hb hc => by
    rw [World.cell?_of_block (Below.heap_setCell _ _ _ _ hb)]
    exact hc
  obtain ⟨r0, r1, r2, r3, r4⟩ := h.hr
  obtain ⟨k1, k2, k3, k4, k5⟩ := h.hk
  exact ⟨h.hx.setOther (by omega) _, h.hz.setOther (by omega) _, h.hc.setOther (Ne.symm h2) _, he, ⟨st _ _ _ (Ne.symm h3) r0, st _ _ _ (Ne.symm h3) r1, st _ _ _ (Ne.symm h3) r2, st _ _ _ (Ne.symm h3) r3, st _ _ _ (Ne.symm h3) r4⟩,
    st _ _ _ (Ne.symm h4) h.ho, ⟨st _ _ _ (by omega) k1, st _ _ _ (by omega) k2, st _ _ _ (by omega) k3, st _ _ _ (by omega) k4, st _ _ _ (by omega) k5⟩, h.hb.setCell (by omega) _⟩

set_option maxHeartbeats 4000000 in
set_option maxRecDepth 100000 in
theorem implUnf (w : World) (g : Nd) (sv : Value) (hs : Sl w sv g.kids) (hf : Fit g) :
    Calls Tryd.prog 30 #[.agg #[.int .i64 g.k, .string g.fr, .string g.tg, .int .i64 g.ix, sv]] w (MadeR (unfR g) (unfOk g) w) := by
  have HS := hide hs
  have HF := hide hf
  have hb0 := (alloc_below w (.cells #[.int .i64 g.k, .string g.fr, .string g.tg, .int .i64 g.ix, sv] ( /- t -/ 39))).alloc (by simp) (.cells #[.int .i64 0, .string ⟨#[]⟩, .string ⟨#[]⟩, .int .i64 0, .slice none 0 0] ( /- t -/ 39))
  have hx0 := (Box5.now w (.int .i64 g.k) (.string g.fr) (.string g.tg) (.int .i64 g.ix) sv ( /- t -/ 39)).below (alloc_below _ (.cells #[.int .i64 0, .string ⟨#[]⟩, .string ⟨#[]⟩, .int .i64 0, .slice none 0 0] ( /- t -/ 39)))
  have hz0 := Box5.now (w.alloc (.cells #[.int .i64 g.k, .string g.fr, .string g.tg, .int .i64 g.ix, sv] ( /- t -/ 39))) (.int .i64 0) (.string ⟨#[]⟩) (.string ⟨#[]⟩) (.int .i64 0) (.slice none 0 0) ( /- t -/ 39)
  rw [show (w.alloc (.cells #[.int .i64 g.k, .string g.fr, .string g.tg, .int .i64 g.ix, sv] ( /- t -/ 39))).heap.size = w.heap.size + 1 from by simp] at hz0
  have HB0 := hide hb0
  have HX0 := hide hx0
  have HZ0 := hide hz0
  clear hs hf hb0 hx0 hz0
  go_enter Tryd.func30, Tryd.ntmps30
  go_wp2_with fail
  generalize (w.alloc (.cells #[.int .i64 g.k, .string g.fr, .string g.tg, .int .i64 g.ix, sv] ( /- t -/ 39))).alloc (.cells #[.int .i64 0, .string ⟨#[]⟩, .string ⟨#[]⟩, .int .i64 0, .slice none 0 0] ( /- t -/ 39)) = W at *
  refine (implValid W g.k g.ix g.fr g.tg sv g.kids (HS.out.still (Still.of_below HB0.out))).mono ?_
  rintro e w1 ⟨rfl, hb⟩
  have HX1 := hide (HX0.out.below hb)
  have HZ1 := hide (HZ0.out.below hb)
  have HB1 := hide (HB0.out.trans (hb.mono HB0.out.size))
  clear hb HX0 HZ0 HB0
  cases hok : okN g.k g.fr g.tg g.ix g.kids with
  | false =>
    have hr : unfOk g = false := by unfold unfOk okG; rw [hok]; rfl
    have HR := hide hr
    obtain ⟨z0, z1, z2, z3, z4⟩ := HZ1.out.cells
    have fz := HZ1.out.frozen
    have hzl := HZ1.out.lt
    clear hok hr
    go_wp2_with fail
    refine bodyPost_ret (v := .tuple #[.agg #[.int .i64 0, .string ⟨#[]⟩, .string ⟨#[]⟩, .int .i64 0, .slice none 0 0], .bool false]) (by simp [results, Tryd.results30, go_sem, *]) rfl ?_
    have e1 : unfR g = zeroNd := by unfold unfR; rw [HR.out]; rfl
    rw [HR.out, e1]
    refine MadeR.zero ?_
    repeat (refine Below.setCell ?_ (by first | (simp; done) | (simp; omega)) _)
    exact HB1.out
  | true =>
    have hg : okG g = true := hok
    obtain ⟨hw, hh, hsz⟩ := okG_w hg
    have hwT : wN (unf g) 0 0 = true := unfN_w _ _ _ (fun x hx => by simp at hx) hw
    have hOK : unfOk g = (decide (hN (unf g) ≤ 40) && decide ((unf g).kids.sz + 1 ≤ 400)) := by unfold unfOk; rw [hg, okG_of_w hwT, Bool.true_and]
    obtain ⟨C, hC⟩ : ∃ C, C = w1.heap.size := ⟨_, rfl⟩
    have hzl := HZ1.out.lt
    have hwc : w.heap.size + 1 < C := by omega
    have HST : Hid (UyRel w C (unf g) (g.kids.sz + 1) (.slice none 0 0) (w1.alloc (.cells #[.int .i64 0] ( /- t -/ 3)))) := by
      have hbA := alloc_below w1 (.cells #[.int .i64 0] ( /- t -/ 3))
      refine hide ⟨[], g, sv, UlIs.start hw hh, HS.out, HF.out, HX1.out.below hbA, HZ1.out.below hbA, ?_, ⟨none, 0, rfl, Nat.zero_le _, fun _ => rfl⟩, trivial, Or.inl ⟨rfl, rfl⟩, HB1.out.trans (hbA.mono HB1.out.size)⟩
      rw [hC]
      exact ⟨_, alloc_last w1 _ _⟩
    have HOK := hide hOK
    clear hok hg hw hh hsz hwT hOK hzl HX1 HZ1 HB1
    obtain ⟨T, hT⟩ : ∃ T, T = unf g := ⟨_, rfl⟩
    have HT := hide hT
    rw [← hT] at HST
    clear hT
    obtain ⟨i0, hi, hz0, hz1, hz2⟩ := info_parts copierInfo
    have HI := hide (And.intro hi (And.intro hz0 (And.intro hz1 hz2)))
    clear hi hz0 hz1 hz2
    go_wp2_with fail
    rw [← hC]
    clear hC
    go_loopg [5] (g.kids.sz + 1) (fun n v wr => UyRel w C T n v wr)
    case atStart => exact HST.out
    case round =>
      obtain ⟨s, N, sv', hul, hsl, hfN, hx, hz, hc, he, hgs, hown, hb⟩ := hrel
      have hlw := hul.w
      rw [vals_len] at hlw
      have hlh := hul.h
      rw [vals_len] at hlh
      by_cases h3 : N.k = 3
      · obtain ⟨lab, k', fr', tg', ix', kids', hkid, hw'⟩ := rec_kid hul.w h3
        obtain ⟨ka, kcap, rfl, klen, kat⟩ := hsl.at
        rw [hkid] at kat
        obtain ⟨b', o, rfl, l1, l2, l3, l4, l5, c0, c1, c2, c3, c4, ⟨svc, c5, hsvc⟩, -⟩ := kat.head
        obtain ⟨sa, scap, rfl, -⟩ := id hsvc
        simp only [Nat.zero_mul, Nat.add_zero] at c1 c2 c3 c4 c5
        have hbw := World.block_lt_of_cell? _ _ c1
        cases gk with
        | zero => exact absurd hul.sz (by omega)
        | succ n =>
        have hstep := hul.step h3 (cpN_fit (EnvIs.fits s _ he) hfN) hkid hw'
        have hgood : GoodS (some N :: s) := ⟨h3, wN_u _ _ _ _ hlw (by omega), by unfold hN at hlh; omega, hgs⟩
        have hl1 : N.kids.len = 1 := by rw [hkid]; rfl
        have hlt : (0 : Int) < (N.kids.len : Int) := by rw [hl1]; decide
        have hlt2 : 0 < N.kids.len := by omega
        have hq : (N.k == 3) = true := beq_iff_eq.2 h3
        have hCl := hc.lt
        have hsl5 : s.length ≤ 41 := by omega
        have HP := hide (And.intro hstep (And.intro hgood (And.intro hsl (And.intro hsvc (And.intro hfN (And.intro (show Fit ⟨k', fr', tg', ix', kids'⟩ from ⟨l2, l3, l4, l5⟩) (And.intro he hb)))))))
        have HX := hide hx
        have HZ := hide hz
        have HC := hide hc
        obtain ⟨x0, x1, x2, x3, x4⟩ := hx.cells
        have fx := hx.frozen
        have hxl := hx.lt
        have HCC := hide (And.intro c1 (And.intro c2 (And.intro c3 (And.intro c4 c5))))
        clear hul hsl hfN hx hz hc hgs hlw hlh h3 hkid hw' klen kat l1 l2 l3 l4 l5 c0 c1 c2 c3 c4 c5 hsvc hstep hgood hl1
        rcases hown with ⟨rfl, rfl⟩ | ⟨b, cap, cur, hne, rfl, hheap, hcs, hcb⟩
        · clear he hb
          have hA1 := alloc_below wr (.cells #[.int .i64 N.k, .string N.fr, .string N.tg, .int .i64 N.ix, .slice (some ⟨b', o, none⟩) N.kids.len kcap] ( /- t -/ 39))
          have hA2 := hA1.alloc (by simp) (.cells #[.slice none 0 0] ( /- t -/ 93))
          have hA := hA2.alloc (by simp; omega) (.cells #[(.func (.func ( /- f -/ 82)) #[] #[.pointer (some ⟨wr.heap.size, 0, none⟩), .pointer (some ⟨wr.heap.size + 1, 0, none⟩), .pointer (some ⟨C, 0, none⟩)])] ( /- t -/ 174))
          have hr1 := Box5.now wr (.int .i64 N.k) (.string N.fr) (.string N.tg) (.int .i64 N.ix) (.slice (some ⟨b', o, none⟩) N.kids.len kcap) ( /- t -/ 39)
          have hr2 := (hr1.below (alloc_below _ (.cells #[.slice none 0 0] ( /- t -/ 93)))).below (alloc_below _ (.cells #[(.func (.func ( /- f -/ 82)) #[] #[.pointer (some ⟨wr.heap.size, 0, none⟩), .pointer (some ⟨wr.heap.size + 1, 0, none⟩), .pointer (some ⟨C, 0, none⟩)])] ( /- t -/ 174)))
          have hout : (((wr.alloc (.cells #[.int .i64 N.k, .string N.fr, .string N.tg, .int .i64 N.ix, .slice (some ⟨b', o, none⟩) N.kids.len kcap] ( /- t -/ 39))).alloc (.cells #[.slice none 0 0] ( /- t -/ 93))).alloc (.cells #[(.func (.func ( /- f -/ 82)) #[] #[.pointer (some ⟨wr.heap.size, 0, none⟩), .pointer (some ⟨wr.heap.size + 1, 0, none⟩), .pointer (some ⟨C, 0, none⟩)])] ( /- t -/ 174))).cell? ⟨wr.heap.size + 1, 0, none⟩ = some (.slice none 0 0) := by
            have h := cell_of_heap (o := 0) (alloc_last (wr.alloc (.cells #[.int .i64 N.k, .string N.fr, .string N.tg, .int .i64 N.ix, .slice (some ⟨b', o, none⟩) N.kids.len kcap] ( /- t -/ 39))) #[.slice none 0 0] ( /- t -/ 93))
            rw [show (wr.alloc (.cells #[.int .i64 N.k, .string N.fr, .string N.tg, .int .i64 N.ix, .slice (some ⟨b', o, none⟩) N.kids.len kcap] ( /- t -/ 39))).heap.size = wr.heap.size + 1 by simp] at h
            exact Still.of_below (alloc_below _ (.cells #[(.func (.func ( /- f -/ 82)) #[] #[.pointer (some ⟨wr.heap.size, 0, none⟩), .pointer (some ⟨wr.heap.size + 1, 0, none⟩), .pointer (some ⟨C, 0, none⟩)])] ( /- t -/ 174))) _ _ (h.trans rfl)
          have hstA := Still.of_below hA
          have hnew : (((wr.alloc (.cells #[.int .i64 N.k, .string N.fr, .string N.tg, .int .i64 N.ix, .slice (some ⟨b', o, none⟩) N.kids.len kcap] ( /- t -/ 39))).alloc (.cells #[.slice none 0 0] ( /- t -/ 93))).alloc (.cells #[(.func (.func ( /- f -/ 82)) #[] #[.pointer (some ⟨wr.heap.size, 0, none⟩), .pointer (some ⟨wr.heap.size + 1, 0, none⟩), .pointer (some ⟨C, 0, none⟩)])] ( /- t -/ 174))).heap[wr.heap.size + 2]? = some (.cells #[(.func (.func ( /- f -/ 82)) #[] #[.pointer (some ⟨wr.heap.size, 0, none⟩), .pointer (some ⟨wr.heap.size + 1, 0, none⟩), .pointer (some ⟨C, 0, none⟩)])] ( /- t -/ 174) (0, 0)) := by
            have h := alloc_last ((wr.alloc (.cells #[.int .i64 N.k, .string N.fr, .string N.tg, .int .i64 N.ix, .slice (some ⟨b', o, none⟩) N.kids.len kcap] ( /- t -/ 39))).alloc (.cells #[.slice none 0 0] ( /- t -/ 93))) #[(.func (.func ( /- f -/ 82)) #[] #[.pointer (some ⟨wr.heap.size, 0, none⟩), .pointer (some ⟨wr.heap.size + 1, 0, none⟩), .pointer (some ⟨C, 0, none⟩)])] ( /- t -/ 174)
            rw [show ((wr.alloc (.cells #[.int .i64 N.k, .string N.fr, .string N.tg, .int .i64 N.ix, .slice (some ⟨b', o, none⟩) N.kids.len kcap] ( /- t -/ 39))).alloc (.cells #[.slice none 0 0] ( /- t -/ 93))).heap.size = wr.heap.size + 2 by simp] at h
            exact h
          have HNEW := hide hnew
          have hF : UwF w (((wr.alloc (.cells #[.int .i64 N.k, .string N.fr, .string N.tg, .int .i64 N.ix, .slice (some ⟨b', o, none⟩) N.kids.len kcap] ( /- t -/ 39))).alloc (.cells #[.slice none 0 0] ( /- t -/ 93))).alloc (.cells #[(.func (.func ( /- f -/ 82)) #[] #[.pointer (some ⟨wr.heap.size, 0, none⟩), .pointer (some ⟨wr.heap.size + 1, 0, none⟩), .pointer (some ⟨C, 0, none⟩)])] ( /- t -/ 174))) C wr.heap.size N (.slice (some ⟨b', o, none⟩) N.kids.len kcap) (.slice none 0 0) b' o ⟨k', fr', tg', ix', kids'⟩ (.slice sa kids'.len scap) [] := by
            obtain ⟨-, -, -, -, -, -, he, hb⟩ := HP.out
            obtain ⟨d1, d2, d3, d4, d5⟩ := HCC.out
            have hbA := hb.trans (hA.mono hb.size)
            have st := Still.of_below hbA
            exact ⟨HX.out.below hA, HZ.out.below hA, HC.out.below hA, he.still hstA, hr2.cells, hout, ⟨st _ _ d1, st _ _ d2, st _ _ d3, st _ _ d4, st _ _ d5⟩, hbA⟩
          have HFA := hide hF
          clear hA1 hA2 hr1 hr2 hout hF hstA hA hnew
          go_wp2_with (first | (at_builtin; go_loud (refine wpList_append_grows _ rfl _ _ ( /- t -/ 93) rfl ( /- t -/ 174) i0 .nilFunc 1 8 Tryd.underlying93 HI.out.1 HI.out.2.1 HI.out.2.2.1 HI.out.2.2.2 rfl (by omega) none 0 0 [] rfl (fun _ => ⟨rfl, rfl⟩) rfl (fun b hb => by cases hb) ⟨wr.heap.size + 2, 0, none⟩ 1 1 [(.func (.func ( /- f -/ 82)) #[] #[.pointer (some ⟨wr.heap.size, 0, none⟩), .pointer (some ⟨wr.heap.size + 1, 0, none⟩), .pointer (some ⟨C, 0, none⟩)])] rfl rfl (World.news_of_block (cs := #[(.func (.func ( /- f -/ 82)) #[] #[.pointer (some ⟨wr.heap.size, 0, none⟩), .pointer (some ⟨wr.heap.size + 1, 0, none⟩), .pointer (some ⟨C, 0, none⟩)])]) (t := ( /- t -/ 174)) (fr := (0, 0)) HNEW.out) (by simp [Value.oneCell']) (by omega) (by unfold maxLen; omega) (by omega) ?_; intro v' w6 hown6 hgr6; (have hF6 := HFA.out.below (grown_below hgr6)); (obtain ⟨x0, x1, x2, x3, x4⟩ := hF6.hx.cells); (have fx := hF6.hx.frozen); (have hxl := hF6.hx.lt); (obtain ⟨c1, c2, c3, c4, c5⟩ := hF6.hk); (have r4 := hF6.hr.2.2.2.2))) | fail)
          go_roundg n
          case rel =>
            obtain ⟨g2, cap2, rfl, e1, e2, e3, e4, e5, cur2, e6, e7⟩ := HFA.out.he.grow (olds := []) rfl (fun b hb => by cases hb) hown6 hgr6
            have hsz6 := hgr6.size
            obtain ⟨hstep, hgood, hsl, hsvc, hfN, hfc, -, -⟩ := HP.out
            simp at hsz6
            have hge : C < g2 := by simp at e3; omega
            have hstep2 : UlIs T n (vals (some N :: [])) ⟨k', fr', tg', ix', kids'⟩ := hstep
            have henv := EnvIs.cons e4 e1 e2 e5 hF6.hr hsl hfN hF6.ho hF6.he hCl
            have hown2 : EnvOwn w6 C (some N :: []) (.slice (some ⟨g2, 0, none⟩) ([].length + 1) cap2) := Or.inr ⟨g2, cap2, cur2, by simp, rfl, e6, e7, hge⟩
            have hres := UyRel.push (w := w) (w6 := w6) (c := C) (n := n) (T := T) (N := N) (C := ⟨k', fr', tg', ix', kids'⟩) (s := []) (svc := .slice sa kids'.len scap) hwc hstep2 hsvc hfc hsl hF6.hx hF6.hz hF6.hc henv hgood hown2 hF6.hb
            exact hres
          case measure => omega
        · clear he hb
          have hbl : b < wr.heap.size := (Array.getElem?_eq_some_iff.1 hheap).1
          have HHEAP := hide (And.intro hheap (And.intro hcs hne))
          clear hheap hcs hne
          by_cases hroom : s.length + 1 ≤ cap
          · have hA1 := alloc_below wr (.cells #[.int .i64 N.k, .string N.fr, .string N.tg, .int .i64 N.ix, .slice (some ⟨b', o, none⟩) N.kids.len kcap] ( /- t -/ 39))
            have hA2 := hA1.alloc (by simp) (.cells #[.slice (some ⟨b, 0, none⟩) s.length cap] ( /- t -/ 93))
            have hA := hA2.alloc (by simp; omega) (.cells #[(.func (.func ( /- f -/ 82)) #[] #[.pointer (some ⟨wr.heap.size, 0, none⟩), .pointer (some ⟨wr.heap.size + 1, 0, none⟩), .pointer (some ⟨C, 0, none⟩)])] ( /- t -/ 174))
            have hr1 := Box5.now wr (.int .i64 N.k) (.string N.fr) (.string N.tg) (.int .i64 N.ix) (.slice (some ⟨b', o, none⟩) N.kids.len kcap) ( /- t -/ 39)
            have hr2 := (hr1.below (alloc_below _ (.cells #[.slice (some ⟨b, 0, none⟩) s.length cap] ( /- t -/ 93)))).below (alloc_below _ (.cells #[(.func (.func ( /- f -/ 82)) #[] #[.pointer (some ⟨wr.heap.size, 0, none⟩), .pointer (some ⟨wr.heap.size + 1, 0, none⟩), .pointer (some ⟨C, 0, none⟩)])] ( /- t -/ 174)))
            have hout : (((wr.alloc (.cells #[.int .i64 N.k, .string N.fr, .string N.tg, .int .i64 N.ix, .slice (some ⟨b', o, none⟩) N.kids.len kcap] ( /- t -/ 39))).alloc (.cells #[.slice (some ⟨b, 0, none⟩) s.length cap] ( /- t -/ 93))).alloc (.cells #[(.func (.func ( /- f -/ 82)) #[] #[.pointer (some ⟨wr.heap.size, 0, none⟩), .pointer (some ⟨wr.heap.size + 1, 0, none⟩), .pointer (some ⟨C, 0, none⟩)])] ( /- t -/ 174))).cell? ⟨wr.heap.size + 1, 0, none⟩ = some (.slice (some ⟨b, 0, none⟩) s.length cap) := by
              have h := cell_of_heap (o := 0) (alloc_last (wr.alloc (.cells #[.int .i64 N.k, .string N.fr, .string N.tg, .int .i64 N.ix, .slice (some ⟨b', o, none⟩) N.kids.len kcap] ( /- t -/ 39))) #[.slice (some ⟨b, 0, none⟩) s.length cap] ( /- t -/ 93))
              rw [show (wr.alloc (.cells #[.int .i64 N.k, .string N.fr, .string N.tg, .int .i64 N.ix, .slice (some ⟨b', o, none⟩) N.kids.len kcap] ( /- t -/ 39))).heap.size = wr.heap.size + 1 by simp] at h
              exact Still.of_below (alloc_below _ (.cells #[(.func (.func ( /- f -/ 82)) #[] #[.pointer (some ⟨wr.heap.size, 0, none⟩), .pointer (some ⟨wr.heap.size + 1, 0, none⟩), .pointer (some ⟨C, 0, none⟩)])] ( /- t -/ 174))) _ _ (h.trans rfl)
            have hstA := Still.of_below hA
            have hnew : (((wr.alloc (.cells #[.int .i64 N.k, .string N.fr, .string N.tg, .int .i64 N.ix, .slice (some ⟨b', o, none⟩) N.kids.len kcap] ( /- t -/ 39))).alloc (.cells #[.slice (some ⟨b, 0, none⟩) s.length cap] ( /- t -/ 93))).alloc (.cells #[(.func (.func ( /- f -/ 82)) #[] #[.pointer (some ⟨wr.heap.size, 0, none⟩), .pointer (some ⟨wr.heap.size + 1, 0, none⟩), .pointer (some ⟨C, 0, none⟩)])] ( /- t -/ 174))).heap[wr.heap.size + 2]? = some (.cells #[(.func (.func ( /- f -/ 82)) #[] #[.pointer (some ⟨wr.heap.size, 0, none⟩), .pointer (some ⟨wr.heap.size + 1, 0, none⟩), .pointer (some ⟨C, 0, none⟩)])] ( /- t -/ 174) (0, 0)) := by
              have h := alloc_last ((wr.alloc (.cells #[.int .i64 N.k, .string N.fr, .string N.tg, .int .i64 N.ix, .slice (some ⟨b', o, none⟩) N.kids.len kcap] ( /- t -/ 39))).alloc (.cells #[.slice (some ⟨b, 0, none⟩) s.length cap] ( /- t -/ 93))) #[(.func (.func ( /- f -/ 82)) #[] #[.pointer (some ⟨wr.heap.size, 0, none⟩), .pointer (some ⟨wr.heap.size + 1, 0, none⟩), .pointer (some ⟨C, 0, none⟩)])] ( /- t -/ 174)
              rw [show ((wr.alloc (.cells #[.int .i64 N.k, .string N.fr, .string N.tg, .int .i64 N.ix, .slice (some ⟨b', o, none⟩) N.kids.len kcap] ( /- t -/ 39))).alloc (.cells #[.slice (some ⟨b, 0, none⟩) s.length cap] ( /- t -/ 93))).heap.size = wr.heap.size + 2 by simp] at h
              exact h
            have HNEW := hide hnew
            have hF : UwF w (((wr.alloc (.cells #[.int .i64 N.k, .string N.fr, .string N.tg, .int .i64 N.ix, .slice (some ⟨b', o, none⟩) N.kids.len kcap] ( /- t -/ 39))).alloc (.cells #[.slice (some ⟨b, 0, none⟩) s.length cap] ( /- t -/ 93))).alloc (.cells #[(.func (.func ( /- f -/ 82)) #[] #[.pointer (some ⟨wr.heap.size, 0, none⟩), .pointer (some ⟨wr.heap.size + 1, 0, none⟩), .pointer (some ⟨C, 0, none⟩)])] ( /- t -/ 174))) C wr.heap.size N (.slice (some ⟨b', o, none⟩) N.kids.len kcap) (.slice (some ⟨b, 0, none⟩) s.length cap) b' o ⟨k', fr', tg', ix', kids'⟩ (.slice sa kids'.len scap) s := by
              obtain ⟨-, -, -, -, -, -, he, hb⟩ := HP.out
              obtain ⟨d1, d2, d3, d4, d5⟩ := HCC.out
              have hbA := hb.trans (hA.mono hb.size)
              have st := Still.of_below hbA
              exact ⟨HX.out.below hA, HZ.out.below hA, HC.out.below hA, he.still hstA, hr2.cells, hout, ⟨st _ _ d1, st _ _ d2, st _ _ d3, st _ _ d4, st _ _ d5⟩, hbA⟩
            have HFA := hide hF
            clear hA1 hA2 hr1 hr2 hout hF hstA hA hnew
            obtain ⟨olds, hol1, hol2⟩ := HFA.out.he.olds
            have hol3 : ∀ j u, olds[j]? = some u → (((wr.alloc (.cells #[.int .i64 N.k, .string N.fr, .string N.tg, .int .i64 N.ix, .slice (some ⟨b', o, none⟩) N.kids.len kcap] ( /- t -/ 39))).alloc (.cells #[.slice (some ⟨b, 0, none⟩) s.length cap] ( /- t -/ 93))).alloc (.cells #[(.func (.func ( /- f -/ 82)) #[] #[.pointer (some ⟨wr.heap.size, 0, none⟩), .pointer (some ⟨wr.heap.size + 1, 0, none⟩), .pointer (some ⟨C, 0, none⟩)])] ( /- t -/ 174))).cell? ⟨b, 0 + j, none⟩ = some u := fun j u hu => by
              have := hol2 _ rfl j u hu
              rw [Addr.add_lit] at this
              exact this
            have HFO := hide hol3
            clear hol2 hol3
            have hhA : (((wr.alloc (.cells #[.int .i64 N.k, .string N.fr, .string N.tg, .int .i64 N.ix, .slice (some ⟨b', o, none⟩) N.kids.len kcap] ( /- t -/ 39))).alloc (.cells #[.slice (some ⟨b, 0, none⟩) s.length cap] ( /- t -/ 93))).alloc (.cells #[(.func (.func ( /- f -/ 82)) #[] #[.pointer (some ⟨wr.heap.size, 0, none⟩), .pointer (some ⟨wr.heap.size + 1, 0, none⟩), .pointer (some ⟨C, 0, none⟩)])] ( /- t -/ 174))).heap[b]? = some (.cells cur ( /- t -/ 174) (0, 0)) := by
              rw [Below.heap_alloc _ _ _ (by simp; omega), Below.heap_alloc _ _ _ (by simp; omega), Below.heap_alloc _ _ _ hbl]
              exact HHEAP.out.1
            have HHA := hide hhA
            clear hhA
            have hspare : Hid (∀ j, j < 1 → ((((wr.alloc (.cells #[.int .i64 N.k, .string N.fr, .string N.tg, .int .i64 N.ix, .slice (some ⟨b', o, none⟩) N.kids.len kcap] ( /- t -/ 39))).alloc (.cells #[.slice (some ⟨b, 0, none⟩) s.length cap] ( /- t -/ 93))).alloc (.cells #[(.func (.func ( /- f -/ 82)) #[] #[.pointer (some ⟨wr.heap.size, 0, none⟩), .pointer (some ⟨wr.heap.size + 1, 0, none⟩), .pointer (some ⟨C, 0, none⟩)])] ( /- t -/ 174))).cell? ⟨b, 0 + s.length * 1 + j, none⟩).isSome = true ∧ (((wr.alloc (.cells #[.int .i64 N.k, .string N.fr, .string N.tg, .int .i64 N.ix, .slice (some ⟨b', o, none⟩) N.kids.len kcap] ( /- t -/ 39))).alloc (.cells #[.slice (some ⟨b, 0, none⟩) s.length cap] ( /- t -/ 93))).alloc (.cells #[(.func (.func ( /- f -/ 82)) #[] #[.pointer (some ⟨wr.heap.size, 0, none⟩), .pointer (some ⟨wr.heap.size + 1, 0, none⟩), .pointer (some ⟨C, 0, none⟩)])] ( /- t -/ 174))).frozen? ⟨b, 0 + s.length * 1 + j, none⟩ = false) := hide (fun j hj => by
              have hj0 : j = 0 := by omega
              subst hj0
              have hlt : s.length < cur.size := by rw [HHEAP.out.2.1]; omega
              constructor
              · rw [cell_of_heap HHA.out]
                simp [hlt]
              · simp [World.frozen?, HHA.out])
            go_wp2_with (first | (at_builtin; go_loud (refine wpList_append_arg _ rfl _ _ ( /- t -/ 93) rfl ( /- t -/ 174) i0 .nilFunc 1 8 Tryd.underlying93 HI.out.1 HI.out.2.1 HI.out.2.2.1 HI.out.2.2.2 rfl (by omega) b 0 s.length cap olds rfl (by omega) HFO.out ⟨wr.heap.size + 2, 0, none⟩ 1 1 [(.func (.func ( /- f -/ 82)) #[] #[.pointer (some ⟨wr.heap.size, 0, none⟩), .pointer (some ⟨wr.heap.size + 1, 0, none⟩), .pointer (some ⟨C, 0, none⟩)])] rfl rfl (World.news_of_block (cs := #[(.func (.func ( /- f -/ 82)) #[] #[.pointer (some ⟨wr.heap.size, 0, none⟩), .pointer (some ⟨wr.heap.size + 1, 0, none⟩), .pointer (some ⟨C, 0, none⟩)])]) (t := ( /- t -/ 174)) (fr := (0, 0)) HNEW.out) (by simp [Value.oneCell']) (fun _ => hspare.out) (by unfold maxLen; omega) (by omega) ?_ (fun h => absurd h (by omega)); intro _; (obtain ⟨w6, hw6⟩ : ∃ w6, w6 = World.setCells (((wr.alloc (.cells #[.int .i64 N.k, .string N.fr, .string N.tg, .int .i64 N.ix, .slice (some ⟨b', o, none⟩) N.kids.len kcap] ( /- t -/ 39))).alloc (.cells #[.slice (some ⟨b, 0, none⟩) s.length cap] ( /- t -/ 93))).alloc (.cells #[(.func (.func ( /- f -/ 82)) #[] #[.pointer (some ⟨wr.heap.size, 0, none⟩), .pointer (some ⟨wr.heap.size + 1, 0, none⟩), .pointer (some ⟨C, 0, none⟩)])] ( /- t -/ 174))) b (0 + s.length * 1) [(.func (.func ( /- f -/ 82)) #[] #[.pointer (some ⟨wr.heap.size, 0, none⟩), .pointer (some ⟨wr.heap.size + 1, 0, none⟩), .pointer (some ⟨C, 0, none⟩)])] := ⟨_, rfl⟩); (rw [← hw6]); (have hw7 : w6 = (((wr.alloc (.cells #[.int .i64 N.k, .string N.fr, .string N.tg, .int .i64 N.ix, .slice (some ⟨b', o, none⟩) N.kids.len kcap] ( /- t -/ 39))).alloc (.cells #[.slice (some ⟨b, 0, none⟩) s.length cap] ( /- t -/ 93))).alloc (.cells #[(.func (.func ( /- f -/ 82)) #[] #[.pointer (some ⟨wr.heap.size, 0, none⟩), .pointer (some ⟨wr.heap.size + 1, 0, none⟩), .pointer (some ⟨C, 0, none⟩)])] ( /- t -/ 174))).setCell ⟨b, s.length, none⟩ (.func (.func ( /- f -/ 82)) #[] #[.pointer (some ⟨wr.heap.size, 0, none⟩), .pointer (some ⟨wr.heap.size + 1, 0, none⟩), .pointer (some ⟨C, 0, none⟩)]) := by rw [hw6, Nat.mul_one, Nat.zero_add]; rfl); (have hF6 := HFA.out.set ⟨b, s.length, none⟩ (.func (.func ( /- f -/ 82)) #[] #[.pointer (some ⟨wr.heap.size, 0, none⟩), .pointer (some ⟨wr.heap.size + 1, 0, none⟩), .pointer (some ⟨C, 0, none⟩)]) (by show w.heap.size + 1 < b; omega) (by show b ≠ C; omega) (by show b ≠ wr.heap.size; omega) (by show b ≠ wr.heap.size + 1; omega) hbw (EnvIs.room HFA.out.he _)); (rw [← hw7] at hF6); (have HW7 := hide hw7); (clear hw6 hw7); (obtain ⟨x0, x1, x2, x3, x4⟩ := hF6.hx.cells); (have fx := hF6.hx.frozen); (have hxl := hF6.hx.lt); (obtain ⟨c1, c2, c3, c4, c5⟩ := hF6.hk); (have r4 := hF6.hr.2.2.2.2))) | fail)
            go_roundg n
            case rel =>
              have e4 := EnvIs.room HFA.out.he (.func (.func ( /- f -/ 82)) #[] #[.pointer (some ⟨wr.heap.size, 0, none⟩), .pointer (some ⟨wr.heap.size + 1, 0, none⟩), .pointer (some ⟨C, 0, none⟩)])
              have e5 : ((((wr.alloc (.cells #[.int .i64 N.k, .string N.fr, .string N.tg, .int .i64 N.ix, .slice (some ⟨b', o, none⟩) N.kids.len kcap] ( /- t -/ 39))).alloc (.cells #[.slice (some ⟨b, 0, none⟩) s.length cap] ( /- t -/ 93))).alloc (.cells #[(.func (.func ( /- f -/ 82)) #[] #[.pointer (some ⟨wr.heap.size, 0, none⟩), .pointer (some ⟨wr.heap.size + 1, 0, none⟩), .pointer (some ⟨C, 0, none⟩)])] ( /- t -/ 174))).setCell ⟨b, s.length, none⟩ (.func (.func ( /- f -/ 82)) #[] #[.pointer (some ⟨wr.heap.size, 0, none⟩), .pointer (some ⟨wr.heap.size + 1, 0, none⟩), .pointer (some ⟨C, 0, none⟩)])).cell? ⟨b, s.length, none⟩ = some (.func (.func ( /- f -/ 82)) #[] #[.pointer (some ⟨wr.heap.size, 0, none⟩), .pointer (some ⟨wr.heap.size + 1, 0, none⟩), .pointer (some ⟨C, 0, none⟩)]) := by
                have hlt : s.length < cur.size := by rw [HHEAP.out.2.1]; omega
                have h8 := cell_of_heap (o := s.length) HHA.out
                rw [Array.getElem?_eq_getElem hlt] at h8
                exact World.cell?_setCell_same _ _ _ h8
              have e6 : ((((wr.alloc (.cells #[.int .i64 N.k, .string N.fr, .string N.tg, .int .i64 N.ix, .slice (some ⟨b', o, none⟩) N.kids.len kcap] ( /- t -/ 39))).alloc (.cells #[.slice (some ⟨b, 0, none⟩) s.length cap] ( /- t -/ 93))).alloc (.cells #[(.func (.func ( /- f -/ 82)) #[] #[.pointer (some ⟨wr.heap.size, 0, none⟩), .pointer (some ⟨wr.heap.size + 1, 0, none⟩), .pointer (some ⟨C, 0, none⟩)])] ( /- t -/ 174))).setCell ⟨b, s.length, none⟩ (.func (.func ( /- f -/ 82)) #[] #[.pointer (some ⟨wr.heap.size, 0, none⟩), .pointer (some ⟨wr.heap.size + 1, 0, none⟩), .pointer (some ⟨C, 0, none⟩)])).heap[b]? = some (.cells (cur.setIfInBounds s.length (.func (.func ( /- f -/ 82)) #[] #[.pointer (some ⟨wr.heap.size, 0, none⟩), .pointer (some ⟨wr.heap.size + 1, 0, none⟩), .pointer (some ⟨C, 0, none⟩)])) ( /- t -/ 174) (0, 0)) := by
                have h8 := HHA.out
                simp [World.setCell, Array.getElem?_modify, h8]
              rw [← HW7.out] at e4 e5 e6
              have hcm := HFA.out.he.form
              obtain ⟨_, _, hfe, _, hcm, _⟩ := hcm
              simp only [Value.slice.injEq, true_and] at hfe
              obtain ⟨rfl, rfl⟩ := hfe
              obtain ⟨hstep, hgood, hsl, hsvc, hfN, hfc, -, -⟩ := HP.out
              have hstep2 : UlIs T n (vals (some N :: s)) ⟨k', fr', tg', ix', kids'⟩ := hstep
              have henv := EnvIs.cons e4 hroom hcm e5 hF6.hr hsl hfN hF6.ho hF6.he hCl
              have hown2 : EnvOwn w6 C (some N :: s) (.slice (some ⟨b, 0, none⟩) (s.length + 1) cap) := Or.inr ⟨b, cap, _, by simp, rfl, e6, by rw [Array.size_setIfInBounds]; exact HHEAP.out.2.1, hcb⟩
              have hres := UyRel.push (w := w) (w6 := w6) (c := C) (n := n) (T := T) (N := N) (C := ⟨k', fr', tg', ix', kids'⟩) (s := s) (svc := .slice sa kids'.len scap) hwc hstep2 hsvc hfc hsl hF6.hx hF6.hz hF6.hc henv hgood hown2 hF6.hb
              exact hres
            case measure => omega
          · have hA1 := alloc_below wr (.cells #[.int .i64 N.k, .string N.fr, .string N.tg, .int .i64 N.ix, .slice (some ⟨b', o, none⟩) N.kids.len kcap] ( /- t -/ 39))
            have hA2 := hA1.alloc (by simp) (.cells #[.slice (some ⟨b, 0, none⟩) s.length cap] ( /- t -/ 93))
            have hA := hA2.alloc (by simp; omega) (.cells #[(.func (.func ( /- f -/ 82)) #[] #[.pointer (some ⟨wr.heap.size, 0, none⟩), .pointer (some ⟨wr.heap.size + 1, 0, none⟩), .pointer (some ⟨C, 0, none⟩)])] ( /- t -/ 174))
            have hr1 := Box5.now wr (.int .i64 N.k) (.string N.fr) (.string N.tg) (.int .i64 N.ix) (.slice (some ⟨b', o, none⟩) N.kids.len kcap) ( /- t -/ 39)
            have hr2 := (hr1.below (alloc_below _ (.cells #[.slice (some ⟨b, 0, none⟩) s.length cap] ( /- t -/ 93)))).below (alloc_below _ (.cells #[(.func (.func ( /- f -/ 82)) #[] #[.pointer (some ⟨wr.heap.size, 0, none⟩), .pointer (some ⟨wr.heap.size + 1, 0, none⟩), .pointer (some ⟨C, 0, none⟩)])] ( /- t -/ 174)))
            have hout : (((wr.alloc (.cells #[.int .i64 N.k, .string N.fr, .string N.tg, .int .i64 N.ix, .slice (some ⟨b', o, none⟩) N.kids.len kcap] ( /- t -/ 39))).alloc (.cells #[.slice (some ⟨b, 0, none⟩) s.length cap] ( /- t -/ 93))).alloc (.cells #[(.func (.func ( /- f -/ 82)) #[] #[.pointer (some ⟨wr.heap.size, 0, none⟩), .pointer (some ⟨wr.heap.size + 1, 0, none⟩), .pointer (some ⟨C, 0, none⟩)])] ( /- t -/ 174))).cell? ⟨wr.heap.size + 1, 0, none⟩ = some (.slice (some ⟨b, 0, none⟩) s.length cap) := by
              have h := cell_of_heap (o := 0) (alloc_last (wr.alloc (.cells #[.int .i64 N.k, .string N.fr, .string N.tg, .int .i64 N.ix, .slice (some ⟨b', o, none⟩) N.kids.len kcap] ( /- t -/ 39))) #[.slice (some ⟨b, 0, none⟩) s.length cap] ( /- t -/ 93))
              rw [show (wr.alloc (.cells #[.int .i64 N.k, .string N.fr, .string N.tg, .int .i64 N.ix, .slice (some ⟨b', o, none⟩) N.kids.len kcap] ( /- t -/ 39))).heap.size = wr.heap.size + 1 by simp] at h
              exact Still.of_below (alloc_below _ (.cells #[(.func (.func ( /- f -/ 82)) #[] #[.pointer (some ⟨wr.heap.size, 0, none⟩), .pointer (some ⟨wr.heap.size + 1, 0, none⟩), .pointer (some ⟨C, 0, none⟩)])] ( /- t -/ 174))) _ _ (h.trans rfl)
            have hstA := Still.of_below hA
            have hnew : (((wr.alloc (.cells #[.int .i64 N.k, .string N.fr, .string N.tg, .int .i64 N.ix, .slice (some ⟨b', o, none⟩) N.kids.len kcap] ( /- t -/ 39))).alloc (.cells #[.slice (some ⟨b, 0, none⟩) s.length cap] ( /- t -/ 93))).alloc (.cells #[(.func (.func ( /- f -/ 82)) #[] #[.pointer (some ⟨wr.heap.size, 0, none⟩), .pointer (some ⟨wr.heap.size + 1, 0, none⟩), .pointer (some ⟨C, 0, none⟩)])] ( /- t -/ 174))).heap[wr.heap.size + 2]? = some (.cells #[(.func (.func ( /- f -/ 82)) #[] #[.pointer (some ⟨wr.heap.size, 0, none⟩), .pointer (some ⟨wr.heap.size + 1, 0, none⟩), .pointer (some ⟨C, 0, none⟩)])] ( /- t -/ 174) (0, 0)) := by
              have h := alloc_last ((wr.alloc (.cells #[.int .i64 N.k, .string N.fr, .string N.tg, .int .i64 N.ix, .slice (some ⟨b', o, none⟩) N.kids.len kcap] ( /- t -/ 39))).alloc (.cells #[.slice (some ⟨b, 0, none⟩) s.length cap] ( /- t -/ 93))) #[(.func (.func ( /- f -/ 82)) #[] #[.pointer (some ⟨wr.heap.size, 0, none⟩), .pointer (some ⟨wr.heap.size + 1, 0, none⟩), .pointer (some ⟨C, 0, none⟩)])] ( /- t -/ 174)
              rw [show ((wr.alloc (.cells #[.int .i64 N.k, .string N.fr, .string N.tg, .int .i64 N.ix, .slice (some ⟨b', o, none⟩) N.kids.len kcap] ( /- t -/ 39))).alloc (.cells #[.slice (some ⟨b, 0, none⟩) s.length cap] ( /- t -/ 93))).heap.size = wr.heap.size + 2 by simp] at h
              exact h
            have HNEW := hide hnew
            have hF : UwF w (((wr.alloc (.cells #[.int .i64 N.k, .string N.fr, .string N.tg, .int .i64 N.ix, .slice (some ⟨b', o, none⟩) N.kids.len kcap] ( /- t -/ 39))).alloc (.cells #[.slice (some ⟨b, 0, none⟩) s.length cap] ( /- t -/ 93))).alloc (.cells #[(.func (.func ( /- f -/ 82)) #[] #[.pointer (some ⟨wr.heap.size, 0, none⟩), .pointer (some ⟨wr.heap.size + 1, 0, none⟩), .pointer (some ⟨C, 0, none⟩)])] ( /- t -/ 174))) C wr.heap.size N (.slice (some ⟨b', o, none⟩) N.kids.len kcap) (.slice (some ⟨b, 0, none⟩) s.length cap) b' o ⟨k', fr', tg', ix', kids'⟩ (.slice sa kids'.len scap) s := by
              obtain ⟨-, -, -, -, -, -, he, hb⟩ := HP.out
              obtain ⟨d1, d2, d3, d4, d5⟩ := HCC.out
              have hbA := hb.trans (hA.mono hb.size)
              have st := Still.of_below hbA
              exact ⟨HX.out.below hA, HZ.out.below hA, HC.out.below hA, he.still hstA, hr2.cells, hout, ⟨st _ _ d1, st _ _ d2, st _ _ d3, st _ _ d4, st _ _ d5⟩, hbA⟩
            have HFA := hide hF
            clear hA1 hA2 hr1 hr2 hout hF hstA hA hnew
            obtain ⟨olds, hol1, hol2⟩ := HFA.out.he.olds
            have HFO := hide hol2
            clear hol2
            go_wp2_with (first | (at_builtin; go_loud (refine wpList_append_grows _ rfl _ _ ( /- t -/ 93) rfl ( /- t -/ 174) i0 .nilFunc 1 8 Tryd.underlying93 HI.out.1 HI.out.2.1 HI.out.2.2.1 HI.out.2.2.2 rfl (by omega) (some ⟨b, 0, none⟩) s.length cap olds rfl (fun e => by cases e) (by omega) (fun b hb j u hu => HFO.out b hb j u hu) ⟨wr.heap.size + 2, 0, none⟩ 1 1 [(.func (.func ( /- f -/ 82)) #[] #[.pointer (some ⟨wr.heap.size, 0, none⟩), .pointer (some ⟨wr.heap.size + 1, 0, none⟩), .pointer (some ⟨C, 0, none⟩)])] rfl rfl (World.news_of_block (cs := #[(.func (.func ( /- f -/ 82)) #[] #[.pointer (some ⟨wr.heap.size, 0, none⟩), .pointer (some ⟨wr.heap.size + 1, 0, none⟩), .pointer (some ⟨C, 0, none⟩)])]) (t := ( /- t -/ 174)) (fr := (0, 0)) HNEW.out) (by simp [Value.oneCell']) (by omega) (by unfold maxLen; omega) (by omega) ?_; intro v' w6 hown6 hgr6; (have hF6 := HFA.out.below (grown_below hgr6)); (obtain ⟨x0, x1, x2, x3, x4⟩ := hF6.hx.cells); (have fx := hF6.hx.frozen); (have hxl := hF6.hx.lt); (obtain ⟨c1, c2, c3, c4, c5⟩ := hF6.hk); (have r4 := hF6.hr.2.2.2.2))) | fail)
            go_roundg n
            case rel =>
              obtain ⟨g2, cap2, rfl, e1, e2, e3, e4, e5, cur2, e6, e7⟩ := HFA.out.he.grow hol1 HFO.out hown6 hgr6
              have hsz6 := hgr6.size
              obtain ⟨hstep, hgood, hsl, hsvc, hfN, hfc, -, -⟩ := HP.out
              simp at hsz6
              have hge : C < g2 := by simp at e3; omega
              have hstep2 : UlIs T n (vals (some N :: s)) ⟨k', fr', tg', ix', kids'⟩ := hstep
              have henv := EnvIs.cons e4 e1 e2 e5 hF6.hr hsl hfN hF6.ho hF6.he hCl
              have hown2 : EnvOwn w6 C (some N :: s) (.slice (some ⟨g2, 0, none⟩) (s.length + 1) cap2) := Or.inr ⟨g2, cap2, cur2, by simp, rfl, e6, e7, hge⟩
              have hres := UyRel.push (w := w) (w6 := w6) (c := C) (n := n) (T := T) (N := N) (C := ⟨k', fr', tg', ix', kids'⟩) (s := s) (svc := .slice sa kids'.len scap) hwc hstep2 hsvc hfc hsl hF6.hx hF6.hz hF6.hc henv hgood hown2 hF6.hb
              exact hres
            case measure => omega
      · have hT2 : cpN (vals s) N = T := hul.stop h3
        have hq : (N.k == 3) = false := beq_eq_false_iff_ne.2 h3
        have hcall := cp_all (puts s) (N.kids.sz + 1) w wr C 0 1 N.k N.ix N.fr N.tg sv' u5 N.kids s (Nat.lt_succ_self _) rfl hb (by omega) (by simpa using hc) (by omega) (by omega) (by omega) he hgs (by unfold hN at hlh; omega) (wN_u _ _ _ _ hlw (by omega)) hfN hsl
        rw [show (⟨N.k, N.fr, N.tg, N.ix, N.kids⟩ : Nd) = N from rfl, hT2] at hcall
        have HCALL := hide hcall
        obtain ⟨x0, x1, x2, x3, x4⟩ := hx.cells
        have hxl := hx.lt
        have hCl := hc.lt
        have HZ := hide hz
        have HB := hide hb
        clear hul hsl hfN hx hz hc he hgs hown hb hlw hlh h3 hT2 hcall
        go_wp2_with fail
        refine HCALL.out.mono ?_
        rintro e w3 ⟨m3, ho3, hc3, hcase⟩
        have hz3 := HZ.out.only ho3 (by omega)
        obtain ⟨z0, z1, z2, z3, z4⟩ := hz3.cells
        have fz := hz3.frozen
        have hzl := hz3.lt
        have hz0 := HZ.out.lt
        have HB3 := hide (HB.out.trans (ho3.to_below (by omega) HB.out.size))
        clear ho3 hc3 hz3
        rcases hcase with ⟨h1, h2, h3, u, ks, rfl, how, hks, hknd⟩ | ⟨h1, rfl⟩
        · obtain ⟨ua, uc, rfl⟩ := how.val
          have HW := hide how
          have HK := hide hks
          have hok : unfOk g = true := by
            rw [HOK.out, ← HT.out, decide_eq_true (by unfold hN; omega), decide_eq_true (by omega)]
            rfl
          have HR := hide hok
          clear how hks h1 h2 h3 hok
          go_wp2_with fail
          refine bodyPost_ret (v := .tuple #[.agg #[.int .i64 T.k, .string T.fr, .string T.tg, .int .i64 T.ix, .slice ua T.kids.len uc], .bool true]) (by simp [results, Tryd.results30, go_sem, *]) rfl ?_
          have e1 : unfR g = T := by unfold unfR; rw [HR.out, HT.out]; rfl
          rw [HR.out, e1]
          have q : ∀ b, b ∈ ks → w.heap.size + 1 < b := fun b h => by have := HK.out b h; omega
          refine ⟨_, ks, rfl, HW.out.same ?_, fun b h => by have := q b h; omega, hknd, ?_⟩
          · repeat (refine Same.setCell ?_ (fun b h => by have := q b h; simp; omega) _)
            exact Same.refl _ _
          · repeat (refine Below.setCell ?_ (by first | (simp; done) | (simp; omega)) _)
            exact HB3.out
        · have hok : unfOk g = false := by
            rw [HOK.out, ← HT.out]
            by_cases ha : hN T ≤ 40
            · rw [decide_eq_true ha, Bool.true_and]
              refine decide_eq_false (fun hc => h1 ⟨by omega, ?_⟩)
              unfold hN at ha
              omega
            · rw [decide_eq_false ha, Bool.false_and]
          have HR := hide hok
          clear h1 hok
          go_wp2_with fail
          refine bodyPost_ret (v := .tuple #[.agg #[.int .i64 0, .string ⟨#[]⟩, .string ⟨#[]⟩, .int .i64 0, .slice none 0 0], .bool false]) (by simp [results, Tryd.results30, go_sem, *]) rfl ?_
          have e1 : unfR g = zeroNd := by unfold unfR; rw [HR.out]; rfl
          rw [HR.out, e1]
          refine MadeR.zero ?_
          repeat (refine Below.setCell ?_ (by first | (simp; done) | (simp; omega)) _)
          exact HB3.out

end Go.Proofs.YtgcefippeokmcaaDoor

/- What the walks of the drawn laws share: a tree in a box. -/
namespace Go.Proofs.YtgcefippeokmcaaDoor
open Go.RowKit

/-- A tree in a box, in memory of its own. -/
structure Nv (w : World) (b : Nat) (g : Nd) (u : Value) : Prop where
  box : Box5 w b (.int .i64 g.k) (.string g.fr) (.string g.tg) (.int .i64 g.ix) u
  own : ∃ bs, Ow w u g.kids bs
theorem Nv.sl {w : World} {b : Nat} {g : Nd} {u : Value} (h : Nv w b g u) : Sl w u g.kids := by
  obtain ⟨bs, h⟩ := h.own
  exact h.sl
theorem Nv.below {w w' : World} {b : Nat} {g : Nd} {u : Value} (h : Nv w b g u) (hb : Below w.heap.size w w') : Nv w' b g u := by
  obtain ⟨bs, h2⟩ := h.own
  exact ⟨h.box.below hb, bs, h2.same (Same.of_below hb h2.lt)⟩
theorem Nv.drew {w : World} {b : Nat} {g : Nd} {u : Value} (h : Nv w b g u) : Nv w.drew b g u := h.below (Below.refl _ _).drew
theorem Nv.lt {w : World} {b : Nat} {g : Nd} {u : Value} (h : Nv w b g u) : b < w.heap.size := h.box.lt
/-- A new box. -/
theorem Nv.now {w : World} {g : Nd} {u : Value} {bs : List Nat} (h : Ow w u g.kids bs) (t : TypeId) : Nv (w.alloc (.cells #[.int .i64 g.k, .string g.fr, .string g.tg, .int .i64 g.ix, u] t)) w.heap.size g u :=
  ⟨Box5.now w _ _ _ _ _ t, bs, h.same (Same.of_below (alloc_below w _) h.lt)⟩
theorem sameF_refl : ∀ f : F, sameF f f = true
  | .nil => rfl
  | .cons lab k fr tg ix kids rest => by simp [sameF, headB, sameF_refl kids, sameF_refl rest]
theorem sameN_refl (g : Nd) : sameN g.k g.fr g.tg g.ix g.kids g.k g.fr g.tg g.ix g.kids = true := by
  unfold sameN
  rw [sameF_refl]
  simp [headB]
/-- Equality of a tree with itself. -/
theorem same_self (w : World) (g : Nd) (u u' : Value) (h : ∃ bs, Ow w u g.kids bs) (h' : ∃ bs, Ow w u' g.kids bs) (hsz : g.kids.sz ≤ 1048576) :
    Calls Tryd.prog 32 #[.agg #[.int .i64 g.k, .string g.fr, .string g.tg, .int .i64 g.ix, u], .agg #[.int .i64 g.k, .string g.fr, .string g.tg, .int .i64 g.ix, u']] w fun e w' => e = .returned (.bool true) ∧ Below w.heap.size w w' := by
  obtain ⟨bs, h⟩ := h
  obtain ⟨bs', h'⟩ := h'
  refine (implSame w g.k g.ix g.k g.ix g.fr g.tg g.fr g.tg u u' g.kids g.kids bs bs' h h' hsz).mono ?_
  rintro e w' ⟨rfl, hb⟩
  rw [sameN_refl]
  exact ⟨rfl, hb⟩
theorem unfR_sz (g : Nd) : (unfR g).kids.sz ≤ 1048576 := by
  unfold unfR
  split
  · rename_i h
    unfold unfOk at h
    simp only [Bool.and_eq_true] at h
    have := (okG_w h.2).2.2
    omega
  · exact Nat.zero_le _
theorem zeroNd_fit : Fit zeroNd := ⟨Nat.zero_le _, Nat.zero_le _, show (Lit.int .i64 0).wf = true by decide, show (Lit.int .i64 0).wf = true by decide⟩
end Go.Proofs.YtgcefippeokmcaaDoor

/- StepGlobal: what it gives, and StepGlobal of the model and of the program. -/
namespace Go.Proofs.YtgcefippeokmcaaDoor
open Go.RowKit

/-- The first branch with the label. -/
def findF : F → ByteArray → Option Nd
  | .nil, _ => none
  | .cons lab k fr tg ix kids rest, s => if (lab.toList == s.toList) = true then some ⟨k, fr, tg, ix, kids⟩ else findF rest s
def stepO (g : Nd) (s : ByteArray) : Option Nd := if unfOk g then findF (unf g).kids s else none
def stepR (g : Nd) (s : ByteArray) : Nd := (stepO g s).getD zeroNd
def stepOk (g : Nd) (s : ByteArray) : Bool := (stepO g s).isSome

theorem stepO_of {g : Nd} {s : ByteArray} : stepO g s = findF (unfR g).kids s := by
  unfold stepO unfR
  cases unfOk g <;> rfl

theorem unfN_k : ∀ (n : Nat) (s : List (Option Nd)) (N : Nd), wN N (s.length : Int) (s.length : Int) = true → N.kids.sz < n → (unfN n s N).k ≠ 3 ∧ (unfN n s N).k ≠ 4 := by
  intro n
  induction n with
  | zero => intro s N _ h; omega
  | succ n ih =>
    intro s N hw hz
    unfold unfN
    by_cases h3 : N.k = 3
    · obtain ⟨lab, k, fr, tg, ix, kids, e, hw'⟩ := rec_kid hw h3
      rw [if_pos h3, e]
      rw [e] at hz
      simp only [F.sz] at hz
      simp only
      refine ih _ _ ?_ (by simp only; omega)
      rw [show (((some (cpN s N) :: s).length : Nat) : Int) = (s.length : Int) + 1 by simp]
      exact hw'
    · have hv := not_var hw
      rw [if_neg h3, cpN_k hv]
      exact ⟨h3, hv⟩

/-- What follows a valid unfolded type's first message is valid. -/
theorem step_valid {g : Nd} (h : unfOk g = true) {p rest : F} {lab : ByteArray} {k ix : Int} {fr tg : ByteArray} {kids : F} (he : (unf g).kids = p.app (.cons lab k fr tg ix kids rest)) : okN k fr tg ix kids = true := by
  unfold unfOk at h
  simp only [Bool.and_eq_true] at h
  obtain ⟨hw, hh, hz⟩ := okG_w h.2
  obtain ⟨hgw, -, -⟩ := okG_w h.1
  obtain ⟨h3, h4⟩ := unfN_k (g.kids.sz + 1) [] g hgw (Nat.lt_succ_self _)
  have hne : (unf g).kids ≠ .nil := by
    rw [he]
    intro e
    have := congrArg F.len e
    rw [F.len_app] at this
    simp only [F.len] at this
    omega
  have hw2 := hw
  unfold wN at hw2
  simp only [Bool.and_eq_true] at hw2
  obtain ⟨hs, hk⟩ := hw2
  have h2 : (unf g).k = 2 := by
    by_cases h2 : (unf g).k = 2
    · exact h2
    · exact absurd (shape_leaf hs h2 h3) hne
  rw [if_neg (by omega), if_neg (by omega), if_pos h2, he, wF_app] at hk
  simp only [wF, Bool.and_eq_true] at hk
  have hc : wN ⟨k, fr, tg, ix, kids⟩ 0 0 = true := by
    unfold wN
    simp only [Bool.and_eq_true]
    exact hk.2.1
  have := okG_of_w hc
  show okG ⟨k, fr, tg, ix, kids⟩ = true
  rw [this]
  unfold hN at hh ⊢
  rw [he, hF_app] at hh
  rw [he, F.sz_app] at hz
  simp only [hF, F.sz] at hh hz
  rw [decide_eq_true (by simp only; omega), decide_eq_true (by simp only; omega)]
  rfl

/-- One branch of a tree of the call's own. -/
theorem Ow.sub {w : World} {u : Value} {f : F} {bs : List Nat} (h : Ow w u f bs) (hn : bs.Nodup) {p rest : F} {lab : ByteArray} {k ix : Int} {fr tg : ByteArray} {kids : F} (he : f = p.app (.cons lab k fr tg ix kids rest)) :
    ∃ b cap a c ks, u = .slice (some ⟨b, 0, none⟩) f.len cap ∧ w.cell? ⟨b, p.len * 6, none⟩ = some (.string lab) ∧ w.cell? ⟨b, p.len * 6 + 1, none⟩ = some (.int .i64 k) ∧ w.cell? ⟨b, p.len * 6 + 2, none⟩ = some (.string fr) ∧ w.cell? ⟨b, p.len * 6 + 3, none⟩ = some (.string tg) ∧
      w.cell? ⟨b, p.len * 6 + 4, none⟩ = some (.int .i64 ix) ∧ w.cell? ⟨b, p.len * 6 + 5, none⟩ = some (.slice a kids.len c) ∧ Ow w (.slice a kids.len c) kids ks ∧ (∀ x, x ∈ ks → x ∈ bs) ∧ ks.Nodup := by
  obtain ⟨a, cap, rfl, e1, e2, hs⟩ := h
  rcases hs with ⟨hf, _⟩ | ⟨b, n, bs', rfl, rfl, _, _, hr⟩
  · rw [hf] at he
    have := congrArg F.len he
    rw [F.len_app] at this
    simp only [F.len] at this
    omega
  · rw [he] at hr
    obtain ⟨b1, b2, rfl, _, hr2⟩ := hr.split
    obtain ⟨_, _, _, _, _, c0, c1, c2, c3, c4, ks, rs, rfl, ⟨a5, cap5, c5, q1, q2, hsub⟩, _⟩ := hr2
    rw [show 0 + 6 * p.len = p.len * 6 by omega] at c0 c1 c2 c3 c4 c5
    refine ⟨b, cap, a5, cap5, ks, rfl, c0, c1, c2, c3, c4, c5, ⟨a5, cap5, rfl, q1, q2, hsub⟩, fun x hx => by simp [hx], ?_⟩
    have h1 := (List.nodup_cons.1 hn).2
    have h2 := (List.nodup_append.1 h1).2.1
    exact (List.nodup_append.1 h2).1

/-- What stands in memory while the branches are gone through. -/
structure StS (w wr : World) (R : Nd) (u : Value) (bs : List Nat) (X : Nat) : Prop where
  hb : Below w.heap.size w wr
  hz : Box5 wr (w.heap.size + 1) (.int .i64 0) (.string ⟨#[]⟩) (.string ⟨#[]⟩) (.int .i64 0) (.slice none 0 0)
  hx : Box5 wr X (.int .i64 R.k) (.string R.fr) (.string R.tg) (.int .i64 R.ix) u
  ho : Ow wr u R.kids bs
  hl : ∀ b, b ∈ bs → w.heap.size + 1 < b
  hn : bs.Nodup
theorem StS.below {w wr wj : World} {R : Nd} {u : Value} {bs : List Nat} {X : Nat} (h : StS w wr R u bs X) (hb : Below wr.heap.size wr wj) : StS w wj R u bs X :=
  ⟨h.hb.trans (hb.mono h.hb.size), h.hz.below hb, h.hx.below hb, h.ho.same (Same.of_below hb h.ho.lt), h.hl, h.hn⟩

theorem MadeR.sub {w wr : World} {R N : Nd} {u v : Value} {bs ks : List Nat} {X : Nat} (h : StS w wr R u bs X) (ho : Ow wr v N.kids ks) (hk : ∀ x, x ∈ ks → x ∈ bs) (hn : ks.Nodup) (v0 v1 v2 v3 v4 : Value) :
    MadeR N true w (.returned (.tuple #[.agg #[.int .i64 N.k, .string N.fr, .string N.tg, .int .i64 N.ix, v], .bool true])) (((((wr.setCell ⟨w.heap.size + 1, 0, none⟩ v0).setCell ⟨w.heap.size + 1, 1, none⟩ v1).setCell ⟨w.heap.size + 1, 2, none⟩ v2).setCell ⟨w.heap.size + 1, 3, none⟩ v3).setCell ⟨w.heap.size + 1, 4, none⟩ v4) := by
  have q : ∀ b, b ∈ ks → b ≠ w.heap.size + 1 := fun b hb => by have := h.hl b (hk b hb); omega
  refine ⟨v, ks, rfl, ho.same ?_, fun b hb => by have := h.hl b (hk b hb); omega, hn, ?_⟩
  · exact (((((Same.refl _ _).setCell q _).setCell q _).setCell q _).setCell q _).setCell q _
  · exact ((((h.hb.setCell (by simp) _).setCell (by simp) _).setCell (by simp) _).setCell (by simp) _).setCell (by simp) _

theorem MadeR.below {R : Nd} {ok : Bool} {w w' w'' : World} {e : Ending} (h : MadeR R ok w e w') (hb : Below w'.heap.size w' w'') : MadeR R ok w e w'' := by
  obtain ⟨u, bs, h1, h2, h3, h4, h5⟩ := h
  exact ⟨u, bs, h1, h2.same (Same.of_below hb h2.lt), h3, h4, h5.trans (hb.mono h5.size)⟩

/-- What holds at each round's head. -/
def StRel (w : World) (R : Nd) (s : ByteArray) (u : Value) (bs : List Nat) (X : Nat) (iv : Value) (wr : World) : Prop :=
  ∃ (p q : F), R.kids = p.app q ∧ iv = .int .i64 (p.len : Nat) ∧ findF R.kids s = findF q s ∧ StS w wr R u bs X
end Go.Proofs.YtgcefippeokmcaaDoor

/- Unfolding an unfolded type changes nothing; it keeps the roles. -/
namespace Go.Proofs.YtgcefippeokmcaaDoor
open Go.RowKit

/-- A node that is no recursion is its own unfolding. -/
theorem unf_self {g : Nd} (h4 : g.k ≠ 3) : unf g = g := by
  unfold unf unfN
  rw [if_neg h4]
  exact cpN_nil g

def namG (c : UInt8) (g : Nd) : Bool := namNb c g.k g.fr g.tg g.kids
theorem cp_nam_le (c : UInt8) : ∀ (f : F) (s : List (Option Nd)), namFb c (cpF s f) = true → namFb c f = true ∨ ∃ U, some U ∈ s ∧ namG c U = true := by
  intro f
  induction f with
  | nil => intro s h; exact Or.inl h
  | cons lab k fr tg ix kids rest ihk ihr =>
    intro s h
    unfold cpF at h
    have up : ∀ {a b d : Bool}, ((a || b) || d) = true → a = true ∨ b = true ∨ d = true := by
      intro a b d h
      cases a <;> cases b <;> cases d <;> simp_all
    by_cases h5 : k = 4
    · rw [if_pos h5] at h
      cases hj : (s[ix.toNat]?).join with
      | some U =>
        rw [hj] at h
        simp only [namFb] at h
        rcases up h with h | h | h
        · exact Or.inr ⟨U, mem_of_join hj, by unfold namG namNb; rw [h]; rfl⟩
        · exact Or.inr ⟨U, mem_of_join hj, by unfold namG namNb; rw [h]; exact Bool.or_true _⟩
        · rcases ihr s h with h | h
          · exact Or.inl (by simp only [namFb]; rw [h]; exact Bool.or_true _)
          · exact Or.inr h
      | none =>
        rw [hj] at h
        simp only [namFb] at h
        rcases up h with h | h | h
        · exact Or.inl (by simp only [namFb]; rw [h]; rfl)
        · rcases ihk s h with h | h
          · exact Or.inl (by simp only [namFb]; rw [h]; simp)
          · exact Or.inr h
        · rcases ihr s h with h | h
          · exact Or.inl (by simp only [namFb]; rw [h]; exact Bool.or_true _)
          · exact Or.inr h
    · rw [if_neg h5] at h
      simp only [namFb] at h
      rcases up h with h | h | h
      · exact Or.inl (by simp only [namFb]; rw [h]; rfl)
      · rcases ihk _ h with h | ⟨U, hU, h⟩
        · exact Or.inl (by simp only [namFb]; rw [h]; simp)
        · refine Or.inr ⟨U, ?_, h⟩
          by_cases h4 : k = 3
          · rw [if_pos h4] at hU
            rcases List.mem_cons.1 hU with hU | hU
            · cases hU
            · exact hU
          · rwa [if_neg h4] at hU
      · rcases ihr s h with h | h
        · exact Or.inl (by simp only [namFb]; rw [h]; exact Bool.or_true _)
        · exact Or.inr h
theorem cp_nam_ge (c : UInt8) : ∀ (f : F) (s : List (Option Nd)) (b u : Int), wF f b u = true → namFb c f = true → namFb c (cpF s f) = true := by
  intro f
  induction f with
  | nil => intro s b u _ h; exact h
  | cons lab k fr tg ix kids rest ihk ihr =>
    intro s b u hw h
    simp only [wF, Bool.and_eq_true] at hw
    obtain ⟨⟨hsh, hk⟩, hr⟩ := hw
    have up : ∀ {a b d : Bool}, ((a || b) || d) = true → a = true ∨ b = true ∨ d = true := by
      intro a b d h
      cases a <;> cases b <;> cases d <;> simp_all
    simp only [namFb] at h
    unfold cpF
    by_cases h5 : k = 4
    · have hkn : kids = .nil := shape_leaf hsh (by omega) (by omega)
      subst hkn
      have h' : namFb c rest = true := by
        rcases up h with h | h | h
        · subst h5; exact absurd h (by simp)
        · exact absurd h (by simp [namFb])
        · exact h
      rw [if_pos h5]
      split
      · simp only [namFb]
        rw [ihr s b u hr h']
        exact Bool.or_true _
      · simp only [namFb]
        rw [ihr s b u hr h']
        exact Bool.or_true _
    · rw [if_neg h5]
      simp only [namFb]
      rcases up h with h | h | h
      · rw [h]; rfl
      · have hw' : ∃ b' u', wF kids b' u' = true := by
          rw [if_neg h5] at hk
          by_cases h4 : k = 3
          · rw [if_pos h4] at hk; exact ⟨_, _, hk⟩
          · rw [if_neg h4] at hk
            by_cases h23 : k = 2
            · rw [if_pos h23] at hk; exact ⟨_, _, hk⟩
            · have hkn : kids = .nil := shape_leaf hsh h23 h4
              subst hkn
              exact ⟨0, 0, rfl⟩
        obtain ⟨b', u', hw'⟩ := hw'
        rw [ihk _ b' u' hw' h]
        simp
      · rw [ihr s b u hr h]
        exact Bool.or_true _
theorem cpN_nam_le (c : UInt8) (s : List (Option Nd)) (g : Nd) (h : namG c (cpN s g) = true) : namG c g = true ∨ ∃ U, some U ∈ s ∧ namG c U = true := by
  have h2 := cp_nam_le c (.cons ⟨#[]⟩ g.k g.fr g.tg g.ix g.kids .nil) s (by
    unfold cpF
    unfold namG namNb cpN at h
    have e : cpF s F.nil = F.nil := by unfold cpF; rfl
    rw [e]
    by_cases h5 : g.k = 4
    · rw [if_pos h5] at h ⊢
      cases hj : (s[g.ix.toNat]?).join with
      | some U => simp only [hj] at h; simp only [namFb, Bool.or_false]; exact h
      | none => simp only [hj] at h; simp only [namFb, Bool.or_false]; exact h
    · rw [if_neg h5] at h ⊢
      simp only [namFb, Bool.or_false]
      exact h)
  rcases h2 with h2 | h2
  · simp only [namFb, Bool.or_false] at h2
    exact Or.inl h2
  · exact Or.inr h2
theorem cpN_nam_ge (c : UInt8) (s : List (Option Nd)) (g : Nd) (h5 : g.k ≠ 4) (b u : Int) (hw : wN g b u = true) (h : namG c g = true) : namG c (cpN s g) = true := by
  have h2 := cp_nam_ge c (.cons ⟨#[]⟩ g.k g.fr g.tg g.ix g.kids .nil) s b u (by simp only [wF, Bool.and_true]; exact hw) (by simp only [namFb, Bool.or_false]; exact h)
  have e : cpF s F.nil = F.nil := by unfold cpF; rfl
  unfold cpF at h2
  unfold namG namNb cpN
  rw [if_neg h5] at h2 ⊢
  rw [e] at h2
  simp only [namFb, Bool.or_false] at h2
  exact h2
theorem unfN_nam_le (c : UInt8) (T : Prop) : ∀ (n : Nat) (s : List (Option Nd)) (g : Nd), (∀ U, some U ∈ s → namG c U = true → T) → (namG c g = true → T) → namG c (unfN n s g) = true → T := by
  intro n
  induction n with
  | zero =>
    intro s g hs hg h
    rcases cpN_nam_le c s g h with h | ⟨U, hU, h⟩
    · exact hg h
    · exact hs U hU h
  | succ n ih =>
    intro s g hs hg h
    have fin : namG c (cpN s g) = true → T := fun h => by
      rcases cpN_nam_le c s g h with h | ⟨U, hU, h⟩
      · exact hg h
      · exact hs U hU h
    unfold unfN at h
    by_cases h4 : g.k = 3
    · rw [if_pos h4] at h
      cases hk : g.kids with
      | nil => rw [hk] at h; exact fin h
      | cons lab k fr tg ix kids rest =>
        rw [hk] at h
        refine ih _ _ ?_ ?_ h
        · intro U hU hn
          rcases List.mem_cons.1 hU with hU | hU
          · obtain rfl := Option.some.inj hU
            exact fin hn
          · exact hs U hU hn
        · intro hn
          refine hg ?_
          unfold namG namNb
          rw [hk]
          simp only [namFb]
          unfold namG namNb at hn
          simp only at hn
          rw [hn]
          simp
    · rw [if_neg h4] at h
      exact fin h
theorem unfN_nam_ge (c : UInt8) : ∀ (n : Nat) (s : List (Option Nd)) (g : Nd), wN g (s.length : Int) (s.length : Int) = true → namG c g = true → namG c (unfN n s g) = true := by
  intro n
  induction n with
  | zero => intro s g hw h; exact cpN_nam_ge c s g (not_var hw) _ _ hw h
  | succ n ih =>
    intro s g hw h
    unfold unfN
    by_cases h4 : g.k = 3
    · obtain ⟨lab, k, fr, tg, ix, kids, e, hw'⟩ := rec_kid hw h4
      rw [if_pos h4, e]
      simp only
      refine ih _ _ ?_ ?_
      · rw [show (((some (cpN s g) :: s).length : Nat) : Int) = (s.length : Int) + 1 by simp]
        exact hw'
      · unfold namG namNb at h
        rw [e, h4] at h
        simp only [namFb, Bool.or_false] at h
        unfold namG namNb
        simp only
        simpa using h
    · rw [if_neg h4]
      exact cpN_nam_ge c s g (not_var hw) _ _ hw h
/-- Unfolding keeps the roles. -/
theorem unf_roles {g : Nd} (h : unfOk g = true) : rolesN (unf g).k (unf g).fr (unf g).tg (unf g).ix (unf g).kids = rolesN g.k g.fr g.tg g.ix g.kids := by
  unfold unfOk okG at h
  simp only [Bool.and_eq_true] at h
  have hw := (okG_w (g := g) h.1).1
  unfold rolesN
  rw [if_pos h.1, if_pos h.2]
  refine setS_congr fun c _ => ?_
  rw [Bool.eq_iff_iff]
  exact ⟨unfN_nam_le c _ (g.kids.sz + 1) [] g (fun U hU => absurd hU List.not_mem_nil) id, unfN_nam_ge c (g.kids.sz + 1) [] g hw⟩
theorem unf_unf {g : Nd} (h : unfOk g = true) : unfOk (unf g) = true ∧ unf (unf g) = unf g ∧ (unf g).k ≠ 3 ∧ (unf g).k ≠ 4 := by
  unfold unfOk at h
  simp only [Bool.and_eq_true] at h
  obtain ⟨h4, h5⟩ := unfN_k (g.kids.sz + 1) [] g (okG_w h.1).1 (Nat.lt_succ_self _)
  have e := unf_self (g := unf g) h4
  refine ⟨?_, e, h4, h5⟩
  unfold unfOk
  rw [e, h.2]
  rfl
theorem empty_fits {fr : ByteArray} (h : fr.toList = []) : fr.size ≤ maxLen := by
  have h2 := toList_length fr
  rw [h] at h2
  have h3 : ([] : List UInt8).length = 0 := rfl
  omega
/-- A closed node that fits its place fits into values. -/
theorem fit_closed {g : Nd} (h : wN g 0 0 = true) : Fit g := by
  unfold wN at h
  simp only [Bool.and_eq_true] at h
  obtain ⟨h1, h2⟩ := h
  have h0 : (Lit.int .i64 0).wf = true := by decide
  by_cases k1 : g.k = 1
  · rw [k1] at h1
    obtain ⟨a, b, c, -⟩ := shape_end h1
    exact ⟨empty_fits a, empty_fits b, by rw [k1]; decide, by rw [c]; exact h0⟩
  by_cases k2 : g.k = 2
  · rw [k2] at h1
    obtain ⟨a, b, -, c, -⟩ := shape_msg h1
    exact ⟨by rw [role_size a]; unfold maxLen; omega, by rw [role_size b]; unfold maxLen; omega, by rw [k2]; decide, by rw [c]; exact h0⟩
  by_cases k3 : g.k = 3
  · rw [k3] at h1
    obtain ⟨a, b, c, -⟩ := shape_rec h1
    exact ⟨empty_fits a, empty_fits b, by rw [k3]; decide, by rw [c]; exact h0⟩
  by_cases k4 : g.k = 4
  · rw [if_pos k4] at h2
    simp only [Bool.and_eq_true, decide_eq_true_eq] at h2
    omega
  · simp [shapeB, k1, k2, k3, k4] at h1
theorem unfR_fit (g : Nd) : Fit (unfR g) := by
  unfold unfR
  split
  · rename_i h
    unfold unfOk at h
    simp only [Bool.and_eq_true] at h
    exact fit_closed (okG_w h.2).1
  · exact ⟨Nat.zero_le _, Nat.zero_le _, show (Lit.int .i64 0).wf = true by decide, show (Lit.int .i64 0).wf = true by decide⟩
end Go.Proofs.YtgcefippeokmcaaDoor

/- The law FnGlobalUnfold: its walk. -/
namespace Go.Proofs.YtgcefippeokmcaaDoor
open Go.RowKit

set_option maxHeartbeats 1000000 in
set_option maxRecDepth 100000 in
theorem drawU_calls (w : World) (sv : Value) (l : List Nat) (hs : SlG elY w sv l) : Calls Tryd.prog 29 #[sv] w (Drawn w) := by
  have HSV := hide hs
  have hx0 := Box5.now w (.int .i64 0) (.string ⟨#[]⟩) (.string ⟨#[]⟩) (.int .i64 0) (.slice none 0 0) ( /- t -/ 39)
  have hb0 := alloc_below w (.cells #[.int .i64 0, .string ⟨#[]⟩, .string ⟨#[]⟩, .int .i64 0, .slice none 0 0] ( /- t -/ 39))
  have hz0 : (w.alloc (.cells #[.int .i64 0, .string ⟨#[]⟩, .string ⟨#[]⟩, .int .i64 0, .slice none 0 0] ( /- t -/ 39))).heap.size = w.heap.size + 1 := by simp
  have HX0 := hide hx0
  have HB0 := hide hb0
  have HZ0 := hide hz0
  clear hx0 hb0 hz0 hs
  go_enter Tryd.func29, Tryd.ntmps29
  go_upto_region 1 with fail
  generalize w.alloc (.cells #[.int .i64 0, .string ⟨#[]⟩, .string ⟨#[]⟩, .int .i64 0, .slice none 0 0] ( /- t -/ 39)) = W at *
  go_wp2_with fail
  refine (draw_calls W sv l (HSV.out.still (Still.of_below HB0.out))).mono ?_
  rintro e w2 ⟨N, u, bs, rfl, how, hge, hnd, hb, hf, hsz⟩
  obtain ⟨ua, uc, rfl⟩ := how.val
  have HX2 := hide (HX0.out.below hb)
  have HB2 := hide (HB0.out.trans (hb.mono (by have := HZ0.out; omega)))
  have HG : Hid (∀ x, x ∈ bs → w.heap.size < x) := hide (fun x hx => by have := hge x hx; have := HZ0.out; omega)
  have HOW := hide how
  have HF := hide hf
  have HND := hide hnd
  obtain ⟨x0, x1, x2, x3, x4⟩ := HX2.out.cells
  have fx := HX2.out.frozen
  have lx := HX2.out.lt
  clear hge how hf hnd hb HB0 HX0
  go_wp2_with fail
  refine bodyPost_ret (v := .agg #[.int .i64 N.k, .string N.fr, .string N.tg, .int .i64 N.ix, .slice ua N.kids.len uc]) (by simp [results, Tryd.results29, go_sem, *]) rfl ?_
  exact drawn_set HOW.out HG.out HND.out HB2.out HF.out hsz _ _ _ _ _

set_option maxHeartbeats 400000 in
theorem lunf_big (w : World) (a : Option Addr) (n c : Nat) (hn : (1048576 : Int) < (n : Int)) :
    Calls Tryd.prog 6 #[.slice a n c] w fun e w' => e = .returned (.bool true) ∧ Below w.heap.size w w' := by
  go_enter Tryd.func6, Tryd.ntmps6
  go_wp2_with fail
  go_ret
  exact ⟨rfl, Below.refl _ _⟩

set_option maxHeartbeats 4000000 in
set_option maxRecDepth 100000 in
theorem lunf_small (w : World) (a : Option Addr) (c : Nat) (l : List Nat) (hs : SlG elY w (.slice a l.length c) l) (hl : l.length ≤ 1048576) :
    Calls Tryd.prog 6 #[.slice a l.length c] w fun e w' => e = .returned (.bool true) ∧ Below w.heap.size w w' := by
  have hl2 : ¬ (1048576 : Int) < (l.length : Int) := by omega
  have HSV := hide hs
  clear hs
  go_enter Tryd.func6, Tryd.ntmps6
  go_wp2_with fail
  refine (drawU_calls w _ l HSV.out).mono ?_
  rintro e w1 ⟨g, u, bs, rfl, how, -, -, hb1, hf, hsz⟩
  obtain ⟨ga, gc, rfl⟩ := how.val
  have HN1 := hide (Nv.now how ( /- t -/ 39))
  have HB1 := hide (hb1.alloc hb1.size (.cells #[.int .i64 g.k, .string g.fr, .string g.tg, .int .i64 g.ix, .slice ga g.kids.len gc] ( /- t -/ 39)))
  have HF := hide hf
  have HSZ := hide hsz
  clear how hb1 hf hsz HSV
  go_upto_region 4 with fail
  generalize w1.alloc (.cells #[.int .i64 g.k, .string g.fr, .string g.tg, .int .i64 g.ix, .slice ga g.kids.len gc] ( /- t -/ 39)) = W1 at *
  generalize w1.heap.size = b1 at *
  obtain ⟨x0, x1, x2, x3, x4⟩ := HN1.out.box.cells
  have lx := HN1.out.lt
  go_wp2_with fail
  refine (implUnf W1 g _ HN1.out.sl HF.out).mono ?_
  rintro e w_2 ⟨v, vbs, rfl, vhow, -, -, vhb⟩
  obtain ⟨va, vc, rfl⟩ := vhow.val
  have HNv := hide (Nv.now vhow ( /- t -/ 39))
  have HB2 := hide ((HB1.out.trans (vhb.mono HB1.out.size)).alloc (Nat.le_trans HB1.out.size vhb.size) (.cells #[.int .i64 (unfR g).k, .string (unfR g).fr, .string (unfR g).tg, .int .i64 (unfR g).ix, .slice va (unfR g).kids.len vc] ( /- t -/ 39)))
  have HN1x := hide ((HN1.out.below vhb).below (alloc_below w_2 (.cells #[.int .i64 (unfR g).k, .string (unfR g).fr, .string (unfR g).tg, .int .i64 (unfR g).ix, .slice va (unfR g).kids.len vc] ( /- t -/ 39))))
  clear HN1
  have HN1 := HN1x
  clear HN1x
  clear vhow vhb
  clear x0 x1 x2 x3 x4 lx HB1
  go_upto_region 5 with fail
  generalize w_2.alloc (.cells #[.int .i64 (unfR g).k, .string (unfR g).fr, .string (unfR g).tg, .int .i64 (unfR g).ix, .slice va (unfR g).kids.len vc] ( /- t -/ 39)) = W2 at *
  generalize w_2.heap.size = b2 at *
  obtain ⟨x0, x1, x2, x3, x4⟩ := HN1.out.box.cells
  have lx := HN1.out.lt
  go_wp2_with fail
  refine (specUnf W2 g _ HN1.out.sl HF.out).mono ?_
  rintro e w_3 ⟨y, ybs, rfl, yhow, -, -, yhb⟩
  obtain ⟨ya, yc, rfl⟩ := yhow.val
  have HNy := hide (Nv.now yhow ( /- t -/ 39))
  have HB3 := hide ((HB2.out.trans (yhb.mono HB2.out.size)).alloc (Nat.le_trans HB2.out.size yhb.size) (.cells #[.int .i64 (unfR g).k, .string (unfR g).fr, .string (unfR g).tg, .int .i64 (unfR g).ix, .slice ya (unfR g).kids.len yc] ( /- t -/ 39)))
  have HN1x := hide ((HN1.out.below yhb).below (alloc_below w_3 (.cells #[.int .i64 (unfR g).k, .string (unfR g).fr, .string (unfR g).tg, .int .i64 (unfR g).ix, .slice ya (unfR g).kids.len yc] ( /- t -/ 39))))
  clear HN1
  have HN1 := HN1x
  clear HN1x
  have HNvx := hide ((HNv.out.below yhb).below (alloc_below w_3 (.cells #[.int .i64 (unfR g).k, .string (unfR g).fr, .string (unfR g).tg, .int .i64 (unfR g).ix, .slice ya (unfR g).kids.len yc] ( /- t -/ 39))))
  clear HNv
  have HNv := HNvx
  clear HNvx
  clear yhow yhb
  clear x0 x1 x2 x3 x4 lx HB2
  go_upto_region 6 with fail
  generalize w_3.alloc (.cells #[.int .i64 (unfR g).k, .string (unfR g).fr, .string (unfR g).tg, .int .i64 (unfR g).ix, .slice ya (unfR g).kids.len yc] ( /- t -/ 39)) = W3 at *
  generalize w_3.heap.size = b3 at *
  have HSR := hide (unfR_sz g)
  cases hok : unfOk g with
  | false =>
    obtain ⟨v0, v1, v2, v3, v4⟩ := HNv.out.box.cells
    have lv := HNv.out.lt
    obtain ⟨y0, y1, y2, y3, y4⟩ := HNy.out.box.cells
    have ly := HNy.out.lt
    go_wp2_with fail
    refine (same_self W3 (unfR g) _ _ HNv.out.own HNy.out.own HSR.out).mono ?_
    rintro e w4 ⟨rfl, hb4⟩
    have HNv4 := hide (HNv.out.below hb4)
    have HNy4 := hide (HNy.out.below hb4)
    have HB4 := hide (HB3.out.trans (hb4.mono HB3.out.size))
    clear hb4 v0 v1 v2 v3 v4 lv y0 y1 y2 y3 y4 ly HNv HNy HB3
    obtain ⟨v0, v1, v2, v3, v4⟩ := HNv4.out.box.cells
    have lv := HNv4.out.lt
    obtain ⟨y0, y1, y2, y3, y4⟩ := HNy4.out.box.cells
    have ly := HNy4.out.lt
    go_wp2_with fail
    refine (same_self w4 (unfR g) _ _ HNv4.out.own HNy4.out.own HSR.out).mono ?_
    rintro e w5 ⟨rfl, hb5⟩
    have HB5 := hide (HB4.out.trans (hb5.mono HB4.out.size))
    clear hb5
    go_wp2_with fail
    go_ret
    exact ⟨rfl, HB5.out⟩
  | true =>
    have hR : unfR g = unf g := by unfold unfR; rw [if_pos hok]
    obtain ⟨r1, r2, r3, r4⟩ := unf_unf hok
    have HUO : Hid (unfOk (unfR g) = true) := hide (by rw [hR]; exact r1)
    have HUR : Hid (unfR (unfR g) = unfR g) := hide (by rw [hR]; unfold unfR; rw [if_pos r1]; exact r2)
    have k3 : ¬ (unfR g).k = 3 := by rw [hR]; exact r3
    have k4 : ¬ (unfR g).k = 4 := by rw [hR]; exact r4
    have k3b : ((unfR g).k != 3) = true := by simp [k3]
    have k4b : ((unfR g).k != 4) = true := by simp [k4]
    have HPE : Hid (rolesN (unfR g).k (unfR g).fr (unfR g).tg (unfR g).ix (unfR g).kids = rolesN g.k g.fr g.tg g.ix g.kids) := hide (by rw [hR]; exact unf_roles hok)
    have HIU := hide (fun (W : World) (sv : Value) (hs : Sl W sv (unfR g).kids) => implUnf W (unfR g) sv hs (unfR_fit g))
    rw [HUO.out, HUR.out] at HIU
    clear hR r1 r2 r3 r4 HUO HUR
    generalize unfR g = R at *
    obtain ⟨v0, v1, v2, v3, v4⟩ := HNv.out.box.cells
    have lv := HNv.out.lt
    obtain ⟨y0, y1, y2, y3, y4⟩ := HNy.out.box.cells
    have ly := HNy.out.lt
    go_wp2_with fail
    refine (same_self W3 R _ _ HNv.out.own HNy.out.own HSR.out).mono ?_
    rintro e w4 ⟨rfl, hb4⟩
    have HNv4 := hide (HNv.out.below hb4)
    have HN14 := hide (HN1.out.below hb4)
    have HB4 := hide (HB3.out.trans (hb4.mono HB3.out.size))
    clear hb4 v0 v1 v2 v3 v4 lv y0 y1 y2 y3 y4 ly HNv HNy HB3 HN1
    obtain ⟨v0, v1, v2, v3, v4⟩ := HNv4.out.box.cells
    have lv := HNv4.out.lt
    go_wp2_with fail
    refine (HIU.out w4 _ HNv4.out.sl).mono ?_
    rintro e w_5 ⟨z, zbs, rfl, zhow, -, -, zhb⟩
    obtain ⟨za, zc, rfl⟩ := zhow.val
    have HNz := hide (Nv.now zhow ( /- t -/ 39))
    have HB5 := hide ((HB4.out.trans (zhb.mono HB4.out.size)).alloc (Nat.le_trans HB4.out.size zhb.size) (.cells #[.int .i64 R.k, .string R.fr, .string R.tg, .int .i64 R.ix, .slice za R.kids.len zc] ( /- t -/ 39)))
    have HN14x := hide ((HN14.out.below zhb).below (alloc_below w_5 (.cells #[.int .i64 R.k, .string R.fr, .string R.tg, .int .i64 R.ix, .slice za R.kids.len zc] ( /- t -/ 39))))
    clear HN14
    have HN14 := HN14x
    clear HN14x
    have HNv4x := hide ((HNv4.out.below zhb).below (alloc_below w_5 (.cells #[.int .i64 R.k, .string R.fr, .string R.tg, .int .i64 R.ix, .slice za R.kids.len zc] ( /- t -/ 39))))
    clear HNv4
    have HNv4 := HNv4x
    clear HNv4x
    clear zhow zhb
    clear v0 v1 v2 v3 v4 lv HB4
    go_upto_region 9 with fail
    generalize w_5.alloc (.cells #[.int .i64 R.k, .string R.fr, .string R.tg, .int .i64 R.ix, .slice za R.kids.len zc] ( /- t -/ 39)) = W5 at *
    generalize w_5.heap.size = b5 at *
    have HKEEP := hide (And.intro HNz.out (And.intro HNv4.out (And.intro HN14.out HB5.out)))
    clear HNz HNv4 HN14 HB5 HSZ
    refine wp_region_held_drew (S := (fun w' => Nv w' b5 R (.slice za R.kids.len zc) ∧ Nv w' b2 R (.slice va R.kids.len vc) ∧ Nv w' b1 g (.slice ga g.kids.len gc) ∧ Below w.heap.size w w')) (by kernel_rfl) ?_ (fun hHeld => ?_)
    · exact ⟨HKEEP.out.1.drew, HKEEP.out.2.1.drew, HKEEP.out.2.2.1.drew, HKEEP.out.2.2.2.drew⟩
    have HKEEP := hide hHeld
    refine wpAnyH_take (i := 0) (v := ?v0) rfl (by kernel_rfl) (by kernel_rfl) (by kernel_rfl) (fun _ _ _ h => h) (Or.inl ⟨by kernel_rfl, ?hy0⟩) (by assumption) ?rest0
    case hy0 => ((intro wS hSw); (obtain ⟨hSa, hSb, hSc, -⟩ := hSw); (obtain ⟨p0, p1, p2, p3, p4⟩ := hSa.box.cells); (obtain ⟨q0, q1, q2, q3, q4⟩ := hSb.box.cells); (obtain ⟨r0, r1, r2, r3, r4⟩ := hSc.box.cells); (go_simp); (try with_reducible rfl))
    change wpAnyH _ _ _ _ _ _ _ (Act.put _ (some 51) _) _
    (try simp only [Act.put]); (try simp only [List.setIfInBounds_toArray]); (try simp only [List.set_cons_zero]); (try simp only [List.set_cons_succ])
    refine wpAnyH_take (i := 1) (v := ?v1) rfl (by kernel_rfl) (by kernel_rfl) (by kernel_rfl) (fun _ _ _ h => h) (Or.inl ⟨by kernel_rfl, ?hy1⟩) (by assumption) ?rest1
    case hy1 => ((intro wS hSw); (obtain ⟨hSa, hSb, hSc, -⟩ := hSw); (obtain ⟨p0, p1, p2, p3, p4⟩ := hSa.box.cells); (obtain ⟨q0, q1, q2, q3, q4⟩ := hSb.box.cells); (obtain ⟨r0, r1, r2, r3, r4⟩ := hSc.box.cells); (go_simp); (try with_reducible rfl))
    change wpAnyH _ _ _ _ _ _ _ (Act.put _ (some 52) _) _
    (try simp only [Act.put]); (try simp only [List.setIfInBounds_toArray]); (try simp only [List.set_cons_zero]); (try simp only [List.set_cons_succ])
    refine wpAnyH_take (i := 2) (v := ?v2) rfl (by kernel_rfl) (by kernel_rfl) (by kernel_rfl) (fun _ _ _ h => h) (Or.inl ⟨by kernel_rfl, ?hy2⟩) (by assumption) ?rest2
    case hy2 => ((intro wS hSw); (obtain ⟨hSa, hSb, hSc, -⟩ := hSw); (obtain ⟨p0, p1, p2, p3, p4⟩ := hSa.box.cells); (obtain ⟨q0, q1, q2, q3, q4⟩ := hSb.box.cells); (obtain ⟨r0, r1, r2, r3, r4⟩ := hSc.box.cells); (go_simp); (try with_reducible rfl))
    change wpAnyH _ _ _ _ _ _ _ (Act.put _ (some 53) _) _
    (try simp only [Act.put]); (try simp only [List.setIfInBounds_toArray]); (try simp only [List.set_cons_zero]); (try simp only [List.set_cons_succ])
    refine wpAnyH_take (i := 3) (v := ?v3) rfl (by kernel_rfl) (by kernel_rfl) (by kernel_rfl) (fun _ _ _ h => h) (Or.inl ⟨by kernel_rfl, ?hy3⟩) (by assumption) ?rest3
    case hy3 => ((intro wS hSw); (obtain ⟨hSa, hSb, hSc, -⟩ := hSw); (obtain ⟨p0, p1, p2, p3, p4⟩ := hSa.box.cells); (obtain ⟨q0, q1, q2, q3, q4⟩ := hSb.box.cells); (obtain ⟨r0, r1, r2, r3, r4⟩ := hSc.box.cells); (go_simp); (try with_reducible rfl))
    change wpAnyH _ _ _ _ _ _ _ (Act.put _ (some 54) _) _
    (try simp only [Act.put]); (try simp only [List.setIfInBounds_toArray]); (try simp only [List.set_cons_zero]); (try simp only [List.set_cons_succ])
    refine wpAnyH_ready (rs := [4]) (by kernel_rfl) (by simp) (AllReadyH.cons rfl (fun K hK => ?_) AllReadyH.nil)
    rw [if_pos (by kernel_rfl)]
    go_simp
    (obtain ⟨hA, hB, hC, hD⟩ := HKEEP.out); go_at_call 32; refine (same_self _ R _ _ hA.own hB.own HSR.out).mono ?_; (rintro e w_x ⟨rfl, hbx⟩); (have HK2 := hide (And.intro (hA.below hbx) (And.intro (hB.below hbx) (And.intro (hC.below hbx) (hD.trans (hbx.mono hD.size)))))); (clear hA hB hC hD hbx HKEEP); (have HKEEP := HK2); clear HK2
    refine hK.out _ _ ?_ (fun hHeld => ?_)
    · exact HKEEP.out
    clear hK K
    (try simp only [Act.put]); (try simp only [List.setIfInBounds_toArray]); (try simp only [List.set_cons_zero]); (try simp only [List.set_cons_succ])
    refine wpAnyH_take (i := 5) (v := ?v5) rfl (by kernel_rfl) (by kernel_rfl) (by kernel_rfl) (fun _ _ _ h => h) (Or.inl ⟨by kernel_rfl, ?hy5⟩) (by assumption) ?rest5
    case hy5 => ((intro wS hSw); (obtain ⟨hSa, hSb, hSc, -⟩ := hSw); (obtain ⟨p0, p1, p2, p3, p4⟩ := hSa.box.cells); (obtain ⟨q0, q1, q2, q3, q4⟩ := hSb.box.cells); (obtain ⟨r0, r1, r2, r3, r4⟩ := hSc.box.cells); (go_simp); (try with_reducible rfl))
    change wpAnyH _ _ _ _ _ _ _ (Act.put _ (some 56) _) _
    (try simp only [Act.put]); (try simp only [List.setIfInBounds_toArray]); (try simp only [List.set_cons_zero]); (try simp only [List.set_cons_succ])
    refine wpAnyH_take (i := 6) (v := ?v6) rfl (by kernel_rfl) (by kernel_rfl) (by kernel_rfl) (fun _ _ _ h => h) (Or.inl ⟨by kernel_rfl, ?hy6⟩) (by assumption) ?rest6
    case hy6 => ((intro wS hSw); (obtain ⟨hSa, hSb, hSc, -⟩ := hSw); (obtain ⟨p0, p1, p2, p3, p4⟩ := hSa.box.cells); (obtain ⟨q0, q1, q2, q3, q4⟩ := hSb.box.cells); (obtain ⟨r0, r1, r2, r3, r4⟩ := hSc.box.cells); (go_simp); (try with_reducible rfl))
    change wpAnyH _ _ _ _ _ _ _ (Act.put _ (some 57) _) _
    (try simp only [Act.put]); (try simp only [List.setIfInBounds_toArray]); (try simp only [List.set_cons_zero]); (try simp only [List.set_cons_succ])
    refine wpAnyH_take (i := 7) (v := ?v7) rfl (by kernel_rfl) (by kernel_rfl) (by kernel_rfl) (fun _ _ _ h => h) (Or.inl ⟨by kernel_rfl, ?hy7⟩) (by assumption) ?rest7
    case hy7 => ((intro wS hSw); (obtain ⟨hSa, hSb, hSc, -⟩ := hSw); (obtain ⟨p0, p1, p2, p3, p4⟩ := hSa.box.cells); (obtain ⟨q0, q1, q2, q3, q4⟩ := hSb.box.cells); (obtain ⟨r0, r1, r2, r3, r4⟩ := hSc.box.cells); (go_simp); (try with_reducible rfl))
    change wpAnyH _ _ _ _ _ _ _ (Act.put _ (some 58) _) _
    (try simp only [Act.put]); (try simp only [List.setIfInBounds_toArray]); (try simp only [List.set_cons_zero]); (try simp only [List.set_cons_succ])
    refine wpAnyH_take (i := 8) (v := ?v8) rfl (by kernel_rfl) (by kernel_rfl) (by kernel_rfl) (fun _ _ _ h => h) (Or.inl ⟨by kernel_rfl, ?hy8⟩) (by assumption) ?rest8
    case hy8 => ((intro wS hSw); (obtain ⟨hSa, hSb, hSc, -⟩ := hSw); (obtain ⟨p0, p1, p2, p3, p4⟩ := hSa.box.cells); (obtain ⟨q0, q1, q2, q3, q4⟩ := hSb.box.cells); (obtain ⟨r0, r1, r2, r3, r4⟩ := hSc.box.cells); (go_simp); (try with_reducible rfl))
    change wpAnyH _ _ _ _ _ _ _ (Act.put _ (some 59) _) _
    (try simp only [Act.put]); (try simp only [List.setIfInBounds_toArray]); (try simp only [List.set_cons_zero]); (try simp only [List.set_cons_succ])
    refine wpAnyH_take (i := 9) (v := ?v9) rfl (by kernel_rfl) (by kernel_rfl) (by kernel_rfl) (fun _ _ _ h => h) (Or.inl ⟨by kernel_rfl, ?hy9⟩) (by assumption) ?rest9
    case hy9 => ((intro wS hSw); (obtain ⟨hSa, hSb, hSc, -⟩ := hSw); (obtain ⟨p0, p1, p2, p3, p4⟩ := hSa.box.cells); (obtain ⟨q0, q1, q2, q3, q4⟩ := hSb.box.cells); (obtain ⟨r0, r1, r2, r3, r4⟩ := hSc.box.cells); (go_simp); (try with_reducible rfl))
    change wpAnyH _ _ _ _ _ _ _ (Act.put _ (some 60) _) _
    (try simp only [Act.put]); (try simp only [List.setIfInBounds_toArray]); (try simp only [List.set_cons_zero]); (try simp only [List.set_cons_succ])
    refine wpAnyH_take (i := 10) (v := ?v10) rfl (by kernel_rfl) (by kernel_rfl) (by kernel_rfl) (fun _ _ _ h => h) (Or.inl ⟨by kernel_rfl, ?hy10⟩) (by assumption) ?rest10
    case hy10 => ((intro wS hSw); (obtain ⟨hSa, hSb, hSc, -⟩ := hSw); (obtain ⟨p0, p1, p2, p3, p4⟩ := hSa.box.cells); (obtain ⟨q0, q1, q2, q3, q4⟩ := hSb.box.cells); (obtain ⟨r0, r1, r2, r3, r4⟩ := hSc.box.cells); (go_simp); (try with_reducible rfl))
    change wpAnyH _ _ _ _ _ _ _ (Act.put _ (some 61) _) _
    (try simp only [Act.put]); (try simp only [List.setIfInBounds_toArray]); (try simp only [List.set_cons_zero]); (try simp only [List.set_cons_succ])
    refine wpAnyH_take (i := 11) (v := ?v11) rfl (by kernel_rfl) (by kernel_rfl) (by kernel_rfl) (fun _ _ _ h => h) (Or.inl ⟨by kernel_rfl, ?hy11⟩) (by assumption) ?rest11
    case hy11 => ((intro wS hSw); (obtain ⟨hSa, hSb, hSc, -⟩ := hSw); (obtain ⟨p0, p1, p2, p3, p4⟩ := hSa.box.cells); (obtain ⟨q0, q1, q2, q3, q4⟩ := hSb.box.cells); (obtain ⟨r0, r1, r2, r3, r4⟩ := hSc.box.cells); (go_simp); (try with_reducible rfl))
    change wpAnyH _ _ _ _ _ _ _ (Act.put _ (some 62) _) _
    (try simp only [Act.put]); (try simp only [List.setIfInBounds_toArray]); (try simp only [List.set_cons_zero]); (try simp only [List.set_cons_succ])
    refine wpAnyH_take (i := 12) (v := ?v12) rfl (by kernel_rfl) (by kernel_rfl) (by kernel_rfl) (fun _ _ _ h => h) (Or.inl ⟨by kernel_rfl, ?hy12⟩) (by assumption) ?rest12
    case hy12 => ((intro wS hSw); (obtain ⟨hSa, hSb, hSc, -⟩ := hSw); (obtain ⟨p0, p1, p2, p3, p4⟩ := hSa.box.cells); (obtain ⟨q0, q1, q2, q3, q4⟩ := hSb.box.cells); (obtain ⟨r0, r1, r2, r3, r4⟩ := hSc.box.cells); (go_simp); (try with_reducible rfl))
    change wpAnyH _ _ _ _ _ _ _ (Act.put _ (some 63) _) _
    (try simp only [Act.put]); (try simp only [List.setIfInBounds_toArray]); (try simp only [List.set_cons_zero]); (try simp only [List.set_cons_succ])
    refine wpAnyH_take (i := 13) (v := ?v13) rfl (by kernel_rfl) (by kernel_rfl) (by kernel_rfl) (fun _ _ _ h => h) (Or.inl ⟨by kernel_rfl, ?hy13⟩) (by assumption) ?rest13
    case hy13 => ((intro wS hSw); (obtain ⟨hSa, hSb, hSc, -⟩ := hSw); (obtain ⟨p0, p1, p2, p3, p4⟩ := hSa.box.cells); (obtain ⟨q0, q1, q2, q3, q4⟩ := hSb.box.cells); (obtain ⟨r0, r1, r2, r3, r4⟩ := hSc.box.cells); (go_simp); (try with_reducible rfl))
    change wpAnyH _ _ _ _ _ _ _ (Act.put _ (some 64) _) _
    (try simp only [Act.put]); (try simp only [List.setIfInBounds_toArray]); (try simp only [List.set_cons_zero]); (try simp only [List.set_cons_succ])
    refine wpAnyH_take (i := 14) (v := ?v14) rfl (by kernel_rfl) (by kernel_rfl) (by kernel_rfl) (fun _ _ _ h => h) (Or.inl ⟨by kernel_rfl, ?hy14⟩) (by assumption) ?rest14
    case hy14 => ((intro wS hSw); (obtain ⟨hSa, hSb, hSc, -⟩ := hSw); (obtain ⟨p0, p1, p2, p3, p4⟩ := hSa.box.cells); (obtain ⟨q0, q1, q2, q3, q4⟩ := hSb.box.cells); (obtain ⟨r0, r1, r2, r3, r4⟩ := hSc.box.cells); (go_simp); (try with_reducible rfl))
    change wpAnyH _ _ _ _ _ _ _ (Act.put _ (some 65) _) _
    (try simp only [Act.put]); (try simp only [List.setIfInBounds_toArray]); (try simp only [List.set_cons_zero]); (try simp only [List.set_cons_succ])
    refine wpAnyH_take (i := 15) (v := ?v15) rfl (by kernel_rfl) (by kernel_rfl) (by kernel_rfl) (fun _ _ _ h => h) (Or.inl ⟨by kernel_rfl, ?hy15⟩) (by assumption) ?rest15
    case hy15 => ((intro wS hSw); (obtain ⟨hSa, hSb, hSc, -⟩ := hSw); (obtain ⟨p0, p1, p2, p3, p4⟩ := hSa.box.cells); (obtain ⟨q0, q1, q2, q3, q4⟩ := hSb.box.cells); (obtain ⟨r0, r1, r2, r3, r4⟩ := hSc.box.cells); (go_simp); (try with_reducible rfl))
    change wpAnyH _ _ _ _ _ _ _ (Act.put _ (some 66) _) _
    (try simp only [Act.put]); (try simp only [List.setIfInBounds_toArray]); (try simp only [List.set_cons_zero]); (try simp only [List.set_cons_succ])
    refine wpAnyH_take (i := 16) (v := ?v16) rfl (by kernel_rfl) (by kernel_rfl) (by kernel_rfl) (fun _ _ _ h => h) (Or.inl ⟨by kernel_rfl, ?hy16⟩) (by assumption) ?rest16
    case hy16 => ((intro wS hSw); (obtain ⟨hSa, hSb, hSc, -⟩ := hSw); (obtain ⟨p0, p1, p2, p3, p4⟩ := hSa.box.cells); (obtain ⟨q0, q1, q2, q3, q4⟩ := hSb.box.cells); (obtain ⟨r0, r1, r2, r3, r4⟩ := hSc.box.cells); (go_simp); (try with_reducible rfl))
    change wpAnyH _ _ _ _ _ _ _ (Act.put _ (some 67) _) _
    (try simp only [Act.put]); (try simp only [List.setIfInBounds_toArray]); (try simp only [List.set_cons_zero]); (try simp only [List.set_cons_succ])
    refine wpAnyH_take (i := 17) (v := ?v17) rfl (by kernel_rfl) (by kernel_rfl) (by kernel_rfl) (fun _ _ _ h => h) (Or.inl ⟨by kernel_rfl, ?hy17⟩) (by assumption) ?rest17
    case hy17 => ((intro wS hSw); (obtain ⟨hSa, hSb, hSc, -⟩ := hSw); (obtain ⟨p0, p1, p2, p3, p4⟩ := hSa.box.cells); (obtain ⟨q0, q1, q2, q3, q4⟩ := hSb.box.cells); (obtain ⟨r0, r1, r2, r3, r4⟩ := hSc.box.cells); (go_simp); (try with_reducible rfl))
    change wpAnyH _ _ _ _ _ _ _ (Act.put _ (some 68) _) _
    (try simp only [Act.put]); (try simp only [List.setIfInBounds_toArray]); (try simp only [List.set_cons_zero]); (try simp only [List.set_cons_succ])
    refine wpAnyH_take (i := 19) (v := ?v19) rfl (by kernel_rfl) (by kernel_rfl) (by kernel_rfl) (fun _ _ _ h => h) (Or.inl ⟨by kernel_rfl, ?hy19⟩) (by assumption) ?rest19
    case hy19 => ((intro wS hSw); (obtain ⟨hSa, hSb, hSc, -⟩ := hSw); (obtain ⟨p0, p1, p2, p3, p4⟩ := hSa.box.cells); (obtain ⟨q0, q1, q2, q3, q4⟩ := hSb.box.cells); (obtain ⟨r0, r1, r2, r3, r4⟩ := hSc.box.cells); (go_simp); (try with_reducible rfl))
    change wpAnyH _ _ _ _ _ _ _ (Act.put _ (some 70) _) _
    (try simp only [Act.put]); (try simp only [List.setIfInBounds_toArray]); (try simp only [List.set_cons_zero]); (try simp only [List.set_cons_succ])
    refine wpAnyH_ready (rs := [18]) (by kernel_rfl) (by simp) (AllReadyH.cons rfl (fun K hK => ?_) AllReadyH.nil)
    rw [if_pos (by kernel_rfl)]
    go_simp
    (obtain ⟨hA, hB, hC, hD⟩ := HKEEP.out); go_at_call 33; refine (implRoles _ R.k R.ix R.fr R.tg _ R.kids hB.sl).mono ?_; (rintro e w_x ⟨rfl, hbx⟩); (have HK2 := hide (And.intro (hA.below hbx) (And.intro (hB.below hbx) (And.intro (hC.below hbx) (hD.trans (hbx.mono hD.size)))))); (clear hA hB hC hD hbx HKEEP); (have HKEEP := HK2); clear HK2
    refine hK.out _ _ ?_ (fun hHeld => ?_)
    · exact HKEEP.out
    clear hK K
    (try simp only [Act.put]); (try simp only [List.setIfInBounds_toArray]); (try simp only [List.set_cons_zero]); (try simp only [List.set_cons_succ])
    refine wpAnyH_ready (rs := [20]) (by kernel_rfl) (by simp) (AllReadyH.cons rfl (fun K hK => ?_) AllReadyH.nil)
    rw [if_pos (by kernel_rfl)]
    go_simp
    (obtain ⟨hA, hB, hC, hD⟩ := HKEEP.out); go_at_call 33; refine (implRoles _ g.k g.ix g.fr g.tg _ g.kids hC.sl).mono ?_; (rintro e w_x ⟨rfl, hbx⟩); (have HK2 := hide (And.intro (hA.below hbx) (And.intro (hB.below hbx) (And.intro (hC.below hbx) (hD.trans (hbx.mono hD.size)))))); (clear hA hB hC hD hbx HKEEP); (have HKEEP := HK2); clear HK2
    refine hK.out _ _ ?_ (fun hHeld => ?_)
    · exact HKEEP.out
    clear hK K
    (try simp only [Act.put]); (try simp only [List.setIfInBounds_toArray]); (try simp only [List.set_cons_zero]); (try simp only [List.set_cons_succ])
    refine wpAnyH_take (i := 21) (v := ?v21) rfl (by kernel_rfl) (by kernel_rfl) (by kernel_rfl) (fun _ _ _ h => h) (Or.inl ⟨by kernel_rfl, ?hy21⟩) (by assumption) ?rest21
    case hy21 => ((intro wS hSw); (obtain ⟨hSa, hSb, hSc, -⟩ := hSw); (obtain ⟨p0, p1, p2, p3, p4⟩ := hSa.box.cells); (obtain ⟨q0, q1, q2, q3, q4⟩ := hSb.box.cells); (obtain ⟨r0, r1, r2, r3, r4⟩ := hSc.box.cells); (go_simp); (try with_reducible rfl))
    change wpAnyH _ _ _ _ _ _ _ (Act.put _ (some 72) _) _
    (try simp only [Act.put]); (try simp only [List.setIfInBounds_toArray]); (try simp only [List.set_cons_zero]); (try simp only [List.set_cons_succ])
    refine wpAnyH_take (i := 22) (v := ?v22) rfl (by kernel_rfl) (by kernel_rfl) (by kernel_rfl) (fun _ _ _ h => h) (Or.inl ⟨by kernel_rfl, ?hy22⟩) (by assumption) ?rest22
    case hy22 => ((intro wS hSw); (obtain ⟨hSa, hSb, hSc, -⟩ := hSw); (obtain ⟨p0, p1, p2, p3, p4⟩ := hSa.box.cells); (obtain ⟨q0, q1, q2, q3, q4⟩ := hSb.box.cells); (obtain ⟨r0, r1, r2, r3, r4⟩ := hSc.box.cells); (go_simp); (try with_reducible rfl))
    change wpAnyH _ _ _ _ _ _ _ (Act.put _ (some 73) _) _
    (try simp only [Act.put]); (try simp only [List.setIfInBounds_toArray]); (try simp only [List.set_cons_zero]); (try simp only [List.set_cons_succ])
    refine wpAnyH_take (i := 23) (v := ?v23) rfl (by kernel_rfl) (by kernel_rfl) (by kernel_rfl) (fun _ _ _ h => h) (Or.inl ⟨by kernel_rfl, ?hy23⟩) (by assumption) ?rest23
    case hy23 => ((intro wS hSw); (obtain ⟨hSa, hSb, hSc, -⟩ := hSw); (obtain ⟨p0, p1, p2, p3, p4⟩ := hSa.box.cells); (obtain ⟨q0, q1, q2, q3, q4⟩ := hSb.box.cells); (obtain ⟨r0, r1, r2, r3, r4⟩ := hSc.box.cells); (go_simp); (try with_reducible rfl))
    change wpAnyH _ _ _ _ _ _ _ (Act.put _ (some 2) _) _
    (try simp only [Act.put]); (try simp only [List.setIfInBounds_toArray]); (try simp only [List.set_cons_zero]); (try simp only [List.set_cons_succ])
    refine wpAnyH_done (by kernel_rfl) ?_ _
    have HBF := hide HKEEP.out.2.2.2
    go_wp2_with fail
    go_ret
    refine ⟨?_, HBF.out⟩
    have hq := HPE.out
    simp only [Array.getD_eq_getD_getElem?, List.getElem?_toArray, List.getElem?_cons_succ]
    simp [hq]

theorem lunf_walk (w : World) (sv : Value) (l : List Nat) (hs : SlG elY w sv l) : Calls Tryd.prog 6 #[sv] w fun e w' => e = .returned (.bool true) ∧ Below w.heap.size w w' := by
  obtain ⟨a, c, rfl, h1, h2, h3⟩ := hs
  by_cases h : l.length ≤ 1048576
  · exact lunf_small w a c l ⟨a, c, rfl, h1, h2, h3⟩ h
  · exact lunf_big w a l.length c (by omega)
end Go.Proofs.YtgcefippeokmcaaDoor
