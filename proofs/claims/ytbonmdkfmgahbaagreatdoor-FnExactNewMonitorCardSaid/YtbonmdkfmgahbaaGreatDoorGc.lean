/- NewMonitor answers, for every string and every Local, as the model does, leaves its arguments as they were, and its answer owns its memory: the law FnExactNewMonitor returns true; its tied card. No condition. -/
import Derived.Test.YtbonmdkfmgahbaaGreatDoorGb
import Derived.Test.YtbonmdkfmgahbaaGreatDoorLLk
import Derived.Test.YtbonmdkfmgahbaaGreatDoorGh
import Derived.Test.YtbonmdkfmgahbaaGreatDoorRows
import Derived.Test.YtbonmdkfmgahbaaGreatDoorLTree
import Derived.WalkKit
import Derived.WalkSpells
import Derived.WalkLawsBesides
import Derived.StillTailTactics
import Derived.Test.YtbonmdkfmgahbaaGreatDoorLTo
import Derived.Deep.RegionHeld3
import Derived.Test.YtbonmdkfmgahbaaGreatDoorCards
import Derived.Test.YtbonmdkfmgahbaaGreatDoorTie
import Derived.Test.YtbonmdkfmgahbaaGreatDoorLOpen
import Derived.ChangeArms
import Derived.ProofKit
import Derived.OpenShut
import Derived.Deep.DeepHandedRow
import Derived.Lib.LaidTab
/- watcherOf and MonitorValid of the program. -/
namespace Go.Proofs.YtbonmdkfmgahbaaGreatDoor.Lo
open Go.RowKit

def set9 (w : World) (b : Nat) (u0 u1 u2 u3 u4 u5 u6 u7 u8 : Value) : World := (((((((((w.setCell ⟨b, 0, none⟩ u0).setCell ⟨b, 1, none⟩ u1).setCell ⟨b, 2, none⟩ u2).setCell ⟨b, 3, none⟩ u3).setCell ⟨b, 4, none⟩ u4).setCell ⟨b, 5, none⟩ u5).setCell ⟨b, 6, none⟩ u6).setCell ⟨b, 7, none⟩ u7).setCell ⟨b, 8, none⟩ u8)
theorem set9_below {B b : Nat} {w w' : World} (h : Below B w w') (hb : B ≤ b) (u0 u1 u2 u3 u4 u5 u6 u7 u8 : Value) : Below B w (set9 w' b u0 u1 u2 u3 u4 u5 u6 u7 u8) := by
  unfold set9
  repeat (refine Below.setCell ?_ (by exact hb) _)
  exact h
theorem set9_same {w : World} {b : Nat} {bs : List Nat} (hb : ∀ x, x ∈ bs → x ≠ b) (u0 u1 u2 u3 u4 u5 u6 u7 u8 : Value) : Same w (set9 w b u0 u1 u2 u3 u4 u5 u6 u7 u8) bs := by
  unfold set9
  repeat (refine Same.setCell ?_ (fun x hx => by have := hb x hx; simpa using this) _)
  exact Same.refl _ _
def monR (m : Ne.Mon) : Nd := curR ⟨m.k, m.fr, m.ix, m.kids⟩ (letter m.ro)

set_option maxHeartbeats 1600000 in
set_option maxRecDepth 100000 in
/-- watcherOf at what is no role. -/
theorem implWatNo (w : World) (m : Ne.Mon) (sv : Value) (hs : Sl w sv m.kids) (hr : roleB m.ro = false) :
    Calls Tryz.prog 32 #[.agg #[.string m.ro, .int .i64 m.k, .string m.fr, .int .i64 m.ix, sv]] w fun e w' => e = .returned (.tuple #[.agg #[.string ⟨#[]⟩, .int .i64 0, .string ⟨#[]⟩, .int .i64 0, .slice none 0 0, .int .i64 0, .string ⟨#[]⟩, .int .i64 0, .slice none 0 0], .bool false]) ∧ Below w.heap.size w w' := by
  have hb0 := (alloc_below w (.cells #[.string m.ro, .int .i64 m.k, .string m.fr, .int .i64 m.ix, sv] ( /- t -/ 30))).alloc (by simp) (.cells #[.string ⟨#[]⟩, .int .i64 0, .string ⟨#[]⟩, .int .i64 0, .slice none 0 0, .int .i64 0, .string ⟨#[]⟩, .int .i64 0, .slice none 0 0] ( /- t -/ 61))
  have hx0 := (Ne.Box5.now w (.string m.ro) (.int .i64 m.k) (.string m.fr) (.int .i64 m.ix) sv ( /- t -/ 30)).below (alloc_below _ (.cells #[.string ⟨#[]⟩, .int .i64 0, .string ⟨#[]⟩, .int .i64 0, .slice none 0 0, .int .i64 0, .string ⟨#[]⟩, .int .i64 0, .slice none 0 0] ( /- t -/ 61)))
  have hz0 := Blk.now (w.alloc (.cells #[.string m.ro, .int .i64 m.k, .string m.fr, .int .i64 m.ix, sv] ( /- t -/ 30))) #[.string ⟨#[]⟩, .int .i64 0, .string ⟨#[]⟩, .int .i64 0, .slice none 0 0, .int .i64 0, .string ⟨#[]⟩, .int .i64 0, .slice none 0 0] ( /- t -/ 61)
  rw [show (w.alloc (.cells #[.string m.ro, .int .i64 m.k, .string m.fr, .int .i64 m.ix, sv] ( /- t -/ 30))).heap.size = w.heap.size + 1 from by simp] at hz0
  have HSL := hide (hs.still (Still.of_below hb0))
  have HB0 := hide hb0
  have HX0 := hide hx0
  have HZ0 := hide hz0
  obtain ⟨x0, x1, x2, x3, x4⟩ := HX0.out.cells
  have hxl := HX0.out.lt
  have HR := hide (fun (W : World) => (show Calls Tryz.prog 46 #[.string m.ro] W (fun e w' => e = .returned (.bool false) ∧ W = w') by have := implRole m.ro W; rw [hr] at this; exact this))
  clear hs hb0 hx0 hz0 hr
  go_enter Tryz.func32, Tryz.ntmps32
  go_wp2_with fail
  generalize (w.alloc (.cells #[.string m.ro, .int .i64 m.k, .string m.fr, .int .i64 m.ix, sv] ( /- t -/ 30))).alloc (.cells #[.string ⟨#[]⟩, .int .i64 0, .string ⟨#[]⟩, .int .i64 0, .slice none 0 0, .int .i64 0, .string ⟨#[]⟩, .int .i64 0, .slice none 0 0] ( /- t -/ 61)) = W at *
  refine (HR.out _).mono ?_
  rintro e w1 ⟨rfl, rfl⟩
  have z0 := HZ0.out.cell 0
  have z1 := HZ0.out.cell 1
  have z2 := HZ0.out.cell 2
  have z3 := HZ0.out.cell 3
  have z4 := HZ0.out.cell 4
  have z5 := HZ0.out.cell 5
  have z6 := HZ0.out.cell 6
  have z7 := HZ0.out.cell 7
  have z8 := HZ0.out.cell 8
  have fz := HZ0.out.frozen
  have hzl := HZ0.out.lt
  simp only [List.getElem?_toArray, List.getElem?_cons_succ, List.getElem?_cons_zero] at z0 z1 z2 z3 z4 z5 z6 z7 z8
  go_wp2_with fail
  refine bodyPost_ret (v := .tuple #[.agg #[.string ⟨#[]⟩, .int .i64 0, .string ⟨#[]⟩, .int .i64 0, .slice none 0 0, .int .i64 0, .string ⟨#[]⟩, .int .i64 0, .slice none 0 0], .bool false]) (by simp [results, Tryz.results32, go_sem, *]) rfl ?_
  exact ⟨rfl, set9_below HB0.out (by omega) _ _ _ _ _ _ _ _ _⟩

set_option maxHeartbeats 1600000 in
set_option maxRecDepth 100000 in
/-- watcherOf at a role. -/
theorem implWat (w : World) (m : Ne.Mon) (sa : Option Addr) (sc : Nat) (hs : Sl w (.slice sa m.kids.len sc) m.kids) (hr : roleB m.ro = true) (R : Nd) (hR : R = monR m) (ok : Bool) (hok : ok = monOk m) :
    Calls Tryz.prog 32 #[.agg #[.string m.ro, .int .i64 m.k, .string m.fr, .int .i64 m.ix, .slice sa m.kids.len sc]] w fun e w' => ∃ u bs, e = .returned (.tuple #[.agg #[.string m.ro, .int .i64 m.k, .string m.fr, .int .i64 m.ix, .slice sa m.kids.len sc, .int .i64 R.k, .string R.fr, .int .i64 R.ix, u], .bool ok]) ∧ Ow w' u R.kids bs ∧ (∀ b, b ∈ bs → w.heap.size ≤ b) ∧ bs.Nodup ∧ Below w.heap.size w w' := by
  have hb0 := (alloc_below w (.cells #[.string m.ro, .int .i64 m.k, .string m.fr, .int .i64 m.ix, (.slice sa m.kids.len sc)] ( /- t -/ 30))).alloc (by simp) (.cells #[.string ⟨#[]⟩, .int .i64 0, .string ⟨#[]⟩, .int .i64 0, .slice none 0 0, .int .i64 0, .string ⟨#[]⟩, .int .i64 0, .slice none 0 0] ( /- t -/ 61))
  have hx0 := (Ne.Box5.now w (.string m.ro) (.int .i64 m.k) (.string m.fr) (.int .i64 m.ix) (.slice sa m.kids.len sc) ( /- t -/ 30)).below (alloc_below _ (.cells #[.string ⟨#[]⟩, .int .i64 0, .string ⟨#[]⟩, .int .i64 0, .slice none 0 0, .int .i64 0, .string ⟨#[]⟩, .int .i64 0, .slice none 0 0] ( /- t -/ 61)))
  have hz0 := Blk.now (w.alloc (.cells #[.string m.ro, .int .i64 m.k, .string m.fr, .int .i64 m.ix, (.slice sa m.kids.len sc)] ( /- t -/ 30))) #[.string ⟨#[]⟩, .int .i64 0, .string ⟨#[]⟩, .int .i64 0, .slice none 0 0, .int .i64 0, .string ⟨#[]⟩, .int .i64 0, .slice none 0 0] ( /- t -/ 61)
  rw [show (w.alloc (.cells #[.string m.ro, .int .i64 m.k, .string m.fr, .int .i64 m.ix, (.slice sa m.kids.len sc)] ( /- t -/ 30))).heap.size = w.heap.size + 1 from by simp] at hz0
  have HSL := hide (hs.still (Still.of_below hb0))
  have HB0 := hide hb0
  have HX0 := hide hx0
  have HZ0 := hide hz0
  obtain ⟨x0, x1, x2, x3, x4⟩ := HX0.out.cells
  have hxl := HX0.out.lt
  have HR := hide (fun (W : World) => (show Calls Tryz.prog 46 #[.string m.ro] W (fun e w' => e = .returned (.bool true) ∧ W = w') by have := implRole m.ro W; rw [hr] at this; exact this))
  have hlet := role_letter1 hr
  have HC := hide (fun (W : World) (hs : Sl W (.slice sa m.kids.len sc) m.kids) => (show Calls Tryz.prog 47 #[.agg #[.int .i64 m.k, .string m.fr, .int .i64 m.ix, .slice sa m.kids.len sc], .string m.ro] W (MadeR R ok W) by
    have := implCur W ⟨m.k, m.fr, m.ix, m.kids⟩ (.slice sa m.kids.len sc) (letter m.ro) hs
    rw [← hlet] at this
    rw [hR, hok]
    unfold monOk monR
    rw [hr, Bool.true_and]
    exact this))
  clear hs hb0 hx0 hz0 hr hlet hR hok
  go_enter Tryz.func32, Tryz.ntmps32
  go_wp2_with fail
  generalize (w.alloc (.cells #[.string m.ro, .int .i64 m.k, .string m.fr, .int .i64 m.ix, .slice sa m.kids.len sc] ( /- t -/ 30))).alloc (.cells #[.string ⟨#[]⟩, .int .i64 0, .string ⟨#[]⟩, .int .i64 0, .slice none 0 0, .int .i64 0, .string ⟨#[]⟩, .int .i64 0, .slice none 0 0] ( /- t -/ 61)) = W at *
  refine (HR.out _).mono ?_
  rintro e w1 ⟨rfl, rfl⟩
  go_wp2_with fail
  refine (HC.out _ HSL.out).mono ?_
  rintro e w2 ⟨u, bs, rfl, how, hge, hnd, hb⟩
  obtain ⟨ua, uc, rfl⟩ := how.val
  have hW := HB0.out.size
  have hzW := HZ0.out.lt
  have hbA := alloc_below w2 (.cells #[.int .i64 R.k, .string R.fr, .int .i64 R.ix, .slice ua R.kids.len uc] ( /- t -/ 28))
  have HX := hide ((HX0.out.below hb).below hbA)
  have HZ := hide ((HZ0.out.below hb).below hbA)
  have HB := hide (HB0.out.trans ((hb.trans (hbA.mono hb.size)).mono HB0.out.size))
  have HO := hide (how.same (Same.of_below hbA how.lt))
  have HL := hide (Box4.now w2 (.int .i64 R.k) (.string R.fr) (.int .i64 R.ix) (.slice ua R.kids.len uc) ( /- t -/ 28))
  have HGE := hide hge
  clear hb hbA how hge x0 x1 x2 x3 x4 hxl HX0 HZ0 HB0
  obtain ⟨x0, x1, x2, x3, x4⟩ := HX.out.cells
  have hxl := HX.out.lt
  obtain ⟨y0, y1, y2, y3⟩ := HL.out.cells
  have hyl := HL.out.lt
  have z0 := HZ.out.cell 0
  have z1 := HZ.out.cell 1
  have z2 := HZ.out.cell 2
  have z3 := HZ.out.cell 3
  have z4 := HZ.out.cell 4
  have z5 := HZ.out.cell 5
  have z6 := HZ.out.cell 6
  have z7 := HZ.out.cell 7
  have z8 := HZ.out.cell 8
  have fz := HZ.out.frozen
  have hzl := HZ.out.lt
  simp only [List.getElem?_toArray, List.getElem?_cons_succ, List.getElem?_cons_zero] at z0 z1 z2 z3 z4 z5 z6 z7 z8
  go_wp2_with fail
  refine bodyPost_ret (v := .tuple #[.agg #[.string m.ro, .int .i64 m.k, .string m.fr, .int .i64 m.ix, .slice sa m.kids.len sc, .int .i64 R.k, .string R.fr, .int .i64 R.ix, .slice ua R.kids.len uc], .bool ok]) (by simp [results, Tryz.results32, go_sem, *]) rfl ?_
  refine ⟨_, bs, rfl, HO.out.same (set9_same (b := w.heap.size + 1) (fun x hx => by have := HGE.out x hx; omega) _ _ _ _ _ _ _ _ _), fun x hx => by have := HGE.out x hx; omega, hnd, set9_below HB.out (by omega) _ _ _ _ _ _ _ _ _⟩

set_option maxHeartbeats 800000 in
set_option maxRecDepth 100000 in
/-- MonitorValid of the program. -/
theorem implMonValid (w : World) (m : Ne.Mon) (sv : Value) (hs : Sl w sv m.kids) :
    Calls Tryz.prog 24 #[.agg #[.string m.ro, .int .i64 m.k, .string m.fr, .int .i64 m.ix, sv]] w fun e w' => e = .returned (.bool (monOk m)) ∧ Below w.heap.size w w' := by
  obtain ⟨sa, sc, rfl⟩ : ∃ a c, sv = .slice a m.kids.len c := by obtain ⟨a, c, e, -⟩ := hs; exact ⟨a, c, e⟩
  have hb0 := alloc_below w (.cells #[.string m.ro, .int .i64 m.k, .string m.fr, .int .i64 m.ix, .slice sa m.kids.len sc] ( /- t -/ 30))
  have HSL := hide (hs.still (Still.of_below hb0))
  have HB0 := hide hb0
  clear hs hb0
  cases hr : roleB m.ro with
  | false =>
    have HM := hide (show monOk m = false by unfold monOk; rw [hr]; rfl)
    go_enter Tryz.func24, Tryz.ntmps24
    go_wp2_with fail
    generalize w.alloc (.cells #[.string m.ro, .int .i64 m.k, .string m.fr, .int .i64 m.ix, .slice sa m.kids.len sc] ( /- t -/ 30)) = W at *
    refine (implWatNo W m _ HSL.out hr).mono ?_
    rintro e w1 ⟨rfl, hb⟩
    have HB := hide ((HB0.out.trans (hb.mono HB0.out.size)).alloc (by have := HB0.out.size; have := hb.size; omega) (.cells #[.string ⟨#[]⟩, .int .i64 0, .string ⟨#[]⟩, .int .i64 0, .slice none 0 0, .int .i64 0, .string ⟨#[]⟩, .int .i64 0, .slice none 0 0] ( /- t -/ 61)))
    clear hb hr
    go_wp2_with fail
    go_ret
    exact ⟨by rw [HM.out]; rfl, HB.out⟩
  | true =>
    obtain ⟨R, hR⟩ : ∃ R, R = monR m := ⟨_, rfl⟩
    obtain ⟨ok, hok⟩ : ∃ ok, ok = monOk m := ⟨_, rfl⟩
    rw [← hok]
    have HRO := hide (And.intro hr (And.intro hR hok))
    clear hr hR hok
    go_enter Tryz.func24, Tryz.ntmps24
    go_wp2_with fail
    generalize w.alloc (.cells #[.string m.ro, .int .i64 m.k, .string m.fr, .int .i64 m.ix, .slice sa m.kids.len sc] ( /- t -/ 30)) = W at *
    refine (implWat W m sa sc HSL.out HRO.out.1 R HRO.out.2.1 ok HRO.out.2.2).mono ?_
    rintro e w1 ⟨u, bs, rfl, how, -, -, hb⟩
    obtain ⟨ua, uc, rfl⟩ := how.val
    have HB := hide (HB0.out.trans (hb.mono HB0.out.size))
    have hs1 := hb.size
    have hs0 := HB0.out.size
    clear hb how
    go_wp2_with fail
    go_ret
    exact ⟨rfl, HB.out.alloc (by omega) _⟩
end Go.Proofs.YtbonmdkfmgahbaaGreatDoor.Lo

/- copyLocal of the program. -/
namespace Go.Proofs.YtbonmdkfmgahbaaGreatDoor.Lo
open Go.RowKit

def cpyR (g : Nd) : Nd := if okG g then g else zeroNd

set_option maxHeartbeats 2000000 in
set_option maxRecDepth 100000 in
/-- copyLocal of the program. -/
theorem implCopy (w : World) (g : Nd) (sv : Value) (hs : Sl w sv g.kids) :
    Calls Tryz.prog 25 #[.agg #[.int .i64 g.k, .string g.fr, .int .i64 g.ix, sv]] w (MadeR (cpyR g) (okG g) w) := by
  have HS := hide hs
  have hb0 := (alloc_below w (.cells #[.int .i64 g.k, .string g.fr, .int .i64 g.ix, sv] ( /- t -/ 28))).alloc (by simp) (.cells #[.int .i64 0, .string ⟨#[]⟩, .int .i64 0, .slice none 0 0] ( /- t -/ 28))
  have hz0 := Box4.now (w.alloc (.cells #[.int .i64 g.k, .string g.fr, .int .i64 g.ix, sv] ( /- t -/ 28))) (.int .i64 0) (.string ⟨#[]⟩) (.int .i64 0) (.slice none 0 0) ( /- t -/ 28)
  rw [show (w.alloc (.cells #[.int .i64 g.k, .string g.fr, .int .i64 g.ix, sv] ( /- t -/ 28))).heap.size = w.heap.size + 1 from by simp] at hz0
  have HB0 := hide hb0
  have HZ0 := hide hz0
  obtain ⟨ok, hok⟩ : ∃ ok, ok = okG g := ⟨_, rfl⟩
  obtain ⟨R, hR⟩ : ∃ R, R = cpyR g := ⟨_, rfl⟩
  rw [← hR, ← hok]
  have HRK := hide (And.intro hok hR)
  clear hs hb0 hz0 hok hR
  go_enter Tryz.func25, Tryz.ntmps25
  go_wp2_with fail
  generalize (w.alloc (.cells #[.int .i64 g.k, .string g.fr, .int .i64 g.ix, sv] ( /- t -/ 28))).alloc (.cells #[.int .i64 0, .string ⟨#[]⟩, .int .i64 0, .slice none 0 0] ( /- t -/ 28)) = W at *
  refine (implLink W g.k g.ix g.fr sv g.kids (HS.out.still (Still.of_below HB0.out))).mono ?_
  rintro e w1 ⟨u, bs, rfl, hu, hb, hok⟩
  have HZ1 := hide (HZ0.out.below hb)
  have HB1 := hide (HB0.out.trans (hb.mono HB0.out.size))
  have HOK := hide hok
  clear hb HZ0 HB0 hok
  cases hok : okN g.k g.fr g.ix g.kids with
  | false =>
    have hr : okG g = false := hok
    have HR := hide hr
    obtain ⟨z0, z1, z2, z3⟩ := HZ1.out.cells
    have fz := HZ1.out.frozen
    have hzl := HZ1.out.lt
    clear hok hr HOK
    rcases hu with rfl | ⟨T, x, rfl⟩
    all_goals
      go_wp2_with fail
      refine bodyPost_ret (v := .tuple #[.agg #[.int .i64 0, .string ⟨#[]⟩, .int .i64 0, .slice none 0 0], .bool false]) (by simp [results, Tryz.results25, go_sem, *]) rfl ?_
      have e1 : cpyR g = zeroNd := by unfold cpyR; rw [HR.out]; rfl
      rw [HRK.out.1, HRK.out.2, HR.out, e1]
      refine MadeR.zero ?_
      repeat (refine Below.setCell ?_ (by first | (simp; done) | (simp; omega)) _)
      exact HB1.out
  | true =>
    have hg : okG g = true := hok
    obtain ⟨hw, hh, hsz⟩ := okG_w hg
    have hln := (HOK.out hok).1
    obtain ⟨T, x, rfl⟩ := hln.val
    have hOK : okG g = smallN g := by unfold smallN; rw [okG_of_w hw]
    have hRR : cpyR g = if smallN g = true then g else zeroNd := by unfold cpyR; rw [hOK]
    have HL := hide (And.intro hln hw)
    have HRR := hide (And.intro (HRK.out.1.trans hOK) (HRK.out.2.trans hRR))
    clear hok hg hw hh hsz hln hOK hRR HOK hu
    go_wp2_with fail
    refine (unlinkL_calls w1 w1 g g _ [] bs (by simp) HL.out.1 (by trivial) HL.out.2 (Below.refl _ _) ⟨_, _, rfl⟩ (cpN_nil g)).mono ?_
    rw [← HRR.out.2, ← HRR.out.1]
    rintro e w3 ⟨u3, bs3, rfl, how, hge, hnd, hb3⟩
    obtain ⟨ua, uc, rfl⟩ := how.val
    have hz3 := HZ1.out.below hb3
    have hw2l := HZ1.out.lt
    have HB3 := hide (HB1.out.trans (hb3.mono HB1.out.size))
    obtain ⟨z0, z1, z2, z3⟩ := hz3.cells
    have fz := hz3.frozen
    have hzl := hz3.lt
    have HOW := hide how
    have HGE := hide hge
    clear how hge hb3 hz3 HL HB1
    go_wp2_with fail
    refine bodyPost_ret (v := .tuple #[.agg #[.int .i64 R.k, .string R.fr, .int .i64 R.ix, .slice ua R.kids.len uc], .bool ok]) (by simp [results, Tryz.results25, go_sem, *]) rfl ?_
    have q : ∀ b, b ∈ bs3 → w.heap.size + 1 < b := fun b h => by have := HGE.out b h; omega
    refine ⟨_, bs3, rfl, HOW.out.same (same_setAll (fun b hb => Nat.ne_of_gt (q b hb)) _ _ _ _), fun b hb => by have := q b hb; omega, hnd, ?_⟩
    repeat (refine Below.setCell ?_ (by first | (simp; done) | (simp; omega)) _)
    exact HB3.out
end Go.Proofs.YtbonmdkfmgahbaaGreatDoor.Lo

/- NewMonitor of the model and of the program. -/
namespace Go.Proofs.YtbonmdkfmgahbaaGreatDoor.Lo
open Go.RowKit

def zeroMon : Ne.Mon := ⟨⟨#[]⟩, 0, ⟨#[]⟩, 0, .nil⟩
def newM (m : Ne.Mon) : Ne.Mon := if monOk m then m else zeroMon
/-- A monitor in new memory, and a flag. -/
def MadeM (R : Ne.Mon) (ok : Bool) (w : World) (e : Ending) (w' : World) : Prop :=
  ∃ u bs, e = .returned (.tuple #[.agg #[.string R.ro, .int .i64 R.k, .string R.fr, .int .i64 R.ix, u], .bool ok]) ∧ Ow w' u R.kids bs ∧ (∀ b, b ∈ bs → w.heap.size ≤ b) ∧ bs.Nodup ∧ Below w.heap.size w w'
theorem MadeM.zero {w w' : World} (h : Below w.heap.size w w') : MadeM zeroMon false w (.returned (.tuple #[.agg #[.string ⟨#[]⟩, .int .i64 0, .string ⟨#[]⟩, .int .i64 0, .slice none 0 0], .bool false])) w' :=
  ⟨_, [], rfl, ⟨none, 0, rfl, Nat.le_refl _, Nat.zero_le _, Or.inl ⟨rfl, rfl⟩⟩, fun _ h => absurd h (List.not_mem_nil), List.nodup_nil, h⟩
theorem mon_okG {m : Ne.Mon} (h : monOk m = true) : wN ⟨m.k, m.fr, m.ix, m.kids⟩ 0 0 = true ∧ hN ⟨m.k, m.fr, m.ix, m.kids⟩ ≤ 40 ∧ okG ⟨m.k, m.fr, m.ix, m.kids⟩ = true := by
  unfold monOk curOk unfOk at h
  simp only [Bool.and_eq_true] at h
  exact ⟨(okG_w h.2.2.1).1, (okG_w h.2.2.1).2.1, h.2.2.1⟩
theorem newM_sz (m : Ne.Mon) : (newM m).kids.sz ≤ 400 := by
  unfold newM
  cases h : monOk m with
  | false => exact Nat.zero_le _
  | true =>
    have := (okG_w (mon_okG h).2.2).2.2
    simp only [if_true]
    show m.kids.sz ≤ 400
    have e : (⟨m.k, m.fr, m.ix, m.kids⟩ : Nd).kids = m.kids := rfl
    rw [e] at this
    omega

set_option maxHeartbeats 2000000 in
set_option maxRecDepth 100000 in
/-- NewMonitor of the model. -/
theorem specNewMon (w : World) (m : Ne.Mon) (sa : Option Addr) (sc : Nat) (hs : Sl w (.slice sa m.kids.len sc) m.kids) (hf : m.Fit) (hsz : m.kids.sz ≤ 1048576) :
    Calls Tryz.prog 6 #[.string m.ro, .agg #[.int .i64 m.k, .string m.fr, .int .i64 m.ix, .slice sa m.kids.len sc]] w (MadeM (newM m) (monOk m) w) := by
  have hb0 : Below w.heap.size w (((w.alloc (.cells #[.int .i64 m.k, .string m.fr, .int .i64 m.ix, .slice sa m.kids.len sc] ( /- t -/ 28))).alloc (.cells #[.string ⟨#[]⟩, .int .i64 0, .string ⟨#[]⟩, .int .i64 0, .slice none 0 0] ( /- t -/ 30))).alloc (.cells #[.string m.ro, .int .i64 m.k, .string m.fr, .int .i64 m.ix, .slice sa m.kids.len sc] ( /- t -/ 30))) := ((alloc_below w _).alloc (by simp) _).alloc (by simp; omega) _
  have hx0 := ((Box4.now w (.int .i64 m.k) (.string m.fr) (.int .i64 m.ix) (.slice sa m.kids.len sc) ( /- t -/ 28)).below (alloc_below _ (.cells #[.string ⟨#[]⟩, .int .i64 0, .string ⟨#[]⟩, .int .i64 0, .slice none 0 0] ( /- t -/ 30)))).below (alloc_below _ (.cells #[.string m.ro, .int .i64 m.k, .string m.fr, .int .i64 m.ix, .slice sa m.kids.len sc] ( /- t -/ 30)))
  have hz0 := (Ne.Box5.now (w.alloc (.cells #[.int .i64 m.k, .string m.fr, .int .i64 m.ix, .slice sa m.kids.len sc] ( /- t -/ 28))) (.string ⟨#[]⟩) (.int .i64 0) (.string ⟨#[]⟩) (.int .i64 0) (.slice none 0 0) ( /- t -/ 30)).below (alloc_below _ (.cells #[.string m.ro, .int .i64 m.k, .string m.fr, .int .i64 m.ix, .slice sa m.kids.len sc] ( /- t -/ 30)))
  have hp0 := Ne.Box5.now ((w.alloc (.cells #[.int .i64 m.k, .string m.fr, .int .i64 m.ix, .slice sa m.kids.len sc] ( /- t -/ 28))).alloc (.cells #[.string ⟨#[]⟩, .int .i64 0, .string ⟨#[]⟩, .int .i64 0, .slice none 0 0] ( /- t -/ 30))) (.string m.ro) (.int .i64 m.k) (.string m.fr) (.int .i64 m.ix) (.slice sa m.kids.len sc) ( /- t -/ 30)
  rw [show (w.alloc (.cells #[.int .i64 m.k, .string m.fr, .int .i64 m.ix, .slice sa m.kids.len sc] ( /- t -/ 28))).heap.size = w.heap.size + 1 from by simp] at hz0
  rw [show ((w.alloc (.cells #[.int .i64 m.k, .string m.fr, .int .i64 m.ix, .slice sa m.kids.len sc] ( /- t -/ 28))).alloc (.cells #[.string ⟨#[]⟩, .int .i64 0, .string ⟨#[]⟩, .int .i64 0, .slice none 0 0] ( /- t -/ 30))).heap.size = w.heap.size + 2 from by simp] at hp0
  have HSL := hide (hs.still (Still.of_below hb0))
  have HB0 := hide hb0
  have HX0 := hide hx0
  have HZ0 := hide hz0
  have HP0 := hide hp0
  have HF := hide (And.intro hf hsz)
  clear hs hf hsz hb0 hx0 hz0 hp0
  go_enter Tryz.func6, Tryz.ntmps6
  go_wp2_with fail
  generalize ((w.alloc (.cells #[.int .i64 m.k, .string m.fr, .int .i64 m.ix, .slice sa m.kids.len sc] ( /- t -/ 28))).alloc (.cells #[.string ⟨#[]⟩, .int .i64 0, .string ⟨#[]⟩, .int .i64 0, .slice none 0 0] ( /- t -/ 30))).alloc (.cells #[.string m.ro, .int .i64 m.k, .string m.fr, .int .i64 m.ix, .slice sa m.kids.len sc] ( /- t -/ 30)) = W at *
  refine (specMonValid W m _ HSL.out HF.out.1 HF.out.2).mono ?_
  rintro e w1 ⟨rfl, hb⟩
  have HX1 := hide (HX0.out.below hb)
  have HZ1 := hide (HZ0.out.below hb)
  have HP1 := hide (HP0.out.below hb)
  have HB1 := hide hb
  have HBW := hide (HB0.out.trans (hb.mono HB0.out.size))
  have hsz0 := HP0.out.lt
  have hs1 := hb.size
  clear hb HX0 HZ0 HP0
  cases hok : monOk m with
  | false =>
    have HOK := hide hok
    have HR := hide (show newM m = zeroMon by unfold newM; rw [hok]; rfl)
    obtain ⟨z0, z1, z2, z3, z4⟩ := HZ1.out.cells
    have fz := HZ1.out.frozen
    have hzl := HZ1.out.lt
    clear hok
    go_wp2_with fail
    refine bodyPost_ret (v := .tuple #[.agg #[.string ⟨#[]⟩, .int .i64 0, .string ⟨#[]⟩, .int .i64 0, .slice none 0 0], .bool false]) (by simp [results, Tryz.results6, go_sem, *]) rfl ?_
    rw [HR.out, HOK.out]
    refine MadeM.zero ?_
    repeat (refine Below.setCell ?_ (by first | (simp; done) | (simp; omega)) _)
    exact HBW.out
  | true =>
    have HOK := hide hok
    have HR := hide (show newM m = m by unfold newM; rw [hok]; rfl)
    have HG := hide (mon_okG hok)
    obtain ⟨x0, x1, x2, x3⟩ := HX1.out.cells
    have hxl := HX1.out.lt
    clear hok
    go_wp2_with fail
    have hcp : CopyOk ⟨m.k, m.fr, m.ix, m.kids⟩ := copy_ok ⟨m.k, m.fr, m.ix, m.kids⟩ 0 0 (by omega) (by omega) HG.out.1 (mon_fit HF.out.1) (by have := HG.out.2.1; omega)
    refine (copy_calls w1 ⟨m.k, m.fr, m.ix, m.kids⟩ _ (HSL.out.still (Still.of_below HB1.out)) hcp).mono ?_
    rintro e w2 ⟨u, bs, rfl, how, hge, hnd, hb2⟩
    obtain ⟨ua, uc, rfl⟩ := how.val
    have HO := hide how
    have HGE := hide hge
    have HX2 := hide (HX1.out.below hb2)
    have HZ2 := hide (HZ1.out.below hb2)
    have HP2 := hide (HP1.out.below hb2)
    have HB2 := hide (HBW.out.trans (hb2.mono (by have := HBW.out.size; omega)))
    clear how hge hb2 x0 x1 x2 x3 hxl
    obtain ⟨z0, z1, z2, z3, z4⟩ := HZ2.out.cells
    have fz := HZ2.out.frozen
    have hzl := HZ2.out.lt
    obtain ⟨p0, p1, p2, p3, p4⟩ := HP2.out.cells
    have fp := HP2.out.frozen
    have hpl := HP2.out.lt
    go_wp2_with fail
    refine bodyPost_ret (v := .tuple #[.agg #[.string m.ro, .int .i64 m.k, .string m.fr, .int .i64 m.ix, .slice ua m.kids.len uc], .bool true]) (by simp [results, Tryz.results6, go_sem, *]) rfl ?_
    rw [HR.out, HOK.out]
    refine ⟨_, bs, rfl, HO.out.same ?_, fun x hx => by have := HGE.out x hx; omega, hnd, ?_⟩
    · repeat (refine Same.setCell ?_ (fun x hx => by have := HGE.out x hx; simp; omega) _)
      exact Same.refl _ _
    · repeat (refine Below.setCell ?_ (by first | (simp; done) | (simp; omega)) _)
      exact HB2.out

set_option maxHeartbeats 2000000 in
set_option maxRecDepth 100000 in
/-- NewMonitor of the program. -/
theorem implNewMon (w : World) (m : Ne.Mon) (sa : Option Addr) (sc : Nat) (hs : Sl w (.slice sa m.kids.len sc) m.kids)  :
    Calls Tryz.prog 8 #[.string m.ro, .agg #[.int .i64 m.k, .string m.fr, .int .i64 m.ix, .slice sa m.kids.len sc]] w (MadeM (newM m) (monOk m) w) := by
  have hb0 : Below w.heap.size w (((w.alloc (.cells #[.int .i64 m.k, .string m.fr, .int .i64 m.ix, .slice sa m.kids.len sc] ( /- t -/ 28))).alloc (.cells #[.string ⟨#[]⟩, .int .i64 0, .string ⟨#[]⟩, .int .i64 0, .slice none 0 0] ( /- t -/ 30))).alloc (.cells #[.string m.ro, .int .i64 m.k, .string m.fr, .int .i64 m.ix, .slice sa m.kids.len sc] ( /- t -/ 30))) := ((alloc_below w _).alloc (by simp) _).alloc (by simp; omega) _
  have hx0 := ((Box4.now w (.int .i64 m.k) (.string m.fr) (.int .i64 m.ix) (.slice sa m.kids.len sc) ( /- t -/ 28)).below (alloc_below _ (.cells #[.string ⟨#[]⟩, .int .i64 0, .string ⟨#[]⟩, .int .i64 0, .slice none 0 0] ( /- t -/ 30)))).below (alloc_below _ (.cells #[.string m.ro, .int .i64 m.k, .string m.fr, .int .i64 m.ix, .slice sa m.kids.len sc] ( /- t -/ 30)))
  have hz0 := (Ne.Box5.now (w.alloc (.cells #[.int .i64 m.k, .string m.fr, .int .i64 m.ix, .slice sa m.kids.len sc] ( /- t -/ 28))) (.string ⟨#[]⟩) (.int .i64 0) (.string ⟨#[]⟩) (.int .i64 0) (.slice none 0 0) ( /- t -/ 30)).below (alloc_below _ (.cells #[.string m.ro, .int .i64 m.k, .string m.fr, .int .i64 m.ix, .slice sa m.kids.len sc] ( /- t -/ 30)))
  have hp0 := Ne.Box5.now ((w.alloc (.cells #[.int .i64 m.k, .string m.fr, .int .i64 m.ix, .slice sa m.kids.len sc] ( /- t -/ 28))).alloc (.cells #[.string ⟨#[]⟩, .int .i64 0, .string ⟨#[]⟩, .int .i64 0, .slice none 0 0] ( /- t -/ 30))) (.string m.ro) (.int .i64 m.k) (.string m.fr) (.int .i64 m.ix) (.slice sa m.kids.len sc) ( /- t -/ 30)
  rw [show (w.alloc (.cells #[.int .i64 m.k, .string m.fr, .int .i64 m.ix, .slice sa m.kids.len sc] ( /- t -/ 28))).heap.size = w.heap.size + 1 from by simp] at hz0
  rw [show ((w.alloc (.cells #[.int .i64 m.k, .string m.fr, .int .i64 m.ix, .slice sa m.kids.len sc] ( /- t -/ 28))).alloc (.cells #[.string ⟨#[]⟩, .int .i64 0, .string ⟨#[]⟩, .int .i64 0, .slice none 0 0] ( /- t -/ 30))).heap.size = w.heap.size + 2 from by simp] at hp0
  have HSL := hide (hs.still (Still.of_below hb0))
  have HB0 := hide hb0
  have HX0 := hide hx0
  have HZ0 := hide hz0
  have HP0 := hide hp0
  clear hs hb0 hx0 hz0 hp0
  go_enter Tryz.func8, Tryz.ntmps8
  go_wp2_with fail
  generalize ((w.alloc (.cells #[.int .i64 m.k, .string m.fr, .int .i64 m.ix, .slice sa m.kids.len sc] ( /- t -/ 28))).alloc (.cells #[.string ⟨#[]⟩, .int .i64 0, .string ⟨#[]⟩, .int .i64 0, .slice none 0 0] ( /- t -/ 30))).alloc (.cells #[.string m.ro, .int .i64 m.k, .string m.fr, .int .i64 m.ix, .slice sa m.kids.len sc] ( /- t -/ 30)) = W at *
  refine (implMonValid W m _ HSL.out).mono ?_
  rintro e w1 ⟨rfl, hb⟩
  have HX1 := hide (HX0.out.below hb)
  have HZ1 := hide (HZ0.out.below hb)
  have HP1 := hide (HP0.out.below hb)
  have HB1 := hide hb
  have HBW := hide (HB0.out.trans (hb.mono HB0.out.size))
  have hsz0 := HP0.out.lt
  have hs1 := hb.size
  clear hb HX0 HZ0 HP0
  cases hok : monOk m with
  | false =>
    have HOK := hide hok
    have HR := hide (show newM m = zeroMon by unfold newM; rw [hok]; rfl)
    obtain ⟨z0, z1, z2, z3, z4⟩ := HZ1.out.cells
    have fz := HZ1.out.frozen
    have hzl := HZ1.out.lt
    clear hok
    go_wp2_with fail
    refine bodyPost_ret (v := .tuple #[.agg #[.string ⟨#[]⟩, .int .i64 0, .string ⟨#[]⟩, .int .i64 0, .slice none 0 0], .bool false]) (by simp [results, Tryz.results8, go_sem, *]) rfl ?_
    rw [HR.out, HOK.out]
    refine MadeM.zero ?_
    repeat (refine Below.setCell ?_ (by first | (simp; done) | (simp; omega)) _)
    exact HBW.out
  | true =>
    have HOK := hide hok
    have HR := hide (show newM m = m by unfold newM; rw [hok]; rfl)
    have HG := hide (mon_okG hok)
    obtain ⟨x0, x1, x2, x3⟩ := HX1.out.cells
    have hxl := HX1.out.lt
    clear hok
    go_wp2_with fail
    refine (implCopy w1 ⟨m.k, m.fr, m.ix, m.kids⟩ _ (HSL.out.still (Still.of_below HB1.out))).mono ?_
    rw [show cpyR ⟨m.k, m.fr, m.ix, m.kids⟩ = ⟨m.k, m.fr, m.ix, m.kids⟩ by unfold cpyR; rw [HG.out.2.2]; rfl, HG.out.2.2]
    rintro e w2 ⟨u, bs, rfl, how, hge, hnd, hb2⟩
    obtain ⟨ua, uc, rfl⟩ := how.val
    have HO := hide how
    have HGE := hide hge
    have HX2 := hide (HX1.out.below hb2)
    have HZ2 := hide (HZ1.out.below hb2)
    have HP2 := hide (HP1.out.below hb2)
    have HB2 := hide (HBW.out.trans (hb2.mono (by have := HBW.out.size; omega)))
    clear how hge hb2 x0 x1 x2 x3 hxl
    obtain ⟨z0, z1, z2, z3, z4⟩ := HZ2.out.cells
    have fz := HZ2.out.frozen
    have hzl := HZ2.out.lt
    obtain ⟨p0, p1, p2, p3, p4⟩ := HP2.out.cells
    have fp := HP2.out.frozen
    have hpl := HP2.out.lt
    go_wp2_with fail
    refine bodyPost_ret (v := .tuple #[.agg #[.string m.ro, .int .i64 m.k, .string m.fr, .int .i64 m.ix, .slice ua m.kids.len uc], .bool true]) (by simp [results, Tryz.results8, go_sem, *]) rfl ?_
    rw [HR.out, HOK.out]
    refine ⟨_, bs, rfl, HO.out.same ?_, fun x hx => by have := HGE.out x hx; omega, hnd, ?_⟩
    · repeat (refine Same.setCell ?_ (fun x hx => by have := HGE.out x hx; simp; omega) _)
      exact Same.refl _ _
    · repeat (refine Below.setCell ?_ (by first | (simp; done) | (simp; omega)) _)
      exact HB2.out
end Go.Proofs.YtbonmdkfmgahbaaGreatDoor.Lo

/- markMonitor, heldMonitor. -/
namespace Go.Proofs.YtbonmdkfmgahbaaGreatDoor.Lo
open Go.RowKit

set_option maxHeartbeats 400000 in
theorem mark_mon (f : F) (w : World) (u : Value) (bs : List Nat) (ro : ByteArray) (k ix : Int) (fr : ByteArray) (m : Nat) (how : Ow w u f bs) (hnd : bs.Nodup) (hm1 : 1 ≤ m) (hm2 : m + 4 * f.sz ≤ 16777216) :
    Calls Tryz.prog 12 #[.agg #[.string ro, .int .i64 k, .string fr, .int .i64 ix, u], .int .i64 (m : Int)] w (MkPost f u bs m w) := by
  have hb := alloc_below w (.cells #[.string ro, .int .i64 k, .string fr, .int .i64 ix, u] ( /- t -/ 30))
  have HB := hide hb
  have HO := hide (how.same (Same.of_below hb how.lt))
  clear hb how
  go_enter Tryz.func12, Tryz.ntmps12
  go_wp2_with fail
  refine (mark_calls f _ u bs k ix fr m HO.out hnd hm1 hm2).mono ?_
  rintro e w1 ⟨rfl, ho, hw⟩
  have HO1 := hide ho
  have HW := hide ((Wr.of_below HB.out).trans hw)
  clear ho hw
  go_wp2_with fail
  go_ret
  exact ⟨rfl, HO1.out, HW.out⟩

set_option maxHeartbeats 400000 in
theorem held_mon (f : F) (w : World) (u : Value) (ro : ByteArray) (k ix : Int) (fr : ByteArray) (m : Nat) (hs : Sl w u (mkF f m)) (hm1 : 1 ≤ m) (hm2 : m + 4 * f.sz ≤ 16777216) :
    Calls Tryz.prog 13 #[.agg #[.string ro, .int .i64 k, .string fr, .int .i64 ix, u], .int .i64 (m : Int)] w fun e w' => e = .returned (.int .i64 ((m + 4 * f.sz : Nat) : Int)) ∧ Below w.heap.size w w' := by
  have hb := alloc_below w (.cells #[.string ro, .int .i64 k, .string fr, .int .i64 ix, u] ( /- t -/ 30))
  have HB := hide hb
  have HS := hide (hs.still (Still.of_below hb))
  clear hb hs
  go_enter Tryz.func13, Tryz.ntmps13
  go_wp2_with fail
  refine (held_calls f _ u k ix fr m HS.out hm1 hm2).mono ?_
  rintro e w1 ⟨rfl, hb⟩
  have HB1 := hide (HB.out.trans (hb.mono HB.out.size))
  obtain ⟨K, hK, hK0⟩ : ∃ K : Int, K = ((m + 4 * f.sz : Nat) : Int) ∧ 0 ≤ K := ⟨_, rfl, by omega⟩
  have HK := hide hK
  rw [← hK]
  clear hb hK
  go_wp2_with fail
  go_ret
  exact ⟨by rw [← HK.out]; rfl, HB1.out⟩
end Go.Proofs.YtbonmdkfmgahbaaGreatDoor.Lo

/- eqLocal: two values that read alike are equal. -/
namespace Go.Proofs.YtbonmdkfmgahbaaGreatDoor.Lo
open Go.RowKit

def EqS (f : F) : Prop := ∀ (w : World) (u v : Value), Sl w u f → Sl w v f → Calls Tryz.prog 26 #[u, v] w fun e w' => e = .returned (.bool true) ∧ Below w.heap.size w w'

set_option maxHeartbeats 400000 in
theorem eq_node (kids : F) (hk : EqS kids) (w : World) (k ix : Int) (fr : ByteArray) (su sv : Value) (hu : Sl w su kids) (hv : Sl w sv kids) :
    Calls Tryz.prog 10 #[.agg #[.int .i64 k, .string fr, .int .i64 ix, su], .agg #[.int .i64 k, .string fr, .int .i64 ix, sv]] w
      fun e w' => e = .returned (.bool true) ∧ Below w.heap.size w w' := by
  have HU := hide hu
  have HV := hide hv
  clear hu hv
  go_enter Tryz.func10, Tryz.ntmps10
  go_wp2_with fail
  have hB := (alloc_below w (.cells #[.int .i64 k, .string fr, .int .i64 ix, su] ( /- t -/ 28))).alloc (by simp) (.cells #[.int .i64 k, .string fr, .int .i64 ix, sv] ( /- t -/ 28))
  refine (hk _ _ _ (HU.out.still (Still.of_below hB)) (HV.out.still (Still.of_below hB))).mono ?_
  rintro e w1 ⟨rfl, hb⟩
  have hb2 := hB.trans (hb.mono (by simp; omega))
  clear hB hb
  go_wp2_with fail
  go_ret
  exact ⟨rfl, hb2⟩

set_option maxHeartbeats 400000 in
theorem eq_branch (kids : F) (hk : EqS kids) (w : World) (lab : ByteArray) (k ix : Int) (fr : ByteArray) (su sv : Value) (hu : Sl w su kids) (hv : Sl w sv kids) :
    Calls Tryz.prog 43 #[.agg #[.string lab, .int .i64 k, .string fr, .int .i64 ix, su], .agg #[.string lab, .int .i64 k, .string fr, .int .i64 ix, sv]] w
      fun e w' => e = .returned (.bool true) ∧ Below w.heap.size w w' := by
  have HU := hide hu
  have HV := hide hv
  clear hu hv
  go_enter Tryz.func43, Tryz.ntmps43
  go_wp2_with fail
  have hB := (alloc_below w (.cells #[.string lab, .int .i64 k, .string fr, .int .i64 ix, su] ( /- t -/ 77))).alloc (by simp) (.cells #[.string lab, .int .i64 k, .string fr, .int .i64 ix, sv] ( /- t -/ 77))
  refine (eq_node kids hk _ k ix fr _ _ (HU.out.still (Still.of_below hB)) (HV.out.still (Still.of_below hB))).mono ?_
  rintro e w1 ⟨rfl, hb⟩
  have hb2 := hB.trans (hb.mono (by simp; omega))
  clear hB hb
  go_wp2_with fail
  go_ret
  exact ⟨rfl, hb2⟩

set_option maxHeartbeats 800000 in
set_option maxRecDepth 100000 in
theorem eq_slice_lt : ∀ (n : Nat) (f : F), f.sz < n → EqS f := by
  intro n
  induction n with
  | zero => intro f hf; omega
  | succ n ih => 
    intro f hf w u v hu hv
    obtain ⟨a, cap, rfl, hlen, hat⟩ := hu.at
    obtain ⟨a', cap', rfl, _, hat'⟩ := hv.at
    have HA := hide hat
    have HA' := hide hat'
    have HF := hide hf
    clear hu hv hat hat' hf
    unfold maxLen at hlen
    go_enter Tryz.func26, Tryz.ntmps26
    go_wp2_with fail
    go_loopw [5] (fun iv wr => ∃ (g : F) (k : Nat), k + g.len = f.len ∧ iv = .int .i64 k ∧ g.sz ≤ f.sz ∧ At w a k g ∧ At w a' k g ∧ Below w.heap.size w wr) (fun iv _ => f.len - (intOf iv).toNat)
    case atStart => exact ⟨f, 0, by omega, rfl, Nat.le_refl _, HA.out, HA'.out, Below.refl _ _⟩
    case round =>
      obtain ⟨g, k, hk, rfl, h5, h6, h7, hb⟩ := hrel
      cases g with
      | nil =>
        have H5 : Hid (k = f.len) := by unfold Hid; simpa [F.len] using hk
        have hge : f.len ≤ k := Nat.le_of_eq H5.out.symm
        clear hk
        go_wp2_with fail
        go_ret
        exact ⟨rfl, hb⟩
      | cons lab kd fr ix kids rest =>
        have HK : Hid (k + 1 + rest.len = f.len) := by unfold Hid; simp only [F.len] at hk; omega
        have hlt : k < f.len := by have := HK.out; omega
        have hz : kids.sz < n ∧ rest.sz ≤ f.sz := by have := HF.out; simp only [F.sz] at h5; omega
        have HZ := hide hz
        obtain ⟨b, o, rfl, l1, l2, _, _, c0, c1, c2, c3, ⟨su, c4, hsu⟩, _⟩ := (h6.still (Still.of_below hb)).head
        obtain ⟨b', o', rfl, _, _, _, _, d0, d1, d2, d3, ⟨sv, d4, hsv⟩, _⟩ := (h7.still (Still.of_below hb)).head
        have HSU := hide hsu
        have HSV := hide hsv
        have HRE := hide h6.tail
        have HRE' := hide h7.tail
        clear hk h5 h6 h7 hz hsu hsv
        go_wp2_with fail
        go_still_tail 8, (by kernel_rfl)
        change wpList _ _ _ _ _ wr.drew
        have hbd : Below w.heap.size w wr.drew := hb.drew
        have hst : Still wr wr.drew := fun _ _ h => h
        have HSU' := hide (HSU.out.still hst)
        have HSV' := hide (HSV.out.still hst)
        clear hst
        generalize wr.drew = w2 at *
        go_wp2_with fail
        refine (eq_branch kids (ih kids HZ.out.1) _ lab kd ix fr su sv HSU'.out HSV'.out).mono ?_
        rintro e w1 ⟨rfl, hb1⟩
        have hb2 : Below w.heap.size w w1 := hbd.trans (hb1.mono hbd.size)
        go_wp2_with fail
        go_roundw
        case rel => exact ⟨rest, k + 1, by have := HK.out; omega, by go_num, HZ.out.2, HRE.out, HRE'.out, hb2⟩
        case measure => simp [intOf]; omega

/-- eqLocal at two values that read alike. -/
theorem eq_calls (kids : F) (w : World) (k ix : Int) (fr : ByteArray) (su sv : Value) (hu : Sl w su kids) (hv : Sl w sv kids) :
    Calls Tryz.prog 10 #[.agg #[.int .i64 k, .string fr, .int .i64 ix, su], .agg #[.int .i64 k, .string fr, .int .i64 ix, sv]] w
      fun e w' => e = .returned (.bool true) ∧ Below w.heap.size w w' :=
  eq_node kids (eq_slice_lt _ kids (Nat.lt_succ_self _)) w k ix fr su sv hu hv

end Go.Proofs.YtbonmdkfmgahbaaGreatDoor.Lo

/- eqMonitor. -/
namespace Go.Proofs.YtbonmdkfmgahbaaGreatDoor.Lo.Ne
open Go.RowKit

set_option maxHeartbeats 400000 in
theorem eq_mon (kids : F) (w : World) (lab : ByteArray) (k ix : Int) (fr : ByteArray) (su sv : Value) (hu : Sl w su kids) (hv : Sl w sv kids) :
    Calls Tryz.prog 9 #[.agg #[.string lab, .int .i64 k, .string fr, .int .i64 ix, su], .agg #[.string lab, .int .i64 k, .string fr, .int .i64 ix, sv]] w
      fun e w' => e = .returned (.bool true) ∧ Below w.heap.size w w' := by
  have HU := hide hu
  have HV := hide hv
  clear hu hv
  go_enter Tryz.func9, Tryz.ntmps9
  go_wp2_with fail
  have hB := (alloc_below w (.cells #[.string lab, .int .i64 k, .string fr, .int .i64 ix, su] ( /- t -/ 30))).alloc (by simp) (.cells #[.string lab, .int .i64 k, .string fr, .int .i64 ix, sv] ( /- t -/ 30))
  refine (eq_calls kids _ k ix fr _ _ (HU.out.still (Still.of_below hB)) (HV.out.still (Still.of_below hB))).mono ?_
  rintro e w1 ⟨rfl, hb⟩
  have hb2 := hB.trans (hb.mono (by simp; omega))
  clear hB hb
  go_wp2_with fail
  go_ret
  exact ⟨rfl, hb2⟩

end Go.Proofs.YtbonmdkfmgahbaaGreatDoor.Lo.Ne

/- szLocal. -/
namespace Go.Proofs.YtbonmdkfmgahbaaGreatDoor.Lo
open Go.RowKit

/-- The number that is left, or -1. -/
def left0 (l : Int) (n : Nat) : Int := if l < n then -1 else l - n

/-- What szLocalBranchS is for: a slice. -/
def SzS (f : F) : Prop := ∀ (w : World) (v : Value) (left : Int), Sl w v f → 0 ≤ left → left ≤ 1048576 →
  Calls Tryz.prog 20 #[v, .int .i64 left] w fun e w' => e = .returned (.int .i64 (left0 left (f.len + f.wt))) ∧ Below w.heap.size w w'

set_option maxHeartbeats 400000 in
theorem sz_node (kids : F) (hk : SzS kids) (w : World) (k ix : Int) (fr : ByteArray) (sv : Value) (left : Int) (hs : Sl w sv kids) (hl0 : 0 ≤ left) (hl1 : left ≤ 1048576)
    (hfr : fr.size ≤ maxLen) :
    Calls Tryz.prog 5 #[.agg #[.int .i64 k, .string fr, .int .i64 ix, sv], .int .i64 left] w
      fun e w' => e = .returned (.int .i64 (left0 left (fr.size + (kids.len + kids.wt)))) ∧ Below w.heap.size w w' := by
  unfold maxLen at hfr
  have HS := hide hs
  clear hs
  go_enter Tryz.func5, Tryz.ntmps5
  go_wp2_with fail
  · go_ret
    exact ⟨ret_int (by unfold left0; rw [if_pos (by omega)]), alloc_below _ _⟩
  · have h1 : 0 ≤ left - fr.size := by assumption
    refine (hk _ _ _ (HS.out.still (Still.of_below (alloc_below _ _))) h1 (by omega)).mono ?_
    rintro e w1 ⟨rfl, hb⟩
    obtain ⟨r, hr⟩ : ∃ r, r = left0 (left - fr.size) (kids.len + kids.wt) := ⟨_, rfl⟩
    have HR := hide hr
    rw [← hr]
    clear hr
    go_wp2_with fail
    · go_ret
      refine ⟨ret_int ?_, alloc_then hb⟩
      have := HR.out
      unfold left0 at *
      split at this <;> (try split) <;> omega
    · go_ret
      refine ⟨ret_int ?_, alloc_then hb⟩
      have := HR.out
      unfold left0 at *
      split at this <;> (try split) <;> omega

set_option maxHeartbeats 400000 in
theorem sz_branch (kids : F) (hk : SzS kids) (w : World) (lab : ByteArray) (k ix : Int) (fr : ByteArray) (sv : Value) (left : Int) (hs : Sl w sv kids) (hl0 : 0 ≤ left) (hl1 : left ≤ 1048576)
    (hlab : lab.size ≤ maxLen) (hfr : fr.size ≤ maxLen) :
    Calls Tryz.prog 34 #[.agg #[.string lab, .int .i64 k, .string fr, .int .i64 ix, sv], .int .i64 left] w
      fun e w' => e = .returned (.int .i64 (left0 left (lab.size + (fr.size + (kids.len + kids.wt))))) ∧ Below w.heap.size w w' := by
  have HS := hide hs
  have h2 := hide hfr
  clear hs hfr
  unfold maxLen at hlab
  go_enter Tryz.func34, Tryz.ntmps34
  go_wp2_with fail
  · go_ret
    exact ⟨ret_int (by unfold left0; rw [if_pos (by omega)]), alloc_below _ _⟩
  · have h1 : 0 ≤ left - lab.size := by assumption
    refine (sz_node kids hk _ k ix fr sv _ (HS.out.still (Still.of_below (alloc_below _ _))) h1 (by omega) h2.out).mono ?_
    rintro e w1 ⟨rfl, hb⟩
    obtain ⟨r, hr⟩ : ∃ r, r = left0 (left - lab.size) (fr.size + (kids.len + kids.wt)) := ⟨_, rfl⟩
    have HR := hide hr
    rw [← hr]
    clear hr
    go_wp2_with fail
    · go_ret
      refine ⟨ret_int ?_, alloc_then hb⟩
      have := HR.out
      unfold left0 at *
      split at this <;> (try split) <;> omega
    · go_ret
      refine ⟨ret_int ?_, alloc_then hb⟩
      have := HR.out
      unfold left0 at *
      split at this <;> (try split) <;> omega

set_option maxHeartbeats 800000 in
theorem sz_slice_lt : ∀ (n : Nat) (f : F), f.sz < n → SzS f := by
  intro n
  induction n with
  | zero => intro f hf; omega
  | succ n ih => 
    intro f hf w v left hs hl0 hl1
    obtain ⟨a, cap, rfl, hlen, hat⟩ := hs.at
    have HA := hide hat
    clear hs hat
    unfold maxLen at hlen
    go_enter Tryz.func20, Tryz.ntmps20
    go_wp2_with fail
    · have h1 : left - f.len < 0 := by assumption
      go_ret
      exact ⟨ret_int (by unfold left0; rw [if_pos (by omega)]), Below.refl _ _⟩
    · have h1 : 0 ≤ left - f.len := by assumption
      go_loopw [1, 5] (fun lv iv wr => ∃ (g : F) (k : Nat) (l : Int), k + g.len = f.len ∧ lv = .int .i64 l ∧ iv = .int .i64 k ∧ 0 ≤ l ∧ l ≤ 1048576 ∧ left0 l g.wt = left0 left (f.len + f.wt) ∧ g.sz ≤ f.sz ∧ At w a k g ∧ Below w.heap.size w wr) (fun _ iv _ => f.len - (intOf iv).toNat)
      case atStart => 
        refine ⟨f, 0, left - f.len, by omega, rfl, rfl, by omega, by omega, ?_, Nat.le_refl _, HA.out, Below.refl _ _⟩
        unfold left0
        split <;> split <;> omega
      case round =>
        obtain ⟨g, k, l, hk, rfl, rfl, h2, h3, h4, h5, h6, hb⟩ := hrel
        have H4 := hide h4
        clear h4
        cases g with
        | nil =>
          have H5 : Hid (k = f.len) := by unfold Hid; simpa [F.len] using hk
          have hge : f.len ≤ k := Nat.le_of_eq H5.out.symm
          clear hk
          go_wp2_with fail
          go_ret
          refine ⟨ret_int ?_, hb⟩
          have := H4.out
          simp only [F.wt] at this
          rw [← this]
          unfold left0
          rw [if_neg (by omega)]
          omega
        | cons lab kd fr ix kids rest =>
          have HK : Hid (k + 1 + rest.len = f.len) := by unfold Hid; simp only [F.len] at hk; omega
          have hlt : k < f.len := by have := HK.out; omega
          have hz : kids.sz < n ∧ rest.sz ≤ f.sz := by simp only [F.sz] at h5; omega
          have HZ := hide hz
          obtain ⟨b, o, rfl, l1, l2, _, _, c0, c1, c2, c3, ⟨sv, c4, hsv⟩, _⟩ := (h6.still (Still.of_below hb)).head
          have HSV := hide hsv
          have HRE := hide h6.tail
          clear hk h5 h6 hz hsv
          go_wp2_with fail
          refine (sz_branch kids (ih kids HZ.out.1) _ lab kd ix fr sv l HSV.out h2 h3 l1 l2).mono ?_
          rintro e w1 ⟨rfl, hb1⟩
          obtain ⟨r, hr⟩ : ∃ r, r = left0 l (lab.size + (fr.size + (kids.len + kids.wt))) := ⟨_, rfl⟩
          have HR := hide hr
          rw [← hr]
          clear hr
          have hb2 : Below w.heap.size w w1 := hb.trans (hb1.mono hb.size)
          go_wp2_with fail
          · go_ret
            refine ⟨ret_int ?_, hb2⟩
            have := HR.out
            have h4 := H4.out
            simp only [F.wt] at h4
            rw [← h4]
            unfold left0 at *
            split at this <;> (try split) <;> omega
          · have h7 : 0 ≤ r := by assumption
            go_roundw
            case rel =>
              refine ⟨rest, k + 1, r, by have := HK.out; omega, rfl, by go_num, h7, ?_, ?_, HZ.out.2, HRE.out, hb2⟩
              · have := HR.out
                unfold left0 at this
                split at this <;> omega
              · have := HR.out
                have h4 := H4.out
                simp only [F.wt] at h4
                rw [← h4]
                unfold left0 at *
                split at this <;> (try split) <;> (try split) <;> omega
            case measure => simp [intOf]; omega

/-- szLocal. -/
theorem sz_calls (kids : F) (w : World) (k ix : Int) (fr : ByteArray) (sv : Value) (left : Int) (hs : Sl w sv kids) (hl0 : 0 ≤ left) (hl1 : left ≤ 1048576)
    (hfr : fr.size ≤ maxLen) :
    Calls Tryz.prog 5 #[.agg #[.int .i64 k, .string fr, .int .i64 ix, sv], .int .i64 left] w
      fun e w' => e = .returned (.int .i64 (left0 left (fr.size + (kids.len + kids.wt)))) ∧ Below w.heap.size w w' :=
  sz_node kids (sz_slice_lt _ kids (Nat.lt_succ_self _)) w k ix fr sv left hs hl0 hl1 hfr

end Go.Proofs.YtbonmdkfmgahbaaGreatDoor.Lo

/- The law on NewMonitor: the walk. -/
namespace Go.Proofs.YtbonmdkfmgahbaaGreatDoor.Lo
open Go.RowKit

/-- The argument's box. -/
structure LwM (w wi : World) (m : Ne.Mon) (sv : Value) : Prop where
  hb : Below w.heap.size w wi
  hx : Box4 wi w.heap.size (.int .i64 m.k) (.string m.fr) (.int .i64 m.ix) sv
theorem LwM.below {w wi wj : World} {m : Ne.Mon} {sv : Value} (h : LwM w wi m sv) (hb : Below wi.heap.size wi wj) : LwM w wj m sv := ⟨h.hb.trans (hb.mono h.hb.size), h.hx.below hb⟩
theorem LwM.wr {w wi wj : World} {m : Ne.Mon} {sv : Value} {cs : List Nat} (h : LwM w wi m sv) (hw : Wr cs wi wj) (hc : ∀ x, x ∈ cs → w.heap.size < x) : LwM w wj m sv :=
  ⟨h.hb.trans (hw.to_below (fun x hx => Nat.le_of_lt (hc x hx)) h.hb.size), Box4.same h.hx (hw.block _ (Box4.lt h.hx) (fun hm => Nat.lt_irrefl _ (hc _ hm)))⟩
/-- A local type of the law's own in a box, and a monitor of its own in a box: their blocks between two numbers. -/
structure LtM (wi : World) (R : Ne.Mon) (G : F) (u : Value) (lo b : Nat) (bs : List Nat) : Prop where
  hx : Box4 wi b (.int .i64 R.k) (.string R.fr) (.int .i64 R.ix) u
  ho : Ow wi u G bs
  hl : ∀ x, x ∈ bs → lo ≤ x ∧ x < b
  hn : bs.Nodup
  hlo : lo ≤ b
theorem LtM.below {wi wj : World} {R : Ne.Mon} {G : F} {u : Value} {lo b : Nat} {bs : List Nat} (h : LtM wi R G u lo b bs) (hb : Below wi.heap.size wi wj) : LtM wj R G u lo b bs :=
  ⟨h.hx.below hb, h.ho.same (Same.of_below hb h.ho.lt), h.hl, h.hn, h.hlo⟩
theorem LtM.wr {wi wj : World} {R : Ne.Mon} {G : F} {u : Value} {lo b : Nat} {bs cs : List Nat} (h : LtM wi R G u lo b bs) (hw : Wr cs wi wj) (hc : ∀ x, x ∈ cs → x < lo ∨ b < x) : LtM wj R G u lo b bs :=
  ⟨h.hx.same (hw.block _ h.hx.lt (fun hm => by have := hc _ hm; have := h.hlo; omega)), h.ho.same (fun x hx => hw.block x (h.ho.lt x hx) (fun hm => by have := hc _ hm; have := h.hl x hx; omega)), h.hl, h.hn, h.hlo⟩
theorem LtM.now {w1 : World} {R : Ne.Mon} {u : Value} {lo : Nat} {bs : List Nat} {t : TypeId} (ho : Ow w1 u R.kids bs) (hl : ∀ x, x ∈ bs → lo ≤ x) (hn : bs.Nodup) (hlo : lo ≤ w1.heap.size) :
    LtM (w1.alloc (.cells #[.int .i64 R.k, .string R.fr, .int .i64 R.ix, u] t)) R R.kids u lo w1.heap.size bs :=
  ⟨Box4.now w1 _ _ _ _ t, ho.same (Same.of_below (alloc_below w1 _) ho.lt), fun x hx => ⟨hl x hx, ho.lt x hx⟩, hn, hlo⟩
theorem LtM.marked {wi wj : World} {R : Ne.Mon} {G G' : F} {u : Value} {lo b : Nat} {bs : List Nat} (h : LtM wi R G u lo b bs) (hw : Wr bs wi wj) (ho : Ow wj u G' bs) : LtM wj R G' u lo b bs :=
  ⟨h.hx.same (hw.block _ h.hx.lt (fun hm => by have := h.hl _ hm; omega)), ho, h.hl, h.hn, h.hlo⟩
structure LmS (wi : World) (R : Ne.Mon) (G : F) (u : Value) (lo b : Nat) (bs : List Nat) : Prop where
  hx : Ne.Box5 wi b (.string R.ro) (.int .i64 R.k) (.string R.fr) (.int .i64 R.ix) u
  ho : Ow wi u G bs
  hl : ∀ x, x ∈ bs → lo ≤ x ∧ x < b
  hn : bs.Nodup
  hlo : lo ≤ b
theorem LmS.below {wi wj : World} {R : Ne.Mon} {G : F} {u : Value} {lo b : Nat} {bs : List Nat} (h : LmS wi R G u lo b bs) (hb : Below wi.heap.size wi wj) : LmS wj R G u lo b bs :=
  ⟨h.hx.below hb, h.ho.same (Same.of_below hb h.ho.lt), h.hl, h.hn, h.hlo⟩
theorem LmS.wr {wi wj : World} {R : Ne.Mon} {G : F} {u : Value} {lo b : Nat} {bs cs : List Nat} (h : LmS wi R G u lo b bs) (hw : Wr cs wi wj) (hc : ∀ x, x ∈ cs → x < lo ∨ b < x) : LmS wj R G u lo b bs :=
  ⟨h.hx.same (hw.block _ h.hx.lt (fun hm => by have := hc _ hm; have := h.hlo; omega)), h.ho.same (fun x hx => hw.block x (h.ho.lt x hx) (fun hm => by have := hc _ hm; have := h.hl x hx; omega)), h.hl, h.hn, h.hlo⟩
theorem LmS.now {w1 : World} {R : Ne.Mon} {u : Value} {lo : Nat} {bs : List Nat} {t : TypeId} (ho : Ow w1 u R.kids bs) (hl : ∀ x, x ∈ bs → lo ≤ x) (hn : bs.Nodup) (hlo : lo ≤ w1.heap.size) :
    LmS (w1.alloc (.cells #[.string R.ro, .int .i64 R.k, .string R.fr, .int .i64 R.ix, u] t)) R R.kids u lo w1.heap.size bs :=
  ⟨Ne.Box5.now w1 _ _ _ _ _ t, ho.same (Same.of_below (alloc_below w1 _) ho.lt), fun x hx => ⟨hl x hx, ho.lt x hx⟩, hn, hlo⟩
theorem LmS.marked {wi wj : World} {R : Ne.Mon} {G G' : F} {u : Value} {lo b : Nat} {bs : List Nat} (h : LmS wi R G u lo b bs) (hw : Wr bs wi wj) (ho : Ow wj u G' bs) : LmS wj R G' u lo b bs :=
  ⟨h.hx.same (hw.block _ h.hx.lt (fun hm => by have := h.hl _ hm; omega)), ho, h.hl, h.hn, h.hlo⟩

set_option maxHeartbeats 400000 in
theorem nm_role (w : World) (m : Ne.Mon) (sv : Value) (hro : (1048576 : Int) < m.ro.size) :
    Calls Tryz.prog 3 #[.string m.ro, .agg #[.int .i64 m.k, .string m.fr, .int .i64 m.ix, sv]] w fun e w' => e = .returned (.bool true) ∧ Below w.heap.size w w' := by
  have HB := hide (alloc_below w (.cells #[.int .i64 m.k, .string m.fr, .int .i64 m.ix, sv] ( /- t -/ 24)))
  go_enter Tryz.func3, Tryz.ntmps3
  go_wp2_with fail
  go_ret
  exact ⟨rfl, HB.out⟩

set_option maxHeartbeats 400000 in
set_option maxRecDepth 100000 in
theorem nm_big (w : World) (m : Ne.Mon) (sv : Value) (hs : Sl w sv m.kids) (hf : m.Fit) (hro : ¬ (1048576 : Int) < m.ro.size) (hbig : 1048576 < m.fr.size + (m.kids.len + m.kids.wt)) :
    Calls Tryz.prog 3 #[.string m.ro, .agg #[.int .i64 m.k, .string m.fr, .int .i64 m.ix, sv]] w fun e w' => e = .returned (.bool true) ∧ Below w.heap.size w w' := by
  have HS := hide hs
  have HF := hide hf
  have H3 := hide hbig
  clear hs hf hbig
  go_enter Tryz.func3, Tryz.ntmps3
  go_wp2_with fail
  refine (sz_calls m.kids _ m.k m.ix m.fr sv 1048576 (HS.out.still (Still.of_below (alloc_below _ _))) (by omega) (by omega) HF.out.fr).mono ?_
  rintro e w1 ⟨rfl, hb⟩
  have hb2 := alloc_then hb
  clear hb
  have hl : left0 1048576 (m.fr.size + (m.kids.len + m.kids.wt)) = -1 := by unfold left0; rw [if_pos (by have := H3.out; omega)]
  rw [hl]
  clear hl
  go_wp2_with fail
  go_ret
  exact ⟨rfl, hb2⟩

set_option maxHeartbeats 4000000 in
set_option maxRecDepth 100000 in
theorem nm_small (w : World) (m : Ne.Mon) (sv : Value) (hs : Sl w sv m.kids) (hf : m.Fit) (hro : ¬ (1048576 : Int) < m.ro.size) (hsm : m.fr.size + (m.kids.len + m.kids.wt) ≤ 1048576) :
    Calls Tryz.prog 3 #[.string m.ro, .agg #[.int .i64 m.k, .string m.fr, .int .i64 m.ix, sv]] w fun e w' => e = .returned (.bool true) ∧ Below w.heap.size w w' := by
  have hkw : m.kids.len + m.kids.wt ≤ 1048576 := by omega
  have hksz : m.kids.sz ≤ 1048576 := by have := F.sz_le m.kids; omega
  have HH := hide (And.intro hs (And.intro hf (And.intro hsm (And.intro hkw (And.intro hksz (newM_sz m))))))
  have hA0 := alloc_below w (.cells #[.int .i64 m.k, .string m.fr, .int .i64 m.ix, sv] ( /- t -/ 24))
  have HW0 : Hid (LwM w (w.alloc (.cells #[.int .i64 m.k, .string m.fr, .int .i64 m.ix, sv] ( /- t -/ 24))) m sv) := hide ⟨hA0, Box4.now w _ _ _ _ _⟩
  clear hs hf hsm hkw hksz hA0
  obtain ⟨R, hR⟩ : ∃ R, R = newM m := ⟨_, rfl⟩
  obtain ⟨ok, hok⟩ : ∃ ok, ok = monOk m := ⟨_, rfl⟩
  have HR := hide hR
  have HOK := hide hok
  clear hR hok
  go_enter Tryz.func3, Tryz.ntmps3
  go_wp2_with fail
  refine (sz_calls m.kids _ m.k m.ix m.fr sv 1048576 (HH.out.1.still (Still.of_below HW0.out.hb)) (by omega) (by omega) HH.out.2.1.fr).mono ?_
  rintro e w1 ⟨rfl, hb⟩
  obtain ⟨r, hr, hr0⟩ : ∃ r, r = left0 1048576 (m.fr.size + (m.kids.len + m.kids.wt)) ∧ 0 ≤ r := by
    refine ⟨_, rfl, ?_⟩
    have := HH.out.2.2.1
    unfold left0
    rw [if_neg (by omega)]
    omega
  rw [← hr]
  have HW1 := hide (HW0.out.below hb)
  clear hr hb HW0
  obtain ⟨x0, x1, x2, x3⟩ := HW1.out.hx.cells
  have hxl := HW1.out.hx.lt
  go_wp2_with fail
  refine (to_calls m.kids w1 m.k m.ix m.fr sv (HH.out.1.still (Still.of_below HW1.out.hb)) HH.out.2.2.2.1).mono ?_
  rintro e w2 ⟨u, bs, rfl, how, -, -, hb⟩
  obtain ⟨ua, uc, rfl⟩ := how.val
  have HU := hide how.sl
  have HW2 := hide (HW1.out.below hb)
  clear hb how HW1 x0 x1 x2 x3 hxl
  go_wp2_with fail
  refine (specNewMon w2 m _ _ HU.out HH.out.2.1 HH.out.2.2.2.2.1).mono ?_
  rw [← HR.out, ← HOK.out]
  rintro e w3 ⟨wu, wbs, rfl, how, hge, hnd, hb⟩
  obtain ⟨wa, wc, rfl⟩ := how.val
  have hbA := alloc_below w3 (.cells #[.string R.ro, .int .i64 R.k, .string R.fr, .int .i64 R.ix, .slice wa R.kids.len wc] ( /- t -/ 30))
  have HW3 := hide ((HW2.out.below hb).below hbA)
  have hw2s := HW2.out.hx.lt
  have HT4 := hide (LmS.now (t := ( /- t -/ 30)) how (lo := w2.heap.size) hge hnd hb.size)
  have h32 := hb.size
  clear hb hbA how hge hnd HW2 HU
  obtain ⟨x0, x1, x2, x3⟩ := HW3.out.hx.cells
  have hxl := HW3.out.hx.lt
  obtain ⟨N4, hN4⟩ : ∃ N4, N4 = w3.heap.size := ⟨_, rfl⟩
  obtain ⟨L4, hL4⟩ : ∃ L4, L4 = w2.heap.size := ⟨_, rfl⟩
  go_wp2_with fail
  rw [← hN4] at HT4 ⊢
  rw [← hL4] at HT4
  clear x0 x1 x2 x3 hxl
  generalize hV3 : w3.alloc (.cells #[.string R.ro, .int .i64 R.k, .string R.fr, .int .i64 R.ix, .slice wa R.kids.len wc] ( /- t -/ 30)) = V3 at *
  have hs3 : V3.heap.size = N4 + 1 := by rw [← hV3, hN4]; simp
  have hN4L : L4 ≤ N4 := by omega
  have hL4w : w.heap.size < L4 := by omega
  clear hV3 hN4 hL4 h32 hw2s
  refine (to_calls m.kids V3 m.k m.ix m.fr sv (HH.out.1.still (Still.of_below HW3.out.hb)) HH.out.2.2.2.1).mono ?_
  rintro e w4 ⟨xu, xbs, rfl, how, hge, hnd, hb⟩
  obtain ⟨xa, xc, rfl⟩ := how.val
  have HW3 := hide (HW3.out.below hb)
  have HT4 := hide (HT4.out.below hb)
  have hbA := alloc_below w4 (.cells #[.int .i64 m.k, .string m.fr, .int .i64 m.ix, .slice xa m.kids.len xc] ( /- t -/ 28))
  have HW3 := hide (HW3.out.below hbA)
  have HT4 := hide (HT4.out.below hbA)
  have HT6 := hide (LtM.now (R := m) (t := ( /- t -/ 28)) how (lo := V3.heap.size) hge hnd hb.size)
  have h43 := hb.size
  obtain ⟨N6, hN6⟩ : ∃ N6, N6 = w4.heap.size := ⟨_, rfl⟩
  clear hb hbA how hge hnd
  obtain ⟨x0, x1, x2, x3⟩ := HW3.out.hx.cells
  have xl := HW3.out.hx.lt
  obtain ⟨z0, z1, z2, z3⟩ := HT6.out.hx.cells
  have zl := HT6.out.hx.lt
  go_wp2_with fail
  rw [← hN6] at HT6 ⊢
  clear x0 x1 x2 x3 xl z0 z1 z2 z3 zl
  rw [hs3] at HT6
  generalize hV5 : w4.alloc (.cells #[.int .i64 m.k, .string m.fr, .int .i64 m.ix, .slice xa m.kids.len xc] ( /- t -/ 28)) = V5 at *
  have hs5 : V5.heap.size = N6 + 1 := by rw [← hV5, hN6]; simp
  have hN46 : N4 < N6 := by omega
  clear hV5 hN6 hs3 h43
  refine (implNewMon V5 m _ _ HT6.out.ho.sl).mono ?_
  rw [← HR.out, ← HOK.out]
  rintro e w6 ⟨gu, gbs, rfl, how, hge, hnd, hb⟩
  obtain ⟨ga, gc, rfl⟩ := how.val
  have HW3 := hide (HW3.out.below hb)
  have HT4 := hide (HT4.out.below hb)
  have HT6 := hide (HT6.out.below hb)
  have hbA := alloc_below w6 (.cells #[.string R.ro, .int .i64 R.k, .string R.fr, .int .i64 R.ix, .slice ga R.kids.len gc] ( /- t -/ 30))
  have HW3 := hide (HW3.out.below hbA)
  have HT4 := hide (HT4.out.below hbA)
  have HT6 := hide (HT6.out.below hbA)
  have HT7 := hide (LmS.now (t := ( /- t -/ 30)) how (lo := V5.heap.size) hge hnd hb.size)
  have h65 := hb.size
  obtain ⟨N7, hN7⟩ : ∃ N7, N7 = w6.heap.size := ⟨_, rfl⟩
  clear hb hbA how hge hnd
  obtain ⟨y0, y1, y2, y3, y4⟩ := HT4.out.hx.cells
  have yl := HT4.out.hx.lt
  obtain ⟨v0, v1, v2, v3, v4⟩ := HT7.out.hx.cells
  have vl := HT7.out.hx.lt
  go_wp2_with fail
  rw [← hN7] at HT7 ⊢
  clear y0 y1 y2 y3 y4 yl v0 v1 v2 v3 v4 vl
  rw [hs5] at HT7
  generalize hV7 : w6.alloc (.cells #[.string R.ro, .int .i64 R.k, .string R.fr, .int .i64 R.ix, .slice ga R.kids.len gc] ( /- t -/ 30)) = V7 at *
  have hN67 : N6 < N7 := by omega
  clear hV7 hN7 hs5 h65
  refine (Ne.eq_mon R.kids V7 R.ro R.k R.ix R.fr _ _ HT7.out.ho.sl HT4.out.ho.sl).mono ?_
  rintro e w8 ⟨rfl, hb⟩
  have HW3 := hide (HW3.out.below hb)
  have HT4 := hide (HT4.out.below hb)
  have HT6 := hide (HT6.out.below hb)
  have HT7 := hide (HT7.out.below hb)
  clear hb
  obtain ⟨x0, x1, x2, x3⟩ := HW3.out.hx.cells
  have xl := HW3.out.hx.lt
  obtain ⟨y0, y1, y2, y3, y4⟩ := HT4.out.hx.cells
  have yl := HT4.out.hx.lt
  obtain ⟨z0, z1, z2, z3⟩ := HT6.out.hx.cells
  have zl := HT6.out.hx.lt
  obtain ⟨v0, v1, v2, v3, v4⟩ := HT7.out.hx.cells
  have vl := HT7.out.hx.lt
  go_wp2_with fail
  have hdr : Still w8 w8.drew := fun _ _ h => h
  have HSR := hide ((HH.out.1.still (Still.of_below HW3.out.hb)).still hdr)
  clear hdr
  have HW3 := hide (HW3.out.below (wj := w8.drew) (Below.refl _ _).drew)
  have HT4 := hide (HT4.out.below (wj := w8.drew) (Below.refl _ _).drew)
  have HT6 := hide (HT6.out.below (wj := w8.drew) (Below.refl _ _).drew)
  have HT7 := hide (HT7.out.below (wj := w8.drew) (Below.refl _ _).drew)
  go_region_held3 (fun w' => w'.cell? ⟨N6, 0, none⟩ = some (.int .i64 m.k) ∧ w'.cell? ⟨N6, 1, none⟩ = some (.string m.fr) ∧ w'.cell? ⟨N6, 2, none⟩ = some (.int .i64 m.ix) ∧ w'.cell? ⟨N6, 3, none⟩ = some (.slice xa m.kids.len xc) ∧
      w'.cell? ⟨w.heap.size, 0, none⟩ = some (.int .i64 m.k) ∧ w'.cell? ⟨w.heap.size, 1, none⟩ = some (.string m.fr) ∧ w'.cell? ⟨w.heap.size, 2, none⟩ = some (.int .i64 m.ix) ∧ w'.cell? ⟨w.heap.size, 3, none⟩ = some sv)
    (first | exact ⟨z0, z1, z2, z3, x0, x1, x2, x3⟩)
    ((first
      | (go_at_call 7; refine (to_calls m.kids _ m.k m.ix m.fr sv ?_ HH.out.2.2.2.1).mono ?_; (exact HSR.out); rintro e wA ⟨u3, bs3, rfl, how3, -, -, hbA⟩; (have HW3 := hide (HW3.out.below hbA)); (have HT4 := hide (HT4.out.below hbA)); (have HT6 := hide (HT6.out.below hbA)); (have HT7 := hide (HT7.out.below hbA)); (obtain ⟨z0, z1, z2, z3⟩ := HT6.out.hx.cells); (obtain ⟨x0, x1, x2, x3⟩ := HW3.out.hx.cells); (have H3 := hide how3.sl))
      | (go_at_call 10; refine (eq_calls m.kids _ m.k m.ix m.fr _ _ ?_ ?_).mono ?_; (exact HT6.out.ho.sl); (exact H3.out); rintro e wD ⟨rfl, hbD⟩; (have HW3 := hide (HW3.out.below hbD)); (have HT4 := hide (HT4.out.below hbD)); (have HT6 := hide (HT6.out.below hbD)); (have HT7 := hide (HT7.out.below hbD)); (obtain ⟨z0, z1, z2, z3⟩ := HT6.out.hx.cells); (obtain ⟨x0, x1, x2, x3⟩ := HW3.out.hx.cells))))
  clear hbA hbD H3 how3 z0 z1 z2 z3 x0 x1 x2 x3 HSR xl yl zl vl y0 y1 y2 y3 y4 v0 v1 v2 v3 v4
  obtain ⟨z0, z1, z2, z3⟩ := HT6.out.hx.cells
  have zl := HT6.out.hx.lt
  go_wp2_with fail
  clear z0 z1 z2 z3 zl
  have hsz1 : 1 + 4 * m.kids.sz ≤ 16777216 := by have := HH.out.2.2.2.2.1; omega
  refine (mark_calls m.kids wD _ xbs m.k m.ix m.fr 1 HT6.out.ho HT6.out.hn (Nat.le_refl _) hsz1).mono ?_
  rintro e w9 ⟨rfl, -, hwr⟩
  have h6l := HT6.out.hl
  have h6lo := HT6.out.hlo
  have HW3 := hide (HW3.out.wr hwr (fun x hx => by have := h6l x hx; omega))
  have HT4 := hide (HT4.out.wr hwr (fun x hx => by have := h6l x hx; omega))
  have HT7 := hide (HT7.out.wr hwr (fun x hx => by have := h6l x hx; omega))
  clear hwr h6l HT6
  have hkk : ((((1 + 4 * m.kids.sz : Nat) : Int)) < 0) = False := by simp; omega
  obtain ⟨K, hK⟩ : ∃ K : Int, K = ((1 + 4 * m.kids.sz : Nat) : Int) := ⟨_, rfl⟩
  have hK0 : 0 ≤ K := by omega
  rw [← hK]
  clear hK hkk
  obtain ⟨x0, x1, x2, x3⟩ := HW3.out.hx.cells
  have xl := HW3.out.hx.lt
  obtain ⟨y0, y1, y2, y3, y4⟩ := HT4.out.hx.cells
  have yl := HT4.out.hx.lt
  obtain ⟨v0, v1, v2, v3, v4⟩ := HT7.out.hx.cells
  have vl := HT7.out.hx.lt
  go_wp2_with fail
  refine (Ne.eq_mon R.kids _ R.ro R.k R.ix R.fr _ _ HT7.out.ho.sl HT4.out.ho.sl).mono ?_
  rintro e w10 ⟨rfl, hb⟩
  clear x0 x1 x2 x3 xl y0 y1 y2 y3 y4 yl v0 v1 v2 v3 v4 vl
  have HW3 := hide (HW3.out.below hb)
  have HT4 := hide (HT4.out.below hb)
  have HT7 := hide (HT7.out.below hb)
  clear hb
  obtain ⟨x0, x1, x2, x3⟩ := HW3.out.hx.cells
  have xl := HW3.out.hx.lt
  obtain ⟨y0, y1, y2, y3, y4⟩ := HT4.out.hx.cells
  have yl := HT4.out.hx.lt
  obtain ⟨v0, v1, v2, v3, v4⟩ := HT7.out.hx.cells
  have vl := HT7.out.hx.lt
  go_wp2_with fail
  clear x0 x1 x2 x3 xl y0 y1 y2 y3 y4 yl v0 v1 v2 v3 v4 vl
  have hszR : R.kids.sz ≤ 400 := by rw [HR.out]; exact HH.out.2.2.2.2.2
  have hsz2 : 1 + 4 * R.kids.sz ≤ 16777216 := by omega
  refine (mark_mon R.kids w10 _ gbs R.ro R.k R.ix R.fr 1 HT7.out.ho HT7.out.hn (Nat.le_refl _) hsz2).mono ?_
  rintro e w11 ⟨rfl, hog, hwr⟩
  have h7l := HT7.out.hl
  have HW3 := hide (HW3.out.wr hwr (fun x hx => by have := h7l x hx; omega))
  have HT4 := hide (HT4.out.wr hwr (fun x hx => by have := h7l x hx; omega))
  have HT7 := hide (HT7.out.marked hwr hog)
  clear hwr h7l hog
  obtain ⟨M, hM⟩ : ∃ M : Int, M = ((1 + 4 * R.kids.sz : Nat) : Int) := ⟨_, rfl⟩
  have hM0 : 0 ≤ M := by omega
  have HM := hide hM
  rw [← hM]
  clear hM
  obtain ⟨x0, x1, x2, x3⟩ := HW3.out.hx.cells
  have xl := HW3.out.hx.lt
  obtain ⟨y0, y1, y2, y3, y4⟩ := HT4.out.hx.cells
  have yl := HT4.out.hx.lt
  obtain ⟨v0, v1, v2, v3, v4⟩ := HT7.out.hx.cells
  have vl := HT7.out.hx.lt
  go_wp2_with fail
  refine (held_mon R.kids w11 _ R.ro R.k R.ix R.fr 1 HT7.out.ho.sl (Nat.le_refl _) hsz2).mono ?_
  rw [← HM.out]
  rintro e w12 ⟨rfl, hb⟩
  clear x0 x1 x2 x3 xl y0 y1 y2 y3 y4 yl v0 v1 v2 v3 v4 vl
  have HW3 := hide (HW3.out.below hb)
  have HT4 := hide (HT4.out.below hb)
  have HT7 := hide (HT7.out.below hb)
  clear hb
  obtain ⟨x0, x1, x2, x3⟩ := HW3.out.hx.cells
  have xl := HW3.out.hx.lt
  obtain ⟨y0, y1, y2, y3, y4⟩ := HT4.out.hx.cells
  have yl := HT4.out.hx.lt
  obtain ⟨v0, v1, v2, v3, v4⟩ := HT7.out.hx.cells
  have vl := HT7.out.hx.lt
  go_wp2_with fail
  clear x0 x1 x2 x3 xl y0 y1 y2 y3 y4 yl v0 v1 v2 v3 v4 vl
  refine (to_calls m.kids w12 m.k m.ix m.fr sv (HH.out.1.still (Still.of_below HW3.out.hb)) HH.out.2.2.2.1).mono ?_
  rintro e w13 ⟨u5, bs5, rfl, how, -, -, hb⟩
  obtain ⟨ua5, uc5, rfl⟩ := how.val
  have HU5 := hide how.sl
  have HW3 := hide (HW3.out.below hb)
  have HT4 := hide (HT4.out.below hb)
  have HT7 := hide (HT7.out.below hb)
  clear hb how
  go_wp2_with fail
  refine (implNewMon w13 m _ _ HU5.out).mono ?_
  rw [← HR.out, ← HOK.out]
  rintro e w14 ⟨hu, hbs, rfl, how, hge, hnd, hb⟩
  obtain ⟨ha, hc, rfl⟩ := how.val
  have HW3 := hide (HW3.out.below hb)
  have HT4 := hide (HT4.out.below hb)
  have HT7 := hide (HT7.out.below hb)
  have hbA := alloc_below w14 (.cells #[.string R.ro, .int .i64 R.k, .string R.fr, .int .i64 R.ix, .slice ha R.kids.len hc] ( /- t -/ 30))
  have HW3 := hide (HW3.out.below hbA)
  have HT4 := hide (HT4.out.below hbA)
  have HT7 := hide (HT7.out.below hbA)
  have HT8 := hide (LmS.now (t := ( /- t -/ 30)) how (lo := w13.heap.size) hge hnd hb.size)
  clear hb hbA how hge hnd HU5
  obtain ⟨s0, s1, s2, s3, s4⟩ := HT8.out.hx.cells
  have sl := HT8.out.hx.lt
  obtain ⟨x0, x1, x2, x3⟩ := HW3.out.hx.cells
  have xl := HW3.out.hx.lt
  obtain ⟨y0, y1, y2, y3, y4⟩ := HT4.out.hx.cells
  have yl := HT4.out.hx.lt
  obtain ⟨v0, v1, v2, v3, v4⟩ := HT7.out.hx.cells
  have vl := HT7.out.hx.lt
  go_wp2_with fail
  clear x0 x1 x2 x3 xl y0 y1 y2 y3 y4 yl v0 v1 v2 v3 v4 vl
  clear s0 s1 s2 s3 s4 sl
  refine (Ne.eq_mon R.kids _ R.ro R.k R.ix R.fr _ _ HT8.out.ho.sl HT4.out.ho.sl).mono ?_
  rintro e w15 ⟨rfl, hb⟩
  have HW3 := hide (HW3.out.below hb)
  have HT4 := hide (HT4.out.below hb)
  have HT7 := hide (HT7.out.below hb)
  clear hb HT8
  obtain ⟨x0, x1, x2, x3⟩ := HW3.out.hx.cells
  have xl := HW3.out.hx.lt
  obtain ⟨y0, y1, y2, y3, y4⟩ := HT4.out.hx.cells
  have yl := HT4.out.hx.lt
  obtain ⟨v0, v1, v2, v3, v4⟩ := HT7.out.hx.cells
  have vl := HT7.out.hx.lt
  go_wp2_with fail
  clear x0 x1 x2 x3 xl y0 y1 y2 y3 y4 yl v0 v1 v2 v3 v4 vl
  refine (held_mon R.kids w15 _ R.ro R.k R.ix R.fr 1 HT7.out.ho.sl (Nat.le_refl _) hsz2).mono ?_
  rw [← HM.out]
  rintro e w16 ⟨rfl, hb⟩
  have HW3 := hide (HW3.out.below hb)
  have HT4 := hide (HT4.out.below hb)
  have HT7 := hide (HT7.out.below hb)
  clear hb
  obtain ⟨x0, x1, x2, x3⟩ := HW3.out.hx.cells
  have xl := HW3.out.hx.lt
  obtain ⟨y0, y1, y2, y3, y4⟩ := HT4.out.hx.cells
  have yl := HT4.out.hx.lt
  obtain ⟨v0, v1, v2, v3, v4⟩ := HT7.out.hx.cells
  have vl := HT7.out.hx.lt
  go_wp2_with fail
  go_ret
  exact ⟨rfl, HW3.out.hb⟩


/-- FnExactNewMonitor returns true. -/
theorem nm_walk (w : World) (m : Ne.Mon) (sv : Value) (hs : Sl w sv m.kids) (hf : m.Fit) :
    Calls Tryz.prog 3 #[.string m.ro, .agg #[.int .i64 m.k, .string m.fr, .int .i64 m.ix, sv]] w fun e w' => e = .returned (.bool true) ∧ Below w.heap.size w w' := by
  by_cases hro : (1048576 : Int) < m.ro.size
  · exact nm_role w m sv hro
  by_cases h : m.fr.size + (m.kids.len + m.kids.wt) ≤ 1048576
  · exact nm_small w m sv hs hf hro h
  · exact nm_big w m sv hs hf hro (by omega)
end Go.Proofs.YtbonmdkfmgahbaaGreatDoor.Lo

namespace Go.Proofs.YtbonmdkfmgahbaaGreatDoor
open Go.ChangeShapes Go.WideShapes Go.ChangeAt Go.RowKit
open Go.ChangeMaps (open_string)

/-- The cells of a table of numbers. -/
def mlitVal {H : Type} : DataW H → Value
  | .lit (.int k n) => .int k n
  | _ => .nilIface
def mtabCells {H : Type} : DataW H → Array Value
  | .agg l => (l.map mlitVal).toArray
  | _ => #[]
def mrelay (cs : Array Value) : Obj → Obj
  | .cells _ t frozen => .cells cs t frozen
  | o => o

/-- A world that holds the three tables: the witness. -/
noncomputable def mlaidWorld (os : Os) : World :=
  { World.holding Tryz.prog os ⟨#[], #[], []⟩ with heap := (((World.holding Tryz.prog os ⟨#[], #[], []⟩).heap.modify 3 (mrelay (mtabCells (H := Unit) Rows.laid_internal_strconv_uint64pow10))).modify 4 (mrelay (mtabCells (H := Unit) Rows.laid_math_bits_deBruijn32tab))).modify 5 (mrelay (mtabCells (H := Unit) Rows.laid_math_bits_deBruijn64tab)) }
def zeroM : Value := .agg #[.int .i64 0, .string ⟨#[]⟩, .int .i64 0, .slice none 0 0]
theorem mlaid_met (os : Os) : laidMet Tryz.prog Rows.fnExactNewMonitorRow.laid ((mlaidWorld os).forCall (fun _ _ => 0) ⟨#[], #[.string ⟨#[]⟩, zeroM], []⟩).memory :=
  laidMet_of_run' 200 (by kernel_rfl) (by kernel_rfl)
/-- Two data were read, and no variable. -/
def moneOf {H : Type} : Option (List (DataW H) × List (DataW H) × List MemPlace) → Bool
  | some ([_, _], [], _) => true
  | _ => false
theorem moneOf_some {H : Type} {x : Option (List (DataW H) × List (DataW H) × List MemPlace)} (h : moneOf x = true) : ∃ d d2 places, x = some ([d, d2], [], places) := by
  unfold moneOf at h
  split at h
  · exact ⟨_, _, _, rfl⟩
  · cases h
theorem mreads (os : Os) {H : Type} (enc : TypeId × Value → H) : ∃ d d2 places, DataW.whole enc Tryz.prog ((mlaidWorld os).forCall (fun _ _ => 0) ⟨#[], #[.string ⟨#[]⟩, zeroM], []⟩).memory Tryz.f3.params.toList Rows.fnExactNewMonitorSpec.vars false #[.string ⟨#[]⟩, zeroM].toList 8 = some ([d, d2], [], places) :=
  moneOf_some (by kernel_rfl)

set_option maxRecDepth 100000 in
theorem newmon_lifted (os : Os) (started : os.Started) (H : Type) (enc : TypeId × Value → H) (F : Stop.Interp) :
    ReturnsInHanded {} Tryz.checked os 3 .any ((OpenSpec.ofChange Rows.fnExactNewMonitorSpec).preRow enc Tryz.prog Tryz.f3 Rows.fnExactNewMonitorRow.domain false Rows.fnExactNewMonitorRow.laid) (((OpenSpec.ofChange Rows.fnExactNewMonitorSpec).at F).post enc Tryz.prog Tryz.f3 false true false false) := by
  obtain ⟨d, d2, places, hx⟩ := mreads os enc
  refine returnsInHanded_of_row (C := Tryz.checked) (s := OpenSpec.ofChange Rows.fnExactNewMonitorSpec) Tryz.own started (by kernel_rfl) Tryz.func3
    (witness_row_at (enc := enc) (C := Tryz.checked) false (mlaidWorld os) #[.string ⟨#[]⟩, zeroM] rfl (by kernel_rfl) (by kernel_rfl) (by kernel_rfl)
      (OpenSpec.preRow_of_cond 8 hx (by kernel_rfl) (fun k hk => by cases hk) (by kernel_rfl) (mlaid_met os))) ?_
  intro W base args ds gs before hval0 hW hcnd _ _ hL _ _
  have hval : ∀ (j : Nat) t v, Tryz.f3.params[j]? = some t → args[j]? = some v → Value.okWide Tryz.prog W .any base t v := hval0
  have hW' := hW
  obtain ⟨p, q, hA0, hV, rfl, hfz, hnd⟩ := hW
  have hA : DataW.TrodAll enc Tryz.prog W 0 (fun _ => true) true Tryz.f3.params.toList args.toList ds p := hA0
  rw [Tryz.params3] at hA hval
  obtain ⟨v0, v1, d0, d1, p0, p1, rfl, rfl, rfl, h0, h1⟩ := trodAll_two hA
  obtain ⟨s, rfl, rfl, rfl, hss⟩ := open_string Tryz.underlying9 (hval 0 ( /- t -/ 9) v0 rfl rfl) h0
  obtain ⟨k, fr, ix, sv, kids, rfl, w1, w2, w3, hs⟩ := Lo.open_local (hval 1 ( /- t -/ 24) v1 rfl rfl) h1
  refine (Lo.nm_walk W ⟨s, k, fr, ix, kids⟩ sv hs ⟨hss, w1, w2, w3⟩).mono fun e W' ⟨he, hb⟩ => ?_
  subst he
  exact ⟨_, rfl, law_post (s := Rows.fnExactNewMonitorSpec) Tryz.laidOut (by kernel_rfl) (by kernel_rfl) Tryz.underlying4 rfl (by cases gs with | nil => rfl | cons => exact hV.elim) hW' hb⟩

theorem newmon_said : Rows.FnExactNewMonitorSaid :=
  OpenClaim.holds_of_cond 3 Tryz.f3 rfl rfl rfl rfl rfl rfl rfl ⟨rfl, rfl, rfl, rfl, rfl⟩ rfl rfl rfl rfl rfl (by kernel_rfl) Tryz.func3 (by kernel_rfl)
    (of_decide_eq_true (by kernel_rfl)) (by unfold Func.isWrapper; first | (rw [if_pos (by decide +kernel)]; kernel_rfl) | (rw [if_neg (by decide +kernel)]; exact ⟨rfl, rfl⟩))
    (fun os started H enc _ F => by rw [OpenClaim.pre_eq_preRow]; exact newmon_lifted os started H enc F)

/-- No parameter wants a stand-in; the program's own looks are on. -/
theorem newmon_plain (f : FuncId) (fn : Func) (hf : Tryz.pinned.checked.prog.funcNamed "loop.example/sessiontypes/laws.FnExactNewMonitor" = some f) (hfn : Tryz.pinned.checked.prog.funcs[f]? = some fn) :
    true = Tryz.pinned.checked.prog.looks [] ∧ ∀ (j : Nat) t, fn.params[j]? = some t → Tryz.pinned.checked.prog.wantsStandIn t = false := by
  obtain rfl : f = 3 := Option.some.inj ((show Tryz.prog.funcNamed "loop.example/sessiontypes/laws.FnExactNewMonitor" = some 3 by kernel_rfl).symm.trans hf) |>.symm
  obtain rfl : fn = Tryz.f3 := (Option.some.inj (Tryz.func3.symm.trans hfn)).symm
  refine ⟨by kernel_rfl, fun j t ht => ?_⟩
  rw [Tryz.params3] at ht
  have hm := Array.mem_of_getElem? ht
  simp only [List.mem_toArray, List.mem_cons, List.not_mem_nil, or_false] at hm
  rcases hm with rfl | rfl
  · exact (show Tryz.prog.wantsStandIn ( /- t -/ 9) = false by kernel_rfl)
  · exact (show Tryz.prog.wantsStandIn ( /- t -/ 24) = false by kernel_rfl)

/-- The card. -/
theorem newmon_holds : Rows.FnExactNewMonitorCardSaid :=
  Claim7.holds_tied_plain_at .later [] _ _ _ _ newmon_said (fun _ h => by cases h) (by kernel_rfl) (fun _ h => by cases h) fnExactNewMonitor_row_tie rfl ⟨rfl, rfl⟩ (by kernel_rfl) rfl newmon_plain (by kernel_rfl)

#print axioms newmon_holds
end Go.Proofs.YtbonmdkfmgahbaaGreatDoor
