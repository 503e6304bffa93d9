/- Gx, Evc, Law, Or, Eo -/
import Derived.Test.YtgcefippeokmcaaVs
import Derived.Test.YtgcefippeokmcaaTx
import Derived.Test.YtgcefippeokmcaaEa
import Derived.Test.YtgcefippeokmcaaSb
import Derived.Deep.RegionHeld
import Derived.RegionTactic
import Derived.Test.YtgcefippeokmcaaRows
import Derived.Test.YtgcefippeokmcaaTree
import Derived.ProofKit
import Derived.Test.YtgcefippeokmcaaRg
import Derived.ChangeArms
import Derived.Test.YtgcefippeokmcaaDa
/- The unfolding below a recursion whose variable occurs nowhere. -/
namespace Go.Proofs.Ytgcefippeokmcaa
open Go.RowKit

theorem cp_app (E : Option Nd) : ∀ (f : F) (s : List (Option Nd)), scF f (s.length : Int) = true → cpF (s ++ [E]) f = cpF s f := by
  intro f
  induction f with
  | nil => intro s _; simp only [cpF]
  | cons lab k fr tg ix kids rest ihk ihr =>
    intro s h
    simp only [scF, Bool.and_eq_true] at h
    obtain ⟨⟨h1, h2⟩, h3⟩ := h
    unfold cpF
    by_cases h4 : k = 4
    · rw [if_pos h4, if_pos h4]
      rw [if_pos h4] at h1
      rw [if_neg (show ¬ k = 3 by omega)] at h2
      simp only [Bool.and_eq_true, decide_eq_true_eq] at h1
      have e : (s ++ [E])[ix.toNat]? = s[ix.toNat]? := List.getElem?_append_left (by omega)
      rw [e, ihr s h3, ihk s h2]
    · rw [if_neg h4, if_neg h4, ihr s h3]
      by_cases hk3 : k = 3
      · rw [if_pos hk3] at h2
        rw [if_pos hk3, if_pos hk3]
        have e := ihk (none :: s) (by rw [show (((none :: s : List (Option Nd)).length : Nat) : Int) = (s.length : Int) + 1 by simp]; exact h2)
        rw [List.cons_append] at e
        rw [e]
      · rw [if_neg hk3] at h2
        rw [if_neg hk3, if_neg hk3, ihk s h2]
theorem cpN_app (E : Option Nd) (g : Nd) (s : List (Option Nd)) (h : scN g (s.length : Int) = true) : cpN (s ++ [E]) g = cpN s g := by
  unfold scN at h
  simp only [Bool.and_eq_true] at h
  obtain ⟨h1, h2⟩ := h
  unfold cpN
  by_cases h4 : g.k = 4
  · rw [if_pos h4, if_pos h4]
    rw [if_pos h4] at h1
    rw [if_neg (show ¬ g.k = 3 by omega)] at h2
    simp only [Bool.and_eq_true, decide_eq_true_eq] at h1
    have e : (s ++ [E])[g.ix.toNat]? = s[g.ix.toNat]? := List.getElem?_append_left (by omega)
    rw [e, cp_app E g.kids s h2]
  · rw [if_neg h4, if_neg h4]
    by_cases hk3 : g.k = 3
    · rw [if_pos hk3] at h2
      rw [if_pos hk3, if_pos hk3]
      have e := cp_app E g.kids (none :: s) (by rw [show (((none :: s : List (Option Nd)).length : Nat) : Int) = (s.length : Int) + 1 by simp]; exact h2)
      rw [List.cons_append] at e
      rw [e]
    · rw [if_neg hk3] at h2
      rw [if_neg hk3, if_neg hk3, cp_app E g.kids s h2]
theorem unfN_app (E : Option Nd) : ∀ (n : Nat) (s : List (Option Nd)) (g : Nd), wN g (s.length : Int) (s.length : Int) = true → unfN n (s ++ [E]) g = unfN n s g := by
  intro n
  induction n with
  | zero => intro s g h; exact cpN_app E g s (scN_of_w g _ _ (by omega) h)
  | succ n ih =>
    intro s g h
    have hc := cpN_app E g s (scN_of_w g _ _ (by omega) h)
    unfold unfN
    by_cases h3 : g.k = 3
    · rw [if_pos h3, if_pos h3]
      cases hk : g.kids with
      | nil => exact hc
      | cons lab k fr tg ix kids rest =>
        simp only
        rw [hc]
        refine ih (some (cpN s g) :: s) ⟨k, fr, tg, ix, kids⟩ ?_
        unfold wN at h
        simp only [Bool.and_eq_true] at h
        have h2 := h.2
        rw [if_neg (by omega), if_pos h3, hk] at h2
        simp only [wF, Bool.and_eq_true] at h2
        unfold wN
        simp only [Bool.and_eq_true]
        rw [show (((some (cpN s g) :: s).length : Nat) : Int) = (s.length : Int) + 1 by simp]
        exact h2.1
    · rw [if_neg h3, if_neg h3]
      exact hc
/-- Where the variable of a recursion occurs nowhere, it unfolds as what stands in it. -/
theorem unf_vac {g : Nd} (lab fr tg : ByteArray) (ix : Int) (h : wN g 0 0 = true) : unf ⟨3, fr, tg, ix, .cons lab g.k g.fr g.tg g.ix g.kids .nil⟩ = unf g := by
  unfold unf
  rw [show (F.cons lab g.k g.fr g.tg g.ix g.kids .nil).sz + 1 = (g.kids.sz + 1) + 1 from rfl]
  conv => lhs; unfold unfN
  rw [if_pos rfl]
  exact unfN_app _ (g.kids.sz + 1) [] g h
theorem unfOk_vac {g : Nd} {KX : F} (hK : KX = .cons ⟨#[]⟩ g.k g.fr g.tg g.ix g.kids .nil) (hg : unfOk g = true) (hx : okN 3 ⟨#[]⟩ ⟨#[]⟩ 0 KX = true) :
    unfOk ⟨3, ⟨#[]⟩, ⟨#[]⟩, 0, KX⟩ = true ∧ unfR ⟨3, ⟨#[]⟩, ⟨#[]⟩, 0, KX⟩ = unfR g := by
  have hg2 := hg
  unfold unfOk at hg2
  simp only [Bool.and_eq_true] at hg2
  have e : unf ⟨3, ⟨#[]⟩, ⟨#[]⟩, 0, KX⟩ = unf g := by rw [hK]; exact unf_vac _ _ _ _ (okG_w hg2.1).1
  have h : unfOk ⟨3, ⟨#[]⟩, ⟨#[]⟩, 0, KX⟩ = true := by
    unfold unfOk
    rw [e, hg2.2, Bool.and_true]
    exact hx
  refine ⟨h, ?_⟩
  unfold unfR
  rw [if_pos h, if_pos hg, e]
theorem vx_empty_fits {fr : ByteArray} (h : fr.toList = []) : fr.size ≤ maxLen := by
  have h2 := toList_length fr
  rw [h] at h2
  have h3 : ([] : List UInt8).length = 0 := rfl
  omega
/-- A closed node that fits its place fits into values. -/
theorem vx_fit_closed {g : Nd} (h : wN g 0 0 = true) : Fit g := by
  unfold wN at h
  simp only [Bool.and_eq_true] at h
  obtain ⟨h1, h2⟩ := h
  have h0 : (Lit.int .i64 0).wf = true := by decide
  by_cases k1 : g.k = 1
  · rw [k1] at h1
    obtain ⟨a, b, c, -⟩ := shape_end h1
    exact ⟨vx_empty_fits a, vx_empty_fits b, by rw [k1]; decide, by rw [c]; exact h0⟩
  by_cases k2 : g.k = 2
  · rw [k2] at h1
    obtain ⟨a, b, -, c, -⟩ := shape_msg h1
    exact ⟨by rw [role_size a]; unfold maxLen; omega, by rw [role_size b]; unfold maxLen; omega, by rw [k2]; decide, by rw [c]; exact h0⟩
  by_cases k3 : g.k = 3
  · rw [k3] at h1
    obtain ⟨a, b, c, -⟩ := shape_rec h1
    exact ⟨vx_empty_fits a, vx_empty_fits b, by rw [k3]; decide, by rw [c]; exact h0⟩
  by_cases k4 : g.k = 4
  · rw [if_pos k4] at h2
    simp only [Bool.and_eq_true, decide_eq_true_eq] at h2
    omega
  · simp [shapeB, k1, k2, k3, k4] at h1
end Go.Proofs.Ytgcefippeokmcaa

/- The law FnGlobalVacuous: its walk. -/
namespace Go.Proofs.Ytgcefippeokmcaa
open Go.RowKit

set_option maxHeartbeats 1000000 in
set_option maxRecDepth 100000 in
theorem drawU_calls (w : World) (sv : Value) (l : List Nat) (hs : SlG elY w sv l) : Calls Try.prog 5 #[sv] w (Drawn w) := by
  have HSV := hide hs
  have hx0 := Box5.now w (.int .i64 0) (.string ⟨#[]⟩) (.string ⟨#[]⟩) (.int .i64 0) (.slice none 0 0) ( /- t -/ 25)
  have hb0 := alloc_below w (.cells #[.int .i64 0, .string ⟨#[]⟩, .string ⟨#[]⟩, .int .i64 0, .slice none 0 0] ( /- t -/ 25))
  have hz0 : (w.alloc (.cells #[.int .i64 0, .string ⟨#[]⟩, .string ⟨#[]⟩, .int .i64 0, .slice none 0 0] ( /- t -/ 25))).heap.size = w.heap.size + 1 := by simp
  have HX0 := hide hx0
  have HB0 := hide hb0
  have HZ0 := hide hz0
  clear hx0 hb0 hz0 hs
  go_enter Try.func5, Try.ntmps5
  go_upto_region 1 with fail
  generalize w.alloc (.cells #[.int .i64 0, .string ⟨#[]⟩, .string ⟨#[]⟩, .int .i64 0, .slice none 0 0] ( /- t -/ 25)) = W at *
  go_wp2_with fail
  refine (draw_calls W sv l (HSV.out.still (Still.of_below HB0.out))).mono ?_
  rintro e w2 ⟨N, u, bs, rfl, how, hge, hnd, hb, hf, hsz⟩
  obtain ⟨ua, uc, rfl⟩ := how.val
  have HX2 := hide (HX0.out.below hb)
  have HB2 := hide (HB0.out.trans (hb.mono (by have := HZ0.out; omega)))
  have HG : Hid (∀ x, x ∈ bs → w.heap.size < x) := hide (fun x hx => by have := hge x hx; have := HZ0.out; omega)
  have HOW := hide how
  have HF := hide hf
  have HND := hide hnd
  obtain ⟨x0, x1, x2, x3, x4⟩ := HX2.out.cells
  have fx := HX2.out.frozen
  have lx := HX2.out.lt
  clear hge how hf hnd hb HB0 HX0
  go_wp2_with fail
  refine bodyPost_ret (v := .agg #[.int .i64 N.k, .string N.fr, .string N.tg, .int .i64 N.ix, .slice ua N.kids.len uc]) (by simp [results, Try.results5, go_sem, *]) rfl ?_
  exact drawn_set HOW.out HG.out HND.out HB2.out HF.out hsz _ _ _ _ _

set_option maxHeartbeats 400000 in
theorem gva_big (w : World) (a : Option Addr) (n c : Nat) (hn : (1048576 : Int) < (n : Int)) :
    Calls Try.prog 3 #[.slice a n c] w fun e w' => e = .returned (.bool true) ∧ Below w.heap.size w w' := by
  go_enter Try.func3, Try.ntmps3
  go_wp2_with fail
  go_ret
  exact ⟨rfl, Below.refl _ _⟩

set_option maxHeartbeats 4000000 in
set_option maxRecDepth 100000 in
theorem gva_small (w : World) (a : Option Addr) (c : Nat) (l : List Nat) (hs : SlG elY w (.slice a l.length c) l) (hl : l.length ≤ 1048576) :
    Calls Try.prog 3 #[.slice a l.length c] w fun e w' => e = .returned (.bool true) ∧ Below w.heap.size w w' := by
  have hl2 : ¬ (1048576 : Int) < (l.length : Int) := by omega
  have HSV := hide hs
  clear hs
  go_enter Try.func3, Try.ntmps3
  go_wp2_with fail
  refine (drawU_calls w _ l HSV.out).mono ?_
  rintro e w1 ⟨g, u, bs, rfl, how, -, -, hb1, hf, hsz⟩
  obtain ⟨ga, gc, rfl⟩ := how.val
  have HN := hide (Nv.now how ( /- t -/ 25))
  have HB := hide (hb1.alloc hb1.size (.cells #[.int .i64 g.k, .string g.fr, .string g.tg, .int .i64 g.ix, .slice ga g.kids.len gc] ( /- t -/ 25)))
  have HF := hide hf
  clear how hb1 hf HSV
  obtain ⟨KX, hKX⟩ : ∃ KX, KX = F.cons ⟨#[]⟩ g.k g.fr g.tg g.ix g.kids .nil := ⟨_, rfl⟩
  have HKX := hide hKX
  have HSVX := hide (fun (W : World) (sv : Value) (hs : Sl W sv KX) => specValidBig W 3 0 ⟨#[]⟩ ⟨#[]⟩ sv KX hs)
  have HSZ := hide hsz
  clear hKX hsz
  go_upto_region 4 with fail
  generalize w1.alloc (.cells #[.int .i64 g.k, .string g.fr, .string g.tg, .int .i64 g.ix, .slice ga g.kids.len gc] ( /- t -/ 25)) = W1 at *
  generalize w1.heap.size = b1 at *
  obtain ⟨x0, x1, x2, x3, x4⟩ := HN.out.box.cells
  have lx := HN.out.lt
  have HX : Hid (Nv ((W1.alloc (.cells #[.string ⟨#[]⟩, .int .i64 g.k, .string g.fr, .string g.tg, .int .i64 g.ix, .slice ga g.kids.len gc] ( /- t -/ 28))).alloc (.cells #[.int .i64 3, .string ⟨#[]⟩, .string ⟨#[]⟩, .int .i64 0, .slice (some ⟨W1.heap.size, 0, none⟩) 1 1] ( /- t -/ 25))) (W1.heap.size + 1) (⟨3, ⟨#[]⟩, ⟨#[]⟩, 0, KX⟩ : Nd) (.slice (some ⟨W1.heap.size, 0, none⟩) 1 1)) := hide (by
    obtain ⟨bs9, how9⟩ := HN.out.own
    have how1 := ow_one (lab := ⟨#[]⟩) (show (0 : Nat) ≤ maxLen from Nat.zero_le _) HF.out how9 ( /- t -/ 28)
    rw [← HKX.out] at how1
    have := Nv.now (g := ⟨3, ⟨#[]⟩, ⟨#[]⟩, 0, KX⟩) how1 ( /- t -/ 25)
    rwa [show (W1.alloc (.cells #[.string ⟨#[]⟩, .int .i64 g.k, .string g.fr, .string g.tg, .int .i64 g.ix, .slice ga g.kids.len gc] ( /- t -/ 28))).heap.size = W1.heap.size + 1 by simp] at this)
  have hb9 := (alloc_below W1 (.cells #[.string ⟨#[]⟩, .int .i64 g.k, .string g.fr, .string g.tg, .int .i64 g.ix, .slice ga g.kids.len gc] ( /- t -/ 28))).alloc (by simp) (.cells #[.int .i64 3, .string ⟨#[]⟩, .string ⟨#[]⟩, .int .i64 0, .slice (some ⟨W1.heap.size, 0, none⟩) 1 1] ( /- t -/ 25))
  have HNx := hide (HN.out.below hb9)
  have HBx := hide (HB.out.trans (hb9.mono HB.out.size))
  obtain ⟨xa, hxa⟩ : ∃ xa, xa = some (⟨W1.heap.size, 0, none⟩ : Addr) := ⟨_, rfl⟩
  go_upto_region 5 with fail
  rw [← hxa] at HX HNx HBx ⊢
  clear x0 x1 x2 x3 x4 lx hb9 HB HN
  generalize (W1.alloc (.cells #[.string ⟨#[]⟩, .int .i64 g.k, .string g.fr, .string g.tg, .int .i64 g.ix, .slice ga g.kids.len gc] ( /- t -/ 28))).alloc (.cells #[.int .i64 3, .string ⟨#[]⟩, .string ⟨#[]⟩, .int .i64 0, .slice xa 1 1] ( /- t -/ 25)) = W2 at *
  generalize W1.heap.size + 1 = b2 at *
  clear hxa
  have HN := HNx
  have HB2 := HBx
  clear HNx HBx
  obtain ⟨x0, x1, x2, x3, x4⟩ := HN.out.box.cells
  have lx := HN.out.lt
  go_wp2_with fail
  refine (implUnf W2 g _ HN.out.sl HF.out).mono ?_
  rintro e w_2 ⟨v, vbs, rfl, vhow, -, -, vhb⟩
  obtain ⟨va, vc, rfl⟩ := vhow.val
  have HNv := hide (Nv.now vhow ( /- t -/ 25))
  have HB3 := hide ((HB2.out.trans (vhb.mono HB2.out.size)).alloc (Nat.le_trans HB2.out.size vhb.size) (.cells #[.int .i64 (unfR g).k, .string (unfR g).fr, .string (unfR g).tg, .int .i64 (unfR g).ix, .slice va (unfR g).kids.len vc] ( /- t -/ 25)))
  have HNx := hide ((HN.out.below vhb).below (alloc_below w_2 (.cells #[.int .i64 (unfR g).k, .string (unfR g).fr, .string (unfR g).tg, .int .i64 (unfR g).ix, .slice va (unfR g).kids.len vc] ( /- t -/ 25))))
  clear HN
  have HN := HNx
  clear HNx
  have HXx := hide ((HX.out.below vhb).below (alloc_below w_2 (.cells #[.int .i64 (unfR g).k, .string (unfR g).fr, .string (unfR g).tg, .int .i64 (unfR g).ix, .slice va (unfR g).kids.len vc] ( /- t -/ 25))))
  clear HX
  have HX := HXx
  clear HXx
  clear vhow vhb HB2
  clear x0 x1 x2 x3 x4 lx
  go_upto_region 6 with fail
  generalize w_2.alloc (.cells #[.int .i64 (unfR g).k, .string (unfR g).fr, .string (unfR g).tg, .int .i64 (unfR g).ix, .slice va (unfR g).kids.len vc] ( /- t -/ 25)) = W3 at *
  generalize w_2.heap.size = b3 at *
  obtain ⟨x0, x1, x2, x3, x4⟩ := HN.out.box.cells
  have lx := HN.out.lt
  go_wp2_with fail
  refine (specUnf W3 g _ HN.out.sl HF.out).mono ?_
  rintro e w_3 ⟨y, ybs, rfl, yhow, -, -, yhb⟩
  obtain ⟨ya, yc, rfl⟩ := yhow.val
  have HNy := hide (Nv.now yhow ( /- t -/ 25))
  have HB4 := hide ((HB3.out.trans (yhb.mono HB3.out.size)).alloc (Nat.le_trans HB3.out.size yhb.size) (.cells #[.int .i64 (unfR g).k, .string (unfR g).fr, .string (unfR g).tg, .int .i64 (unfR g).ix, .slice ya (unfR g).kids.len yc] ( /- t -/ 25)))
  have HXx := hide ((HX.out.below yhb).below (alloc_below w_3 (.cells #[.int .i64 (unfR g).k, .string (unfR g).fr, .string (unfR g).tg, .int .i64 (unfR g).ix, .slice ya (unfR g).kids.len yc] ( /- t -/ 25))))
  clear HX
  have HX := HXx
  clear HXx
  have HNvx := hide ((HNv.out.below yhb).below (alloc_below w_3 (.cells #[.int .i64 (unfR g).k, .string (unfR g).fr, .string (unfR g).tg, .int .i64 (unfR g).ix, .slice ya (unfR g).kids.len yc] ( /- t -/ 25))))
  clear HNv
  have HNv := HNvx
  clear HNvx
  clear yhow yhb HB3
  clear x0 x1 x2 x3 x4 lx HN
  go_upto_region 7 with fail
  generalize w_3.alloc (.cells #[.int .i64 (unfR g).k, .string (unfR g).fr, .string (unfR g).tg, .int .i64 (unfR g).ix, .slice ya (unfR g).kids.len yc] ( /- t -/ 25)) = W4 at *
  generalize w_3.heap.size = b4 at *
  have HSR := hide (unfR_sz g)
  cases hok : unfOk g with
  | false =>
    obtain ⟨v0, v1, v2, v3, v4⟩ := HNv.out.box.cells
    have lv := HNv.out.lt
    obtain ⟨y0, y1, y2, y3, y4⟩ := HNy.out.box.cells
    have ly := HNy.out.lt
    go_wp2_with fail
    refine (same_self W4 (unfR g) _ _ HNv.out.own HNy.out.own HSR.out).mono ?_
    rintro e w5 ⟨rfl, hbq⟩
    have HB := hide (HB4.out.trans (hbq.mono HB4.out.size))
    have HNvx := hide (HNv.out.below hbq)
    clear HNv
    have HNv := HNvx
    clear HNvx
    have HNyx := hide (HNy.out.below hbq)
    clear HNy
    have HNy := HNyx
    clear HNyx
    clear hbq HB4
    clear v0 v1 v2 v3 v4 lv y0 y1 y2 y3 y4 ly
    obtain ⟨v0, v1, v2, v3, v4⟩ := HNv.out.box.cells
    have lv := HNv.out.lt
    obtain ⟨y0, y1, y2, y3, y4⟩ := HNy.out.box.cells
    have ly := HNy.out.lt
    go_wp2_with fail
    refine (same_self w5 (unfR g) _ _ HNv.out.own HNy.out.own HSR.out).mono ?_
    rintro e w5a ⟨rfl, hbq⟩
    have HBF := hide (HB.out.trans (hbq.mono HB.out.size))
    clear hbq HB
    go_wp2_with fail
    go_ret
    exact ⟨rfl, HBF.out⟩
  | true =>
    have HIX : Hid (okN 3 ⟨#[]⟩ ⟨#[]⟩ 0 KX = true → ∀ (W : World) (sv : Value), Sl W sv KX → Calls Try.prog 6 #[.agg #[.int .i64 3, .string ⟨#[]⟩, .string ⟨#[]⟩, .int .i64 0, sv]] W (MadeR (unfR g) true W)) := hide (fun hox W sv hs => by
      obtain ⟨e1, e2⟩ := unfOk_vac HKX.out hok hox
      have := implUnf W (⟨3, ⟨#[]⟩, ⟨#[]⟩, 0, KX⟩ : Nd) sv hs (vx_fit_closed (okG_w (g := (⟨3, ⟨#[]⟩, ⟨#[]⟩, 0, KX⟩ : Nd)) hox).1)
      rw [e1, e2] at this
      exact this)
    generalize unfR g = R at *
    obtain ⟨v0, v1, v2, v3, v4⟩ := HNv.out.box.cells
    have lv := HNv.out.lt
    obtain ⟨y0, y1, y2, y3, y4⟩ := HNy.out.box.cells
    have ly := HNy.out.lt
    go_wp2_with fail
    refine (same_self W4 R _ _ HNv.out.own HNy.out.own HSR.out).mono ?_
    rintro e w5 ⟨rfl, hbq⟩
    have HB5 := hide (HB4.out.trans (hbq.mono HB4.out.size))
    have HNvx := hide (HNv.out.below hbq)
    clear HNv
    have HNv := HNvx
    clear HNvx
    have HNyx := hide (HNy.out.below hbq)
    clear HNy
    have HNy := HNyx
    clear HNyx
    have HXx := hide (HX.out.below hbq)
    clear HX
    have HX := HXx
    clear HXx
    clear hbq HB4
    clear v0 v1 v2 v3 v4 lv y0 y1 y2 y3 y4 ly
    obtain ⟨x0, x1, x2, x3, x4⟩ := HX.out.box.cells
    have lx := HX.out.lt
    go_wp2_with fail
    refine (HSVX.out w5 _ HX.out.sl).mono ?_
    rintro e w6 ⟨rfl, hbq⟩
    have HB := hide (HB5.out.trans (hbq.mono HB5.out.size))
    have HNvx := hide (HNv.out.below hbq)
    clear HNv
    have HNv := HNvx
    clear HNvx
    have HNyx := hide (HNy.out.below hbq)
    clear HNy
    have HNy := HNyx
    clear HNyx
    have HXx := hide (HX.out.below hbq)
    clear HX
    have HX := HXx
    clear HXx
    clear hbq HB5
    clear x0 x1 x2 x3 x4 lx
    cases hox : okN 3 ⟨#[]⟩ ⟨#[]⟩ 0 KX with
    | false =>
      obtain ⟨v0, v1, v2, v3, v4⟩ := HNv.out.box.cells
      have lv := HNv.out.lt
      obtain ⟨y0, y1, y2, y3, y4⟩ := HNy.out.box.cells
      have ly := HNy.out.lt
      go_wp2_with fail
      refine (same_self w6 R _ _ HNv.out.own HNy.out.own HSR.out).mono ?_
      rintro e w5b ⟨rfl, hbq⟩
      have HBF := hide (HB.out.trans (hbq.mono HB.out.size))
      clear hbq HB
      go_wp2_with fail
      go_ret
      exact ⟨rfl, HBF.out⟩
    | true =>
      have HI2 := hide (HIX.out hox)
      clear HIX HNy
      have HIX := HI2
      clear HI2
      obtain ⟨x0, x1, x2, x3, x4⟩ := HX.out.box.cells
      have lx := HX.out.lt
      go_wp2_with fail
      refine (HIX.out w6 _ HX.out.sl).mono ?_
      rintro e w_5 ⟨z, zbs, rfl, zhow, -, -, zhb⟩
      obtain ⟨za, zc, rfl⟩ := zhow.val
      have HNz := hide (Nv.now zhow ( /- t -/ 25))
      have HB9 := hide ((HB.out.trans (zhb.mono HB.out.size)).alloc (Nat.le_trans HB.out.size zhb.size) (.cells #[.int .i64 R.k, .string R.fr, .string R.tg, .int .i64 R.ix, .slice za R.kids.len zc] ( /- t -/ 25)))
      have HNvx := hide ((HNv.out.below zhb).below (alloc_below w_5 (.cells #[.int .i64 R.k, .string R.fr, .string R.tg, .int .i64 R.ix, .slice za R.kids.len zc] ( /- t -/ 25))))
      clear HNv
      have HNv := HNvx
      clear HNvx
      clear zhow zhb HB
      clear x0 x1 x2 x3 x4 lx
      go_upto_region 10 with fail
      generalize w_5.alloc (.cells #[.int .i64 R.k, .string R.fr, .string R.tg, .int .i64 R.ix, .slice za R.kids.len zc] ( /- t -/ 25)) = W9 at *
      generalize w_5.heap.size = b9 at *
      obtain ⟨v0, v1, v2, v3, v4⟩ := HNv.out.box.cells
      have lv := HNv.out.lt
      obtain ⟨z0, z1, z2, z3, z4⟩ := HNz.out.box.cells
      have lz := HNz.out.lt
      go_wp2_with fail
      refine (same_self W9 R _ _ HNv.out.own HNz.out.own HSR.out).mono ?_
      rintro e w10 ⟨rfl, hbq⟩
      have HBF := hide (HB9.out.trans (hbq.mono HB9.out.size))
      clear hbq HB9
      go_wp2_with fail
      go_ret
      exact ⟨rfl, HBF.out⟩

theorem gva_walk (w : World) (sv : Value) (l : List Nat) (hs : SlG elY w sv l) : Calls Try.prog 3 #[sv] w fun e w' => e = .returned (.bool true) ∧ Below w.heap.size w w' := by
  obtain ⟨a, c, rfl, h1, h2, h3⟩ := hs
  by_cases h : l.length ≤ 1048576
  · exact gva_small w a c l ⟨a, c, rfl, h1, h2, h3⟩ h
  · exact gva_big w a l.length c (by omega)
end Go.Proofs.Ytgcefippeokmcaa

/- What a law's call owes, once it is known that it returns true and has written to no old block. -/
namespace Go.Proofs.Ytgcefippeokmcaa
open Go.ChangeShapes Go.WideShapes Go.ChangeAt Go.RowKit

theorem Try.own : ownKnob Try.prog.godebug = none := by kernel_rfl
theorem Try.laidOut : laidOutB Try.prog = true := by kernel_rfl

section
variable {H : Type} {enc : TypeId × Value → H} {P : Program}

theorem trodAll_below (hl : laidOutB P = true) {W W' : World} (hb : Below W.heap.size W W') : ∀ (ts : List TypeId) (vs : List Value) (ds : List (DataW H)) (ps : List MemPlace),
    (ts.all fun t => P.readableRec t && decide (t < P.types.size)) = true → DataW.TrodAll enc P W 0 (fun _ => true) true ts vs ds ps → (∀ x ∈ ps, x.block < W.heap.size) →
    DataW.TrodAll enc P W' 0 (fun b => decide (b < W.heap.size)) true ts vs ds ps := by
  intro ts
  induction ts with
  | nil =>
    intro vs ds ps _ h _
    cases vs <;> cases ds <;> first | exact h | exact h.elim
  | cons t ts ih =>
    intro vs ds ps ht h hlt
    cases vs with
    | nil => cases ds <;> exact h.elim
    | cons v vs =>
      cases ds with
      | nil => exact h.elim
      | cons d ds =>
        obtain ⟨p, q, h1, h2, rfl⟩ := h
        simp only [List.all_cons, Bool.and_eq_true, decide_eq_true_eq] at ht
        exact ⟨p, q, Below.trod hl ht.1.1 ht.1.2 h1 hb (fun x hx => hlt x (List.mem_append_left _ hx)), ih vs ds q ht.2 h2 (fun x hx => hlt x (List.mem_append_right _ hx)), rfl⟩

/-- A law that returned true, and below the old heap's size nothing has turned. -/
theorem law_post {f : Func} {s : ChangeSpec} {W W' : World} {args : Array Value} {ds gs : List (DataW H)} {before : List MemPlace} {tb : TypeId} (hl : laidOutB P = true)
    (hp : (f.params.toList.all fun t => P.readableRec t && decide (t < P.types.size)) = true) (hrt : f.resultTypes = #[tb]) (htb : P.underlying tb = some .bool) (hvars : s.vars = [])
    (hfn : s.fn H (ds ++ gs) = { results := [.lit (.bool true)], args := ds }) (hW : DataW.Whole enc P f.params.toList s.vars false W args.toList ds gs before) (hb : Below W.heap.size W W') :
    s.post enc P f false true false false W args (.bool true) W' := by
  have hlt : ∀ p ∈ before, p.block < W.heap.size := fun p hp => hW.lt p hp
  have hW2 := hW
  obtain ⟨p, q, hA, hV, rfl, _, _⟩ := hW2
  rw [hvars] at hV
  obtain ⟨rfl, rfl⟩ := trodVars_none hV
  refine ⟨ds, [], p ++ [], [], p, [], hW, ?_, ?_, ?_, hb.frame _, fun h => by cases h⟩
  · rw [hfn, hrt]
    exact trodAll_mk1 (shut_bool htb true)
  · rw [hfn]
    exact trodAll_below hl hb _ _ _ _ hp hA (fun x hx => hlt x (List.mem_append_left _ hx))
  · rw [hfn, hvars]
    rfl
end
end Go.Proofs.Ytgcefippeokmcaa

/- Arguments that are slices of any elements, opened. -/
namespace Go.Proofs.Ytgcefippeokmcaa
open Go.ChangeShapes Go.WideShapes Go.RowKit

section
variable {H : Type} {enc : TypeId × Value → H} {W : World} {sp : Nat → Bool}

theorem add_place (a : Addr) (i : Nat) (v : Value) (h : W.cell? (a.add i) = some v) : (a.add i) = ⟨a.block, a.off + i, none⟩ := by
  obtain ⟨b, o, s⟩ := a
  by_cases hi : i = 0
  · subst hi
    simp only [Addr.add, if_pos] at h ⊢
    cases s with
    | none => rfl
    | some t =>
      exfalso
      simp only [World.cell?] at h
      split at h <;> simp at h
  · simp [Addr.add, hi]

theorem open_rows {α : Type} {E : El α} (hst : 0 < E.st) {ts te : TypeId} (hu : Try.prog.underlying ts = some (.slice te)) (hc : Try.prog.cellsOf te = E.st)
    (hel : ∀ (fuel : Nat) (cs : List Value) (x : DataW H × List MemPlace), DataW.trod enc Try.prog W 0 sp true fuel te cs = some x → cs.length = E.st → ∀ b o, (∀ k, k < E.st → W.cell? ⟨b, o + k, none⟩ = cs[k]?) → ∃ y, E.P W b o y)
    {fuel : Nat} {sv : Value} {x : DataW H × List MemPlace} (h : DataW.trod enc Try.prog W 0 sp true fuel ts [sv] = some x) : ∃ l, SlG E W sv l := by
  rcases DataW.trod_slice hu h with ⟨h0, -⟩ | ⟨a, len, cap, elems, rest, n, rfl, h0, -, -, hl, hm, hlen, hel', -, -⟩
  · simp only [List.cons.injEq, and_true] at h0
    exact ⟨[], h0 ▸ SlG.nil⟩
  · simp only [List.cons.injEq, and_true] at h0
    subst h0
    rw [hc] at hel'
    have one : ∀ i, i < len → (i = 0 → a = ⟨a.block, a.off, none⟩) ∧ ∃ y, E.P W a.block (a.off + i * E.st) y := by
      intro i hi
      have key := hel' i hi
      rw [List.getElem?_eq_getElem (by omega)] at key
      obtain ⟨cs', h1, h2⟩ := Option.bind_eq_some_iff.1 key
      obtain ⟨-, hl6, hat⟩ := World.cells?_some h1
      have a0 := hat 0 hst
      rw [List.getElem?_eq_getElem (by omega)] at a0
      have e := add_place a (i * E.st) _ (show W.cell? (a.add (i * E.st)) = some cs'[0] by simpa [Addr.add] using a0)
      refine ⟨?_, hel n cs' _ h2 hl6 _ _ (fun k hk => ?_)⟩
      · rintro rfl
        simpa [Addr.add] using e
      · have := hat k hk
        rw [e] at this
        simp only [Addr.add] at this
        split at this
        · rename_i hk0
          subst hk0
          exact this
        · exact this
    have down : ∀ j, j ≤ len → ∃ g : List α, g.length = j ∧ RowG E W a.block (a.off + (len - j) * E.st) g := by
      intro j
      induction j with
      | zero => intro _; exact ⟨[], rfl, trivial⟩
      | succ j ihj =>
        intro hj
        obtain ⟨g, hg, hr⟩ := ihj (by omega)
        obtain ⟨-, y, hy⟩ := one (len - (j + 1)) (by omega)
        refine ⟨y :: g, by simp only [List.length_cons]; omega, hy, ?_⟩
        rw [show a.off + (len - (j + 1)) * E.st + E.st = a.off + (len - j) * E.st by rw [show len - j = (len - (j + 1)) + 1 by omega, Nat.succ_mul, Nat.add_assoc]]
        exact hr
    obtain ⟨f, hf, hr⟩ := down len (Nat.le_refl _)
    refine ⟨f, some a, cap, by rw [hf], by omega, hm, ?_⟩
    cases f with
    | nil => exact Or.inl rfl
    | cons y rest' =>
      right
      simp only [List.length_cons] at hf
      obtain ⟨ha, -⟩ := one 0 (by omega)
      refine ⟨a.block, a.off, by rw [← ha rfl], ?_⟩
      simpa using hr

end
end Go.Proofs.Ytgcefippeokmcaa

/- An argument that is a row of bytes, opened. -/
namespace Go.Proofs.Ytgcefippeokmcaa
open Go.ChangeShapes Go.WideShapes Go.RowKit

section
variable {H : Type} {enc : TypeId × Value → H} {W : World} {sp : Nat → Bool}

theorem cells_u8 : Try.prog.cellsOf ( /- t -/ 5) = elY.st := by kernel_rfl
theorem open_bytes {v : Value} {d : DataW H} {p : List MemPlace} {ts : TypeId} (hu : Try.prog.underlying ts = some (.slice ( /- t -/ 5))) (hv : ∃ a len cap, v = .slice a len cap)
    (h : DataW.Trod enc Try.prog W 0 sp true ts v d p) : ∃ l, SlG elY W v l := by
  obtain ⟨fuel, hf⟩ := h
  obtain ⟨a, len, cap, rfl⟩ := hv
  refine open_rows (E := elY) (by decide) hu cells_u8 (fun fuel cs x hx hl b o hcell => ?_) hf
  obtain ⟨n, rfl, rfl, hw⟩ := DataW.trod_int (k := .u8) (show Try.prog.underlying ( /- t -/ 5) = some (.int .u8) by kernel_rfl) hx
  have hb : 0 ≤ n ∧ n < 256 := by
    simp [Lit.wf, IntKind.min, IntKind.max, IntKind.bits, IntKind.signed] at hw
    omega
  obtain ⟨m, rfl⟩ : ∃ m : Nat, n = (m : Int) := ⟨n.toNat, by omega⟩
  exact ⟨m, by omega, hcell 0 (by decide)⟩
end
end Go.Proofs.Ytgcefippeokmcaa
