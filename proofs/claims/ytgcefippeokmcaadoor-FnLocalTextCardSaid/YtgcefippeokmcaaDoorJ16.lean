/- LEu, Law, Or, Eo -/
import Derived.Test.YtgcefippeokmcaaDoorJ15
import Derived.Deep.RegionHeld
import Derived.RegionTactic
import Derived.Test.YtgcefippeokmcaaDoorRows
import Derived.Test.YtgcefippeokmcaaDoorJ00
import Derived.ProofKit
import Derived.ChangeArms
/- The law FnLocalUnfold: its walk. -/
namespace Go.Proofs.YtgcefippeokmcaaDoor.Lo
open Go.RowKit

set_option maxHeartbeats 1000000 in
set_option maxRecDepth 100000 in
theorem drawU_calls (w : World) (sv : Value) (l : List Nat) (hs : SlG elY w sv l) : Calls Tryd.prog 13 #[sv] w (Drawn w) := by
  have HSV := hide hs
  have hx0 := Box4.now w (.int .i64 0) (.string ⟨#[]⟩) (.int .i64 0) (.slice none 0 0) ( /- t -/ 25)
  have hb0 := alloc_below w (.cells #[.int .i64 0, .string ⟨#[]⟩, .int .i64 0, .slice none 0 0] ( /- t -/ 25))
  have hz0 : (w.alloc (.cells #[.int .i64 0, .string ⟨#[]⟩, .int .i64 0, .slice none 0 0] ( /- t -/ 25))).heap.size = w.heap.size + 1 := by simp
  have HX0 := hide hx0
  have HB0 := hide hb0
  have HZ0 := hide hz0
  clear hx0 hb0 hz0 hs
  go_enter Tryd.func13, Tryd.ntmps13
  go_upto_region 1 with fail
  generalize w.alloc (.cells #[.int .i64 0, .string ⟨#[]⟩, .int .i64 0, .slice none 0 0] ( /- t -/ 25)) = W at *
  go_wp2_with fail
  refine (draw_calls W sv l (HSV.out.still (Still.of_below HB0.out))).mono ?_
  rintro e w2 ⟨N, u, bs, rfl, how, hge, hnd, hb, hf, hsz, hsm⟩
  obtain ⟨ua, uc, rfl⟩ := how.val
  have HX2 := hide (HX0.out.below hb)
  have HB2 := hide (HB0.out.trans (hb.mono (by have := HZ0.out; omega)))
  have HG : Hid (∀ x, x ∈ bs → w.heap.size < x) := hide (fun x hx => by have := hge x hx; have := HZ0.out; omega)
  have HOW := hide how
  have HF := hide hf
  have HSM := hide hsm
  have HND := hide hnd
  obtain ⟨x0, x1, x2, x3⟩ := HX2.out.cells
  have fx := HX2.out.frozen
  have lx := HX2.out.lt
  clear hge how hf hsm hnd hb HB0 HX0
  go_wp2_with fail
  refine bodyPost_ret (v := .agg #[.int .i64 N.k, .string N.fr, .int .i64 N.ix, .slice ua N.kids.len uc]) (by simp [results, Tryd.results13, go_sem, *]) rfl ?_
  exact drawn_set HOW.out HG.out HND.out HB2.out HF.out hsz HSM.out _ _ _ _

set_option maxHeartbeats 400000 in
theorem lunf_big (w : World) (a : Option Addr) (n c : Nat) (hn : (1048576 : Int) < (n : Int)) :
    Calls Tryd.prog 3 #[.slice a n c] w fun e w' => e = .returned (.bool true) ∧ Below w.heap.size w w' := by
  go_enter Tryd.func3, Tryd.ntmps3
  go_wp2_with fail
  go_ret
  exact ⟨rfl, Below.refl _ _⟩

set_option maxHeartbeats 4000000 in
set_option maxRecDepth 100000 in
theorem lunf_small (w : World) (a : Option Addr) (c : Nat) (l : List Nat) (hs : SlG elY w (.slice a l.length c) l) (hl : l.length ≤ 1048576) :
    Calls Tryd.prog 3 #[.slice a l.length c] w fun e w' => e = .returned (.bool true) ∧ Below w.heap.size w w' := by
  have hl2 : ¬ (1048576 : Int) < (l.length : Int) := by omega
  have HSV := hide hs
  clear hs
  go_enter Tryd.func3, Tryd.ntmps3
  go_wp2_with fail
  refine (drawU_calls w _ l HSV.out).mono ?_
  rintro e w1 ⟨g, u, bs, rfl, how, -, -, hb1, hf, hsz, -⟩
  obtain ⟨ga, gc, rfl⟩ := how.val
  have HN1 := hide (Nv.now how ( /- t -/ 25))
  have HB1 := hide (hb1.alloc hb1.size (.cells #[.int .i64 g.k, .string g.fr, .int .i64 g.ix, .slice ga g.kids.len gc] ( /- t -/ 25)))
  have HF := hide hf
  have HSZ := hide hsz
  clear how hb1 hf hsz HSV
  go_upto_region 4 with fail
  generalize w1.alloc (.cells #[.int .i64 g.k, .string g.fr, .int .i64 g.ix, .slice ga g.kids.len gc] ( /- t -/ 25)) = W1 at *
  generalize w1.heap.size = b1 at *
  obtain ⟨x0, x1, x2, x3⟩ := HN1.out.box.cells
  have lx := HN1.out.lt
  go_wp2_with fail
  refine (implUnf W1 g _ HN1.out.sl).mono ?_
  rintro e w_2 ⟨v, vbs, rfl, vhow, -, -, vhb⟩
  obtain ⟨va, vc, rfl⟩ := vhow.val
  have HNv := hide (Nv.now vhow ( /- t -/ 25))
  have HB2 := hide ((HB1.out.trans (vhb.mono HB1.out.size)).alloc (Nat.le_trans HB1.out.size vhb.size) (.cells #[.int .i64 (unfR g).k, .string (unfR g).fr, .int .i64 (unfR g).ix, .slice va (unfR g).kids.len vc] ( /- t -/ 25)))
  have HN1x := hide ((HN1.out.below vhb).below (alloc_below w_2 (.cells #[.int .i64 (unfR g).k, .string (unfR g).fr, .int .i64 (unfR g).ix, .slice va (unfR g).kids.len vc] ( /- t -/ 25))))
  clear HN1
  have HN1 := HN1x
  clear HN1x
  clear vhow vhb
  clear x0 x1 x2 x3 lx HB1
  go_upto_region 5 with fail
  generalize w_2.alloc (.cells #[.int .i64 (unfR g).k, .string (unfR g).fr, .int .i64 (unfR g).ix, .slice va (unfR g).kids.len vc] ( /- t -/ 25)) = W2 at *
  generalize w_2.heap.size = b2 at *
  obtain ⟨x0, x1, x2, x3⟩ := HN1.out.box.cells
  have lx := HN1.out.lt
  go_wp2_with fail
  refine (specUnf W2 g _ HN1.out.sl HF.out (by have := HSZ.out; omega)).mono ?_
  rintro e w_3 ⟨y, ybs, rfl, yhow, -, -, yhb⟩
  obtain ⟨ya, yc, rfl⟩ := yhow.val
  have HNy := hide (Nv.now yhow ( /- t -/ 25))
  have HB3 := hide ((HB2.out.trans (yhb.mono HB2.out.size)).alloc (Nat.le_trans HB2.out.size yhb.size) (.cells #[.int .i64 (unfR g).k, .string (unfR g).fr, .int .i64 (unfR g).ix, .slice ya (unfR g).kids.len yc] ( /- t -/ 25)))
  have HN1x := hide ((HN1.out.below yhb).below (alloc_below w_3 (.cells #[.int .i64 (unfR g).k, .string (unfR g).fr, .int .i64 (unfR g).ix, .slice ya (unfR g).kids.len yc] ( /- t -/ 25))))
  clear HN1
  have HN1 := HN1x
  clear HN1x
  have HNvx := hide ((HNv.out.below yhb).below (alloc_below w_3 (.cells #[.int .i64 (unfR g).k, .string (unfR g).fr, .int .i64 (unfR g).ix, .slice ya (unfR g).kids.len yc] ( /- t -/ 25))))
  clear HNv
  have HNv := HNvx
  clear HNvx
  clear yhow yhb
  clear x0 x1 x2 x3 lx HB2
  go_upto_region 6 with fail
  generalize w_3.alloc (.cells #[.int .i64 (unfR g).k, .string (unfR g).fr, .int .i64 (unfR g).ix, .slice ya (unfR g).kids.len yc] ( /- t -/ 25)) = W3 at *
  generalize w_3.heap.size = b3 at *
  have HSR := hide (unfR_sz g)
  cases hok : unfOk g with
  | false =>
    obtain ⟨v0, v1, v2, v3⟩ := HNv.out.box.cells
    have lv := HNv.out.lt
    obtain ⟨y0, y1, y2, y3⟩ := HNy.out.box.cells
    have ly := HNy.out.lt
    go_wp2_with fail
    refine (same_self W3 (unfR g) _ _ HNv.out.own HNy.out.own HSR.out).mono ?_
    rintro e w4 ⟨rfl, hb4⟩
    have HNv4 := hide (HNv.out.below hb4)
    have HNy4 := hide (HNy.out.below hb4)
    have HB4 := hide (HB3.out.trans (hb4.mono HB3.out.size))
    clear hb4 v0 v1 v2 v3 lv y0 y1 y2 y3 ly HNv HNy HB3
    obtain ⟨v0, v1, v2, v3⟩ := HNv4.out.box.cells
    have lv := HNv4.out.lt
    obtain ⟨y0, y1, y2, y3⟩ := HNy4.out.box.cells
    have ly := HNy4.out.lt
    go_wp2_with fail
    refine (same_self w4 (unfR g) _ _ HNv4.out.own HNy4.out.own HSR.out).mono ?_
    rintro e w5 ⟨rfl, hb5⟩
    have HB5 := hide (HB4.out.trans (hb5.mono HB4.out.size))
    clear hb5
    go_wp2_with fail
    go_ret
    exact ⟨rfl, HB5.out⟩
  | true =>
    have hR : unfR g = unf g := by unfold unfR; rw [if_pos hok]
    obtain ⟨r1, r2, r3, r4⟩ := unf_unf hok
    have HUO : Hid (unfOk (unfR g) = true) := hide (by rw [hR]; exact r1)
    have HUR : Hid (unfR (unfR g) = unfR g) := hide (by rw [hR]; unfold unfR; rw [if_pos r1]; exact r2)
    have k3 : ¬ (unfR g).k = 4 := by rw [hR]; exact r3
    have k4 : ¬ (unfR g).k = 5 := by rw [hR]; exact r4
    have k3b : ((unfR g).k != 4) = true := by simp [k3]
    have k4b : ((unfR g).k != 5) = true := by simp [k4]
    have HPE : Hid (peersN (unfR g).k (unfR g).fr (unfR g).ix (unfR g).kids = peersN g.k g.fr g.ix g.kids) := hide (by rw [hR]; exact unf_peers hok)
    have HIU := hide (fun (W : World) (sv : Value) (hs : Sl W sv (unfR g).kids) => implUnf W (unfR g) sv hs)
    rw [HUO.out, HUR.out] at HIU
    clear hR r1 r2 r3 r4 HUO HUR
    generalize unfR g = R at *
    obtain ⟨v0, v1, v2, v3⟩ := HNv.out.box.cells
    have lv := HNv.out.lt
    obtain ⟨y0, y1, y2, y3⟩ := HNy.out.box.cells
    have ly := HNy.out.lt
    go_wp2_with fail
    refine (same_self W3 R _ _ HNv.out.own HNy.out.own HSR.out).mono ?_
    rintro e w4 ⟨rfl, hb4⟩
    have HNv4 := hide (HNv.out.below hb4)
    have HN14 := hide (HN1.out.below hb4)
    have HB4 := hide (HB3.out.trans (hb4.mono HB3.out.size))
    clear hb4 v0 v1 v2 v3 lv y0 y1 y2 y3 ly HNv HNy HB3 HN1
    obtain ⟨v0, v1, v2, v3⟩ := HNv4.out.box.cells
    have lv := HNv4.out.lt
    go_wp2_with fail
    refine (HIU.out w4 _ HNv4.out.sl).mono ?_
    rintro e w_5 ⟨z, zbs, rfl, zhow, -, -, zhb⟩
    obtain ⟨za, zc, rfl⟩ := zhow.val
    have HNz := hide (Nv.now zhow ( /- t -/ 25))
    have HB5 := hide ((HB4.out.trans (zhb.mono HB4.out.size)).alloc (Nat.le_trans HB4.out.size zhb.size) (.cells #[.int .i64 R.k, .string R.fr, .int .i64 R.ix, .slice za R.kids.len zc] ( /- t -/ 25)))
    have HN14x := hide ((HN14.out.below zhb).below (alloc_below w_5 (.cells #[.int .i64 R.k, .string R.fr, .int .i64 R.ix, .slice za R.kids.len zc] ( /- t -/ 25))))
    clear HN14
    have HN14 := HN14x
    clear HN14x
    have HNv4x := hide ((HNv4.out.below zhb).below (alloc_below w_5 (.cells #[.int .i64 R.k, .string R.fr, .int .i64 R.ix, .slice za R.kids.len zc] ( /- t -/ 25))))
    clear HNv4
    have HNv4 := HNv4x
    clear HNv4x
    clear zhow zhb
    clear v0 v1 v2 v3 lv HB4
    go_upto_region 9 with fail
    generalize w_5.alloc (.cells #[.int .i64 R.k, .string R.fr, .int .i64 R.ix, .slice za R.kids.len zc] ( /- t -/ 25)) = W5 at *
    generalize w_5.heap.size = b5 at *
    have HKEEP := hide (And.intro HNz.out (And.intro HNv4.out (And.intro HN14.out HB5.out)))
    clear HNz HNv4 HN14 HB5 HSZ
    refine wp_region_held_drew (S := (fun w' => Nv w' b5 R (.slice za R.kids.len zc) ∧ Nv w' b2 R (.slice va R.kids.len vc) ∧ Nv w' b1 g (.slice ga g.kids.len gc) ∧ Below w.heap.size w w')) (by kernel_rfl) ?_ (fun hHeld => ?_)
    · exact ⟨HKEEP.out.1.drew, HKEEP.out.2.1.drew, HKEEP.out.2.2.1.drew, HKEEP.out.2.2.2.drew⟩
    have HKEEP := hide hHeld
    refine wpAnyH_take (i := 0) (v := ?v0) rfl (by kernel_rfl) (by kernel_rfl) (by kernel_rfl) (fun _ _ _ h => h) (Or.inl ⟨by kernel_rfl, ?hy0⟩) (by assumption) ?rest0
    case hy0 => ((intro wS hSw); (obtain ⟨hSa, hSb, hSc, -⟩ := hSw); (obtain ⟨p0, p1, p2, p3⟩ := hSa.box.cells); (obtain ⟨q0, q1, q2, q3⟩ := hSb.box.cells); (obtain ⟨r0, r1, r2, r3⟩ := hSc.box.cells); (go_simp); (try with_reducible rfl))
    change wpAnyH _ _ _ _ _ _ _ (Act.put _ (some 51) _) _
    (try simp only [Act.put]); (try simp only [List.setIfInBounds_toArray]); (try simp only [List.set_cons_zero]); (try simp only [List.set_cons_succ])
    refine wpAnyH_take (i := 1) (v := ?v1) rfl (by kernel_rfl) (by kernel_rfl) (by kernel_rfl) (fun _ _ _ h => h) (Or.inl ⟨by kernel_rfl, ?hy1⟩) (by assumption) ?rest1
    case hy1 => ((intro wS hSw); (obtain ⟨hSa, hSb, hSc, -⟩ := hSw); (obtain ⟨p0, p1, p2, p3⟩ := hSa.box.cells); (obtain ⟨q0, q1, q2, q3⟩ := hSb.box.cells); (obtain ⟨r0, r1, r2, r3⟩ := hSc.box.cells); (go_simp); (try with_reducible rfl))
    change wpAnyH _ _ _ _ _ _ _ (Act.put _ (some 52) _) _
    (try simp only [Act.put]); (try simp only [List.setIfInBounds_toArray]); (try simp only [List.set_cons_zero]); (try simp only [List.set_cons_succ])
    refine wpAnyH_take (i := 2) (v := ?v2) rfl (by kernel_rfl) (by kernel_rfl) (by kernel_rfl) (fun _ _ _ h => h) (Or.inl ⟨by kernel_rfl, ?hy2⟩) (by assumption) ?rest2
    case hy2 => ((intro wS hSw); (obtain ⟨hSa, hSb, hSc, -⟩ := hSw); (obtain ⟨p0, p1, p2, p3⟩ := hSa.box.cells); (obtain ⟨q0, q1, q2, q3⟩ := hSb.box.cells); (obtain ⟨r0, r1, r2, r3⟩ := hSc.box.cells); (go_simp); (try with_reducible rfl))
    change wpAnyH _ _ _ _ _ _ _ (Act.put _ (some 53) _) _
    (try simp only [Act.put]); (try simp only [List.setIfInBounds_toArray]); (try simp only [List.set_cons_zero]); (try simp only [List.set_cons_succ])
    refine wpAnyH_take (i := 3) (v := ?v3) rfl (by kernel_rfl) (by kernel_rfl) (by kernel_rfl) (fun _ _ _ h => h) (Or.inl ⟨by kernel_rfl, ?hy3⟩) (by assumption) ?rest3
    case hy3 => ((intro wS hSw); (obtain ⟨hSa, hSb, hSc, -⟩ := hSw); (obtain ⟨p0, p1, p2, p3⟩ := hSa.box.cells); (obtain ⟨q0, q1, q2, q3⟩ := hSb.box.cells); (obtain ⟨r0, r1, r2, r3⟩ := hSc.box.cells); (go_simp); (try with_reducible rfl))
    change wpAnyH _ _ _ _ _ _ _ (Act.put _ (some 54) _) _
    (try simp only [Act.put]); (try simp only [List.setIfInBounds_toArray]); (try simp only [List.set_cons_zero]); (try simp only [List.set_cons_succ])
    refine wpAnyH_ready (rs := [4]) (by kernel_rfl) (by simp) (AllReadyH.cons rfl (fun K hK => ?_) AllReadyH.nil)
    rw [if_pos (by kernel_rfl)]
    go_simp
    (obtain ⟨hA, hB, hC, hD⟩ := HKEEP.out); go_at_call 16; refine (same_self _ R _ _ hA.own hB.own HSR.out).mono ?_; (rintro e w_x ⟨rfl, hbx⟩); (have HK2 := hide (And.intro (hA.below hbx) (And.intro (hB.below hbx) (And.intro (hC.below hbx) (hD.trans (hbx.mono hD.size)))))); (clear hA hB hC hD hbx HKEEP); (have HKEEP := HK2); clear HK2
    refine hK.out _ _ ?_ (fun hHeld => ?_)
    · exact HKEEP.out
    clear hK K
    (try simp only [Act.put]); (try simp only [List.setIfInBounds_toArray]); (try simp only [List.set_cons_zero]); (try simp only [List.set_cons_succ])
    refine wpAnyH_take (i := 5) (v := ?v5) rfl (by kernel_rfl) (by kernel_rfl) (by kernel_rfl) (fun _ _ _ h => h) (Or.inl ⟨by kernel_rfl, ?hy5⟩) (by assumption) ?rest5
    case hy5 => ((intro wS hSw); (obtain ⟨hSa, hSb, hSc, -⟩ := hSw); (obtain ⟨p0, p1, p2, p3⟩ := hSa.box.cells); (obtain ⟨q0, q1, q2, q3⟩ := hSb.box.cells); (obtain ⟨r0, r1, r2, r3⟩ := hSc.box.cells); (go_simp); (try with_reducible rfl))
    change wpAnyH _ _ _ _ _ _ _ (Act.put _ (some 56) _) _
    (try simp only [Act.put]); (try simp only [List.setIfInBounds_toArray]); (try simp only [List.set_cons_zero]); (try simp only [List.set_cons_succ])
    refine wpAnyH_take (i := 6) (v := ?v6) rfl (by kernel_rfl) (by kernel_rfl) (by kernel_rfl) (fun _ _ _ h => h) (Or.inl ⟨by kernel_rfl, ?hy6⟩) (by assumption) ?rest6
    case hy6 => ((intro wS hSw); (obtain ⟨hSa, hSb, hSc, -⟩ := hSw); (obtain ⟨p0, p1, p2, p3⟩ := hSa.box.cells); (obtain ⟨q0, q1, q2, q3⟩ := hSb.box.cells); (obtain ⟨r0, r1, r2, r3⟩ := hSc.box.cells); (go_simp); (try with_reducible rfl))
    change wpAnyH _ _ _ _ _ _ _ (Act.put _ (some 57) _) _
    (try simp only [Act.put]); (try simp only [List.setIfInBounds_toArray]); (try simp only [List.set_cons_zero]); (try simp only [List.set_cons_succ])
    refine wpAnyH_take (i := 7) (v := ?v7) rfl (by kernel_rfl) (by kernel_rfl) (by kernel_rfl) (fun _ _ _ h => h) (Or.inl ⟨by kernel_rfl, ?hy7⟩) (by assumption) ?rest7
    case hy7 => ((intro wS hSw); (obtain ⟨hSa, hSb, hSc, -⟩ := hSw); (obtain ⟨p0, p1, p2, p3⟩ := hSa.box.cells); (obtain ⟨q0, q1, q2, q3⟩ := hSb.box.cells); (obtain ⟨r0, r1, r2, r3⟩ := hSc.box.cells); (go_simp); (try with_reducible rfl))
    change wpAnyH _ _ _ _ _ _ _ (Act.put _ (some 58) _) _
    (try simp only [Act.put]); (try simp only [List.setIfInBounds_toArray]); (try simp only [List.set_cons_zero]); (try simp only [List.set_cons_succ])
    refine wpAnyH_take (i := 8) (v := ?v8) rfl (by kernel_rfl) (by kernel_rfl) (by kernel_rfl) (fun _ _ _ h => h) (Or.inl ⟨by kernel_rfl, ?hy8⟩) (by assumption) ?rest8
    case hy8 => ((intro wS hSw); (obtain ⟨hSa, hSb, hSc, -⟩ := hSw); (obtain ⟨p0, p1, p2, p3⟩ := hSa.box.cells); (obtain ⟨q0, q1, q2, q3⟩ := hSb.box.cells); (obtain ⟨r0, r1, r2, r3⟩ := hSc.box.cells); (go_simp); (try with_reducible rfl))
    change wpAnyH _ _ _ _ _ _ _ (Act.put _ (some 59) _) _
    (try simp only [Act.put]); (try simp only [List.setIfInBounds_toArray]); (try simp only [List.set_cons_zero]); (try simp only [List.set_cons_succ])
    refine wpAnyH_take (i := 9) (v := ?v9) rfl (by kernel_rfl) (by kernel_rfl) (by kernel_rfl) (fun _ _ _ h => h) (Or.inl ⟨by kernel_rfl, ?hy9⟩) (by assumption) ?rest9
    case hy9 => ((intro wS hSw); (obtain ⟨hSa, hSb, hSc, -⟩ := hSw); (obtain ⟨p0, p1, p2, p3⟩ := hSa.box.cells); (obtain ⟨q0, q1, q2, q3⟩ := hSb.box.cells); (obtain ⟨r0, r1, r2, r3⟩ := hSc.box.cells); (go_simp); (try with_reducible rfl))
    change wpAnyH _ _ _ _ _ _ _ (Act.put _ (some 60) _) _
    (try simp only [Act.put]); (try simp only [List.setIfInBounds_toArray]); (try simp only [List.set_cons_zero]); (try simp only [List.set_cons_succ])
    refine wpAnyH_take (i := 10) (v := ?v10) rfl (by kernel_rfl) (by kernel_rfl) (by kernel_rfl) (fun _ _ _ h => h) (Or.inl ⟨by kernel_rfl, ?hy10⟩) (by assumption) ?rest10
    case hy10 => ((intro wS hSw); (obtain ⟨hSa, hSb, hSc, -⟩ := hSw); (obtain ⟨p0, p1, p2, p3⟩ := hSa.box.cells); (obtain ⟨q0, q1, q2, q3⟩ := hSb.box.cells); (obtain ⟨r0, r1, r2, r3⟩ := hSc.box.cells); (go_simp); (try with_reducible rfl))
    change wpAnyH _ _ _ _ _ _ _ (Act.put _ (some 61) _) _
    (try simp only [Act.put]); (try simp only [List.setIfInBounds_toArray]); (try simp only [List.set_cons_zero]); (try simp only [List.set_cons_succ])
    refine wpAnyH_take (i := 11) (v := ?v11) rfl (by kernel_rfl) (by kernel_rfl) (by kernel_rfl) (fun _ _ _ h => h) (Or.inl ⟨by kernel_rfl, ?hy11⟩) (by assumption) ?rest11
    case hy11 => ((intro wS hSw); (obtain ⟨hSa, hSb, hSc, -⟩ := hSw); (obtain ⟨p0, p1, p2, p3⟩ := hSa.box.cells); (obtain ⟨q0, q1, q2, q3⟩ := hSb.box.cells); (obtain ⟨r0, r1, r2, r3⟩ := hSc.box.cells); (go_simp); (try with_reducible rfl))
    change wpAnyH _ _ _ _ _ _ _ (Act.put _ (some 62) _) _
    (try simp only [Act.put]); (try simp only [List.setIfInBounds_toArray]); (try simp only [List.set_cons_zero]); (try simp only [List.set_cons_succ])
    refine wpAnyH_take (i := 12) (v := ?v12) rfl (by kernel_rfl) (by kernel_rfl) (by kernel_rfl) (fun _ _ _ h => h) (Or.inl ⟨by kernel_rfl, ?hy12⟩) (by assumption) ?rest12
    case hy12 => ((intro wS hSw); (obtain ⟨hSa, hSb, hSc, -⟩ := hSw); (obtain ⟨p0, p1, p2, p3⟩ := hSa.box.cells); (obtain ⟨q0, q1, q2, q3⟩ := hSb.box.cells); (obtain ⟨r0, r1, r2, r3⟩ := hSc.box.cells); (go_simp); (try with_reducible rfl))
    change wpAnyH _ _ _ _ _ _ _ (Act.put _ (some 63) _) _
    (try simp only [Act.put]); (try simp only [List.setIfInBounds_toArray]); (try simp only [List.set_cons_zero]); (try simp only [List.set_cons_succ])
    refine wpAnyH_take (i := 13) (v := ?v13) rfl (by kernel_rfl) (by kernel_rfl) (by kernel_rfl) (fun _ _ _ h => h) (Or.inl ⟨by kernel_rfl, ?hy13⟩) (by assumption) ?rest13
    case hy13 => ((intro wS hSw); (obtain ⟨hSa, hSb, hSc, -⟩ := hSw); (obtain ⟨p0, p1, p2, p3⟩ := hSa.box.cells); (obtain ⟨q0, q1, q2, q3⟩ := hSb.box.cells); (obtain ⟨r0, r1, r2, r3⟩ := hSc.box.cells); (go_simp); (try with_reducible rfl))
    change wpAnyH _ _ _ _ _ _ _ (Act.put _ (some 64) _) _
    (try simp only [Act.put]); (try simp only [List.setIfInBounds_toArray]); (try simp only [List.set_cons_zero]); (try simp only [List.set_cons_succ])
    refine wpAnyH_take (i := 14) (v := ?v14) rfl (by kernel_rfl) (by kernel_rfl) (by kernel_rfl) (fun _ _ _ h => h) (Or.inl ⟨by kernel_rfl, ?hy14⟩) (by assumption) ?rest14
    case hy14 => ((intro wS hSw); (obtain ⟨hSa, hSb, hSc, -⟩ := hSw); (obtain ⟨p0, p1, p2, p3⟩ := hSa.box.cells); (obtain ⟨q0, q1, q2, q3⟩ := hSb.box.cells); (obtain ⟨r0, r1, r2, r3⟩ := hSc.box.cells); (go_simp); (try with_reducible rfl))
    change wpAnyH _ _ _ _ _ _ _ (Act.put _ (some 65) _) _
    (try simp only [Act.put]); (try simp only [List.setIfInBounds_toArray]); (try simp only [List.set_cons_zero]); (try simp only [List.set_cons_succ])
    refine wpAnyH_take (i := 15) (v := ?v15) rfl (by kernel_rfl) (by kernel_rfl) (by kernel_rfl) (fun _ _ _ h => h) (Or.inl ⟨by kernel_rfl, ?hy15⟩) (by assumption) ?rest15
    case hy15 => ((intro wS hSw); (obtain ⟨hSa, hSb, hSc, -⟩ := hSw); (obtain ⟨p0, p1, p2, p3⟩ := hSa.box.cells); (obtain ⟨q0, q1, q2, q3⟩ := hSb.box.cells); (obtain ⟨r0, r1, r2, r3⟩ := hSc.box.cells); (go_simp); (try with_reducible rfl))
    change wpAnyH _ _ _ _ _ _ _ (Act.put _ (some 66) _) _
    (try simp only [Act.put]); (try simp only [List.setIfInBounds_toArray]); (try simp only [List.set_cons_zero]); (try simp only [List.set_cons_succ])
    refine wpAnyH_take (i := 16) (v := ?v16) rfl (by kernel_rfl) (by kernel_rfl) (by kernel_rfl) (fun _ _ _ h => h) (Or.inl ⟨by kernel_rfl, ?hy16⟩) (by assumption) ?rest16
    case hy16 => ((intro wS hSw); (obtain ⟨hSa, hSb, hSc, -⟩ := hSw); (obtain ⟨p0, p1, p2, p3⟩ := hSa.box.cells); (obtain ⟨q0, q1, q2, q3⟩ := hSb.box.cells); (obtain ⟨r0, r1, r2, r3⟩ := hSc.box.cells); (go_simp); (try with_reducible rfl))
    change wpAnyH _ _ _ _ _ _ _ (Act.put _ (some 67) _) _
    (try simp only [Act.put]); (try simp only [List.setIfInBounds_toArray]); (try simp only [List.set_cons_zero]); (try simp only [List.set_cons_succ])
    refine wpAnyH_take (i := 17) (v := ?v17) rfl (by kernel_rfl) (by kernel_rfl) (by kernel_rfl) (fun _ _ _ h => h) (Or.inl ⟨by kernel_rfl, ?hy17⟩) (by assumption) ?rest17
    case hy17 => ((intro wS hSw); (obtain ⟨hSa, hSb, hSc, -⟩ := hSw); (obtain ⟨p0, p1, p2, p3⟩ := hSa.box.cells); (obtain ⟨q0, q1, q2, q3⟩ := hSb.box.cells); (obtain ⟨r0, r1, r2, r3⟩ := hSc.box.cells); (go_simp); (try with_reducible rfl))
    change wpAnyH _ _ _ _ _ _ _ (Act.put _ (some 68) _) _
    (try simp only [Act.put]); (try simp only [List.setIfInBounds_toArray]); (try simp only [List.set_cons_zero]); (try simp only [List.set_cons_succ])
    refine wpAnyH_take (i := 19) (v := ?v19) rfl (by kernel_rfl) (by kernel_rfl) (by kernel_rfl) (fun _ _ _ h => h) (Or.inl ⟨by kernel_rfl, ?hy19⟩) (by assumption) ?rest19
    case hy19 => ((intro wS hSw); (obtain ⟨hSa, hSb, hSc, -⟩ := hSw); (obtain ⟨p0, p1, p2, p3⟩ := hSa.box.cells); (obtain ⟨q0, q1, q2, q3⟩ := hSb.box.cells); (obtain ⟨r0, r1, r2, r3⟩ := hSc.box.cells); (go_simp); (try with_reducible rfl))
    change wpAnyH _ _ _ _ _ _ _ (Act.put _ (some 70) _) _
    (try simp only [Act.put]); (try simp only [List.setIfInBounds_toArray]); (try simp only [List.set_cons_zero]); (try simp only [List.set_cons_succ])
    refine wpAnyH_ready (rs := [18]) (by kernel_rfl) (by simp) (AllReadyH.cons rfl (fun K hK => ?_) AllReadyH.nil)
    rw [if_pos (by kernel_rfl)]
    go_simp
    (obtain ⟨hA, hB, hC, hD⟩ := HKEEP.out); go_at_call 17; refine (implPeers _ R.k R.ix R.fr _ R.kids hB.sl).mono ?_; (rintro e w_x ⟨rfl, hbx⟩); (have HK2 := hide (And.intro (hA.below hbx) (And.intro (hB.below hbx) (And.intro (hC.below hbx) (hD.trans (hbx.mono hD.size)))))); (clear hA hB hC hD hbx HKEEP); (have HKEEP := HK2); clear HK2
    refine hK.out _ _ ?_ (fun hHeld => ?_)
    · exact HKEEP.out
    clear hK K
    (try simp only [Act.put]); (try simp only [List.setIfInBounds_toArray]); (try simp only [List.set_cons_zero]); (try simp only [List.set_cons_succ])
    refine wpAnyH_ready (rs := [20]) (by kernel_rfl) (by simp) (AllReadyH.cons rfl (fun K hK => ?_) AllReadyH.nil)
    rw [if_pos (by kernel_rfl)]
    go_simp
    (obtain ⟨hA, hB, hC, hD⟩ := HKEEP.out); go_at_call 17; refine (implPeers _ g.k g.ix g.fr _ g.kids hC.sl).mono ?_; (rintro e w_x ⟨rfl, hbx⟩); (have HK2 := hide (And.intro (hA.below hbx) (And.intro (hB.below hbx) (And.intro (hC.below hbx) (hD.trans (hbx.mono hD.size)))))); (clear hA hB hC hD hbx HKEEP); (have HKEEP := HK2); clear HK2
    refine hK.out _ _ ?_ (fun hHeld => ?_)
    · exact HKEEP.out
    clear hK K
    (try simp only [Act.put]); (try simp only [List.setIfInBounds_toArray]); (try simp only [List.set_cons_zero]); (try simp only [List.set_cons_succ])
    refine wpAnyH_take (i := 21) (v := ?v21) rfl (by kernel_rfl) (by kernel_rfl) (by kernel_rfl) (fun _ _ _ h => h) (Or.inl ⟨by kernel_rfl, ?hy21⟩) (by assumption) ?rest21
    case hy21 => ((intro wS hSw); (obtain ⟨hSa, hSb, hSc, -⟩ := hSw); (obtain ⟨p0, p1, p2, p3⟩ := hSa.box.cells); (obtain ⟨q0, q1, q2, q3⟩ := hSb.box.cells); (obtain ⟨r0, r1, r2, r3⟩ := hSc.box.cells); (go_simp); (try with_reducible rfl))
    change wpAnyH _ _ _ _ _ _ _ (Act.put _ (some 72) _) _
    (try simp only [Act.put]); (try simp only [List.setIfInBounds_toArray]); (try simp only [List.set_cons_zero]); (try simp only [List.set_cons_succ])
    refine wpAnyH_take (i := 22) (v := ?v22) rfl (by kernel_rfl) (by kernel_rfl) (by kernel_rfl) (fun _ _ _ h => h) (Or.inl ⟨by kernel_rfl, ?hy22⟩) (by assumption) ?rest22
    case hy22 => ((intro wS hSw); (obtain ⟨hSa, hSb, hSc, -⟩ := hSw); (obtain ⟨p0, p1, p2, p3⟩ := hSa.box.cells); (obtain ⟨q0, q1, q2, q3⟩ := hSb.box.cells); (obtain ⟨r0, r1, r2, r3⟩ := hSc.box.cells); (go_simp); (try with_reducible rfl))
    change wpAnyH _ _ _ _ _ _ _ (Act.put _ (some 73) _) _
    (try simp only [Act.put]); (try simp only [List.setIfInBounds_toArray]); (try simp only [List.set_cons_zero]); (try simp only [List.set_cons_succ])
    refine wpAnyH_take (i := 23) (v := ?v23) rfl (by kernel_rfl) (by kernel_rfl) (by kernel_rfl) (fun _ _ _ h => h) (Or.inl ⟨by kernel_rfl, ?hy23⟩) (by assumption) ?rest23
    case hy23 => ((intro wS hSw); (obtain ⟨hSa, hSb, hSc, -⟩ := hSw); (obtain ⟨p0, p1, p2, p3⟩ := hSa.box.cells); (obtain ⟨q0, q1, q2, q3⟩ := hSb.box.cells); (obtain ⟨r0, r1, r2, r3⟩ := hSc.box.cells); (go_simp); (try with_reducible rfl))
    change wpAnyH _ _ _ _ _ _ _ (Act.put _ (some 2) _) _
    (try simp only [Act.put]); (try simp only [List.setIfInBounds_toArray]); (try simp only [List.set_cons_zero]); (try simp only [List.set_cons_succ])
    refine wpAnyH_done (by kernel_rfl) ?_ _
    have HBF := hide HKEEP.out.2.2.2
    go_wp2_with fail
    go_ret
    refine ⟨?_, HBF.out⟩
    have hq := HPE.out
    simp only [Array.getD_eq_getD_getElem?, List.getElem?_toArray, List.getElem?_cons_succ]
    simp [hq]

theorem lunf_walk (w : World) (sv : Value) (l : List Nat) (hs : SlG elY w sv l) : Calls Tryd.prog 3 #[sv] w fun e w' => e = .returned (.bool true) ∧ Below w.heap.size w w' := by
  obtain ⟨a, c, rfl, h1, h2, h3⟩ := hs
  by_cases h : l.length ≤ 1048576
  · exact lunf_small w a c l ⟨a, c, rfl, h1, h2, h3⟩ h
  · exact lunf_big w a l.length c (by omega)
end Go.Proofs.YtgcefippeokmcaaDoor.Lo

/- What a law's call owes, once it is known that it returns true and has written to no old block. -/
namespace Go.Proofs.YtgcefippeokmcaaDoor
open Go.ChangeShapes Go.WideShapes Go.ChangeAt Go.RowKit

theorem Tryd.own : ownKnob Tryd.prog.godebug = none := by kernel_rfl
theorem Tryd.laidOut : laidOutB Tryd.prog = true := by kernel_rfl

section
variable {H : Type} {enc : TypeId × Value → H} {P : Program}

theorem trodAll_below (hl : laidOutB P = true) {W W' : World} (hb : Below W.heap.size W W') : ∀ (ts : List TypeId) (vs : List Value) (ds : List (DataW H)) (ps : List MemPlace),
    (ts.all fun t => P.readableRec t && decide (t < P.types.size)) = true → DataW.TrodAll enc P W 0 (fun _ => true) true ts vs ds ps → (∀ x ∈ ps, x.block < W.heap.size) →
    DataW.TrodAll enc P W' 0 (fun b => decide (b < W.heap.size)) true ts vs ds ps := by
  intro ts
  induction ts with
  | nil =>
    intro vs ds ps _ h _
    cases vs <;> cases ds <;> first | exact h | exact h.elim
  | cons t ts ih =>
    intro vs ds ps ht h hlt
    cases vs with
    | nil => cases ds <;> exact h.elim
    | cons v vs =>
      cases ds with
      | nil => exact h.elim
      | cons d ds =>
        obtain ⟨p, q, h1, h2, rfl⟩ := h
        simp only [List.all_cons, Bool.and_eq_true, decide_eq_true_eq] at ht
        exact ⟨p, q, Below.trod hl ht.1.1 ht.1.2 h1 hb (fun x hx => hlt x (List.mem_append_left _ hx)), ih vs ds q ht.2 h2 (fun x hx => hlt x (List.mem_append_right _ hx)), rfl⟩

/-- A law that returned true, and below the old heap's size nothing has turned. -/
theorem law_post {f : Func} {s : ChangeSpec} {W W' : World} {args : Array Value} {ds gs : List (DataW H)} {before : List MemPlace} {tb : TypeId} (hl : laidOutB P = true)
    (hp : (f.params.toList.all fun t => P.readableRec t && decide (t < P.types.size)) = true) (hrt : f.resultTypes = #[tb]) (htb : P.underlying tb = some .bool) (hvars : s.vars = [])
    (hfn : s.fn H (ds ++ gs) = { results := [.lit (.bool true)], args := ds }) (hW : DataW.Whole enc P f.params.toList s.vars false W args.toList ds gs before) (hb : Below W.heap.size W W') :
    s.post enc P f false true false false W args (.bool true) W' := by
  have hlt : ∀ p ∈ before, p.block < W.heap.size := fun p hp => hW.lt p hp
  have hW2 := hW
  obtain ⟨p, q, hA, hV, rfl, _, _⟩ := hW2
  rw [hvars] at hV
  obtain ⟨rfl, rfl⟩ := trodVars_none hV
  refine ⟨ds, [], p ++ [], [], p, [], hW, ?_, ?_, ?_, hb.frame _, fun h => by cases h⟩
  · rw [hfn, hrt]
    exact trodAll_mk1 (shut_bool htb true)
  · rw [hfn]
    exact trodAll_below hl hb _ _ _ _ hp hA (fun x hx => hlt x (List.mem_append_left _ hx))
  · rw [hfn, hvars]
    rfl
end
end Go.Proofs.YtgcefippeokmcaaDoor

/- Arguments that are slices of any elements, opened. -/
namespace Go.Proofs.YtgcefippeokmcaaDoor
open Go.ChangeShapes Go.WideShapes Go.RowKit

section
variable {H : Type} {enc : TypeId × Value → H} {W : World} {sp : Nat → Bool}

theorem add_place (a : Addr) (i : Nat) (v : Value) (h : W.cell? (a.add i) = some v) : (a.add i) = ⟨a.block, a.off + i, none⟩ := by
  obtain ⟨b, o, s⟩ := a
  by_cases hi : i = 0
  · subst hi
    simp only [Addr.add, if_pos] at h ⊢
    cases s with
    | none => rfl
    | some t =>
      exfalso
      simp only [World.cell?] at h
      split at h <;> simp at h
  · simp [Addr.add, hi]

theorem open_rows {α : Type} {E : El α} (hst : 0 < E.st) {ts te : TypeId} (hu : Tryd.prog.underlying ts = some (.slice te)) (hc : Tryd.prog.cellsOf te = E.st)
    (hel : ∀ (fuel : Nat) (cs : List Value) (x : DataW H × List MemPlace), DataW.trod enc Tryd.prog W 0 sp true fuel te cs = some x → cs.length = E.st → ∀ b o, (∀ k, k < E.st → W.cell? ⟨b, o + k, none⟩ = cs[k]?) → ∃ y, E.P W b o y)
    {fuel : Nat} {sv : Value} {x : DataW H × List MemPlace} (h : DataW.trod enc Tryd.prog W 0 sp true fuel ts [sv] = some x) : ∃ l, SlG E W sv l := by
  rcases DataW.trod_slice hu h with ⟨h0, -⟩ | ⟨a, len, cap, elems, rest, n, rfl, h0, -, -, hl, hm, hlen, hel', -, -⟩
  · simp only [List.cons.injEq, and_true] at h0
    exact ⟨[], h0 ▸ SlG.nil⟩
  · simp only [List.cons.injEq, and_true] at h0
    subst h0
    rw [hc] at hel'
    have one : ∀ i, i < len → (i = 0 → a = ⟨a.block, a.off, none⟩) ∧ ∃ y, E.P W a.block (a.off + i * E.st) y := by
      intro i hi
      have key := hel' i hi
      rw [List.getElem?_eq_getElem (by omega)] at key
      obtain ⟨cs', h1, h2⟩ := Option.bind_eq_some_iff.1 key
      obtain ⟨-, hl6, hat⟩ := World.cells?_some h1
      have a0 := hat 0 hst
      rw [List.getElem?_eq_getElem (by omega)] at a0
      have e := add_place a (i * E.st) _ (show W.cell? (a.add (i * E.st)) = some cs'[0] by simpa [Addr.add] using a0)
      refine ⟨?_, hel n cs' _ h2 hl6 _ _ (fun k hk => ?_)⟩
      · rintro rfl
        simpa [Addr.add] using e
      · have := hat k hk
        rw [e] at this
        simp only [Addr.add] at this
        split at this
        · rename_i hk0
          subst hk0
          exact this
        · exact this
    have down : ∀ j, j ≤ len → ∃ g : List α, g.length = j ∧ RowG E W a.block (a.off + (len - j) * E.st) g := by
      intro j
      induction j with
      | zero => intro _; exact ⟨[], rfl, trivial⟩
      | succ j ihj =>
        intro hj
        obtain ⟨g, hg, hr⟩ := ihj (by omega)
        obtain ⟨-, y, hy⟩ := one (len - (j + 1)) (by omega)
        refine ⟨y :: g, by simp only [List.length_cons]; omega, hy, ?_⟩
        rw [show a.off + (len - (j + 1)) * E.st + E.st = a.off + (len - j) * E.st by rw [show len - j = (len - (j + 1)) + 1 by omega, Nat.succ_mul, Nat.add_assoc]]
        exact hr
    obtain ⟨f, hf, hr⟩ := down len (Nat.le_refl _)
    refine ⟨f, some a, cap, by rw [hf], by omega, hm, ?_⟩
    cases f with
    | nil => exact Or.inl rfl
    | cons y rest' =>
      right
      simp only [List.length_cons] at hf
      obtain ⟨ha, -⟩ := one 0 (by omega)
      refine ⟨a.block, a.off, by rw [← ha rfl], ?_⟩
      simpa using hr

end
end Go.Proofs.YtgcefippeokmcaaDoor

/- An argument that is a row of bytes, opened. -/
namespace Go.Proofs.YtgcefippeokmcaaDoor
open Go.ChangeShapes Go.WideShapes Go.RowKit

section
variable {H : Type} {enc : TypeId × Value → H} {W : World} {sp : Nat → Bool}

theorem cells_u8 : Tryd.prog.cellsOf ( /- t -/ 5) = elY.st := by kernel_rfl
theorem open_bytes {v : Value} {d : DataW H} {p : List MemPlace} {ts : TypeId} (hu : Tryd.prog.underlying ts = some (.slice ( /- t -/ 5))) (hv : ∃ a len cap, v = .slice a len cap)
    (h : DataW.Trod enc Tryd.prog W 0 sp true ts v d p) : ∃ l, SlG elY W v l := by
  obtain ⟨fuel, hf⟩ := h
  obtain ⟨a, len, cap, rfl⟩ := hv
  refine open_rows (E := elY) (by decide) hu cells_u8 (fun fuel cs x hx hl b o hcell => ?_) hf
  obtain ⟨n, rfl, rfl, hw⟩ := DataW.trod_int (k := .u8) (show Tryd.prog.underlying ( /- t -/ 5) = some (.int .u8) by kernel_rfl) hx
  have hb : 0 ≤ n ∧ n < 256 := by
    simp [Lit.wf, IntKind.min, IntKind.max, IntKind.bits, IntKind.signed] at hw
    omega
  obtain ⟨m, rfl⟩ : ∃ m : Nat, n = (m : Int) := ⟨n.toNat, by omega⟩
  exact ⟨m, by omega, hcell 0 (by decide)⟩
end
end Go.Proofs.YtgcefippeokmcaaDoor
