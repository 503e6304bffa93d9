/- LEv -/
import Derived.Test.YtfppglfajbmapaaDoorU11
import Derived.Test.YtfppglfajbmapaaDoorU13
import Derived.Test.YtfppglfajbmapaaDoorU08
import Derived.Deep.RegionHeld
import Derived.RegionTactic
/- The law FnLocalVacuous: its walk. -/
namespace Go.Proofs.YtfppglfajbmapaaDoor.Lo
open Go.RowKit

theorem sameF_sz : ∀ f g : F, sameF f g = true → f.sz = g.sz
  | .nil, .nil, _ => rfl
  | .nil, .cons .., h => by simp [sameF] at h
  | .cons .., .nil, h => by simp [sameF] at h
  | .cons lab k fr ix kids rest, .cons lab' k' fr' ix' kids' rest', h => by
    simp only [sameF, Bool.and_eq_true] at h
    simp only [F.sz, sameF_sz kids kids' h.2.1.2, sameF_sz rest rest' h.2.2]
theorem vac_same {g : Nd} {KX : F} (hK : KX = .cons ⟨#[]⟩ g.k g.fr g.ix g.kids .nil) : sameN 4 ⟨#[]⟩ 0 KX g.k g.fr g.ix g.kids = false := by
  cases h : sameN 4 ⟨#[]⟩ 0 KX g.k g.fr g.ix g.kids with
  | false => rfl
  | true =>
    unfold sameN at h
    simp only [Bool.and_eq_true] at h
    have := sameF_sz _ _ h.2
    rw [hK] at this
    simp only [F.sz] at this
    omega
theorem vac_like {g : Nd} {KX : F} (hK : KX = .cons ⟨#[]⟩ g.k g.fr g.ix g.kids .nil) (hg : okG g = true) (hx : okG (⟨4, ⟨#[]⟩, 0, KX⟩ : Nd) = true) : cmpB false (⟨4, ⟨#[]⟩, 0, KX⟩ : Nd) g = true := by
  have hw := (okG_w hg).1
  have hwx := (okG_w hx).1
  have ho : once (⟨4, ⟨#[]⟩, 0, KX⟩ : Nd) = g := by
    unfold once
    simp only [hK]
    exact subN_far _ g 0 0 (scN_of_w g 0 0 (by omega) hw) (Or.inl (by omega)) (by omega)
  have hu : unf g = unf (⟨4, ⟨#[]⟩, 0, KX⟩ : Nd) := by
    rw [unf_rec hwx rfl, ho]
  have hl : alikeB false (⟨4, ⟨#[]⟩, 0, KX⟩ : Nd) g = true := (alikeB_iff _ _ _).2 (Like.unf hu rfl (Like.refl false g))
  unfold cmpB
  rw [hg, hx, hl]
  rfl
theorem vac_peers {g : Nd} {KX : F} (hK : KX = .cons ⟨#[]⟩ g.k g.fr g.ix g.kids .nil) (hg : okN g.k g.fr g.ix g.kids = true) (hx : okN 4 ⟨#[]⟩ 0 KX = true) : peersN 4 ⟨#[]⟩ 0 KX = peersN g.k g.fr g.ix g.kids := by
  unfold peersN
  rw [if_pos hg, if_pos hx]
  congr 1
  funext c
  rw [hK]
  simp [namNb, namFb]
theorem vac_own {w : World} {b : Nat} {N : Nd} {u : Value} {bs : List Nat} {t : TypeId} (hw : w.heap[b]? = some (.cells #[.string ⟨#[]⟩, .int .i64 N.k, .string N.fr, .int .i64 N.ix, u] t (0, 0))) (hu : Ow w u N.kids bs) (hf : Fit N) :
    Ow w (.slice (some ⟨b, 0, none⟩) 1 1) (.cons ⟨#[]⟩ N.k N.fr N.ix N.kids .nil) (b :: bs) := by
  obtain ⟨f1, f2, f3⟩ := hf
  obtain ⟨a, cap, rfl, e1, e2, e3⟩ := hu
  have q : ∀ i, w.cell? ⟨b, i, none⟩ = (#[.string ⟨#[]⟩, .int .i64 N.k, .string N.fr, .int .i64 N.ix, .slice a N.kids.len cap] : Array Value)[i]? := fun i => by simp [World.cell?, hw]
  exact ⟨_, 1, rfl, Nat.le_refl _, by decide, Or.inr ⟨b, 5, bs, rfl, rfl, ⟨_, t, hw, rfl⟩, by simp, by decide, f1, f2, f3, q 0, q 1, q 2, q 3, bs, [], by simp, ⟨a, cap, q 4, e1, e2, e3⟩, rfl⟩⟩

set_option maxHeartbeats 1000000 in
set_option maxRecDepth 100000 in
theorem drawV_calls (w : World) (sv : Value) (l : List Nat) (hs : SlG elY w sv l) : Calls Tryd.prog 18 #[sv] w (Drawn w) := by
  have HSV := hide hs
  have hx0 := Box4.now w (.int .i64 0) (.string ⟨#[]⟩) (.int .i64 0) (.slice none 0 0) ( /- t -/ 35)
  have hb0 := alloc_below w (.cells #[.int .i64 0, .string ⟨#[]⟩, .int .i64 0, .slice none 0 0] ( /- t -/ 35))
  have hz0 : (w.alloc (.cells #[.int .i64 0, .string ⟨#[]⟩, .int .i64 0, .slice none 0 0] ( /- t -/ 35))).heap.size = w.heap.size + 1 := by simp
  have HX0 := hide hx0
  have HB0 := hide hb0
  have HZ0 := hide hz0
  clear hx0 hb0 hz0 hs
  go_enter Tryd.func18, Tryd.ntmps18
  go_upto_region 1 with fail
  generalize w.alloc (.cells #[.int .i64 0, .string ⟨#[]⟩, .int .i64 0, .slice none 0 0] ( /- t -/ 35)) = W at *
  go_wp2_with fail
  refine (draw_calls W sv l (HSV.out.still (Still.of_below HB0.out))).mono ?_
  rintro e w2 ⟨N, u, bs, rfl, how, hge, hnd, hb, hf, hsz, hsm⟩
  obtain ⟨ua, uc, rfl⟩ := how.val
  have HX2 := hide (HX0.out.below hb)
  have HB2 := hide (HB0.out.trans (hb.mono (by have := HZ0.out; omega)))
  have HG : Hid (∀ x, x ∈ bs → w.heap.size < x) := hide (fun x hx => by have := hge x hx; have := HZ0.out; omega)
  have HOW := hide how
  have HF := hide hf
  have HSM := hide hsm
  have HND := hide hnd
  obtain ⟨x0, x1, x2, x3⟩ := HX2.out.cells
  have fx := HX2.out.frozen
  have lx := HX2.out.lt
  clear hge how hf hsm hnd hb HB0 HX0
  go_wp2_with fail
  refine bodyPost_ret (v := .agg #[.int .i64 N.k, .string N.fr, .int .i64 N.ix, .slice ua N.kids.len uc]) (by simp [results, Tryd.results18, go_sem, *]) rfl ?_
  exact drawn_set HOW.out HG.out HND.out HB2.out HF.out hsz HSM.out _ _ _ _

set_option maxHeartbeats 400000 in
theorem lva_big (w : World) (a : Option Addr) (n c : Nat) (hn : (1048576 : Int) < (n : Int)) :
    Calls Tryd.prog 4 #[.slice a n c] w fun e w' => e = .returned (.bool true) ∧ Below w.heap.size w w' := by
  go_enter Tryd.func4, Tryd.ntmps4
  go_wp2_with fail
  go_ret
  exact ⟨rfl, Below.refl _ _⟩

set_option maxHeartbeats 4000000 in
set_option maxRecDepth 100000 in
theorem lva_small (w : World) (a : Option Addr) (c : Nat) (l : List Nat) (hs : SlG elY w (.slice a l.length c) l) (hl : l.length ≤ 1048576) :
    Calls Tryd.prog 4 #[.slice a l.length c] w fun e w' => e = .returned (.bool true) ∧ Below w.heap.size w w' := by
  have hl2 : ¬ (1048576 : Int) < (l.length : Int) := by omega
  have HSV := hide hs
  clear hs
  go_enter Tryd.func4, Tryd.ntmps4
  go_wp2_with fail
  refine (drawV_calls w _ l HSV.out).mono ?_
  rintro e w1 ⟨g, u, bs, rfl, how, hge, hnd, hb1, hf, hsz, -⟩
  obtain ⟨ga, gc, rfl⟩ := how.val
  have HN := hide (Nv.now how ( /- t -/ 35))
  have HB := hide (hb1.alloc hb1.size (.cells #[.int .i64 g.k, .string g.fr, .int .i64 g.ix, .slice ga g.kids.len gc] ( /- t -/ 35)))
  have HOW := hide (how.same (Same.of_below (alloc_below w1 (.cells #[.int .i64 g.k, .string g.fr, .int .i64 g.ix, .slice ga g.kids.len gc] ( /- t -/ 35))) how.lt))
  have HND := hide hnd
  have HF := hide hf
  clear how hb1 hf HSV hge hnd
  obtain ⟨KX, hKX⟩ : ∃ KX, KX = F.cons ⟨#[]⟩ g.k g.fr g.ix g.kids .nil := ⟨_, rfl⟩
  have HKX := hide hKX
  have HKSZ : Hid (KX.sz ≤ 1048576) := hide (by rw [hKX]; simp only [F.sz]; omega)
  have HSZ : Hid (g.kids.sz ≤ 500) := hide hsz
  clear hKX hsz
  go_upto_region 4 with fail
  generalize w1.alloc (.cells #[.int .i64 g.k, .string g.fr, .int .i64 g.ix, .slice ga g.kids.len gc] ( /- t -/ 35)) = W1 at *
  generalize w1.heap.size = b1 at *
  obtain ⟨x0, x1, x2, x3⟩ := HN.out.box.cells
  have lx := HN.out.lt
  have HX : Hid (Nv ((W1.alloc (.cells #[.string ⟨#[]⟩, .int .i64 g.k, .string g.fr, .int .i64 g.ix, .slice ga g.kids.len gc] ( /- t -/ 38))).alloc (.cells #[.int .i64 4, .string ⟨#[]⟩, .int .i64 0, .slice (some ⟨W1.heap.size, 0, none⟩) 1 1] ( /- t -/ 35))) (W1.heap.size + 1) (⟨4, ⟨#[]⟩, 0, KX⟩ : Nd) (.slice (some ⟨W1.heap.size, 0, none⟩) 1 1)) := hide (by
    have hw9 : (W1.alloc (.cells #[.string ⟨#[]⟩, .int .i64 g.k, .string g.fr, .int .i64 g.ix, .slice ga g.kids.len gc] ( /- t -/ 38))).heap[W1.heap.size]? = some (.cells #[.string ⟨#[]⟩, .int .i64 g.k, .string g.fr, .int .i64 g.ix, .slice ga g.kids.len gc] ( /- t -/ 38) (0, 0)) := heap_new W1 _
    have how1 := vac_own hw9 (HOW.out.same (Same.of_below (alloc_below W1 (.cells #[.string ⟨#[]⟩, .int .i64 g.k, .string g.fr, .int .i64 g.ix, .slice ga g.kids.len gc] ( /- t -/ 38))) HOW.out.lt)) HF.out
    rw [← HKX.out] at how1
    have := Nv.now (g := ⟨4, ⟨#[]⟩, 0, KX⟩) how1 ( /- t -/ 35)
    rwa [show (W1.alloc (.cells #[.string ⟨#[]⟩, .int .i64 g.k, .string g.fr, .int .i64 g.ix, .slice ga g.kids.len gc] ( /- t -/ 38))).heap.size = W1.heap.size + 1 by simp] at this)
  have hb9 := (alloc_below W1 (.cells #[.string ⟨#[]⟩, .int .i64 g.k, .string g.fr, .int .i64 g.ix, .slice ga g.kids.len gc] ( /- t -/ 38))).alloc (by simp) (.cells #[.int .i64 4, .string ⟨#[]⟩, .int .i64 0, .slice (some ⟨W1.heap.size, 0, none⟩) 1 1] ( /- t -/ 35))
  have HNx := hide (HN.out.below hb9)
  have HBx := hide (HB.out.trans (hb9.mono HB.out.size))
  obtain ⟨xa, hxa⟩ : ∃ xa, xa = some (⟨W1.heap.size, 0, none⟩ : Addr) := ⟨_, rfl⟩
  go_upto_region 5 with fail
  rw [← hxa] at HX HNx HBx ⊢
  clear x0 x1 x2 x3 lx hb9 HB HN HOW HND
  generalize (W1.alloc (.cells #[.string ⟨#[]⟩, .int .i64 g.k, .string g.fr, .int .i64 g.ix, .slice ga g.kids.len gc] ( /- t -/ 38))).alloc (.cells #[.int .i64 4, .string ⟨#[]⟩, .int .i64 0, .slice xa 1 1] ( /- t -/ 35)) = W2 at *
  generalize W1.heap.size + 1 = b2 at *
  clear hxa
  have HKEEP := hide (And.intro HNx.out (And.intro HX.out HBx.out))
  clear HNx HX HBx
  have HIV := hide (fun (W : World) (sv : Value) (hs : Sl W sv g.kids) => implValid W g.k g.ix g.fr sv g.kids hs)
  have HSV1 := hide (fun (W : World) (sv : Value) (hs : Sl W sv g.kids) => specValidBig W g.k g.ix g.fr sv g.kids hs (fun _ => Nat.le_trans HSZ.out (by decide)))
  have HSVX := hide (fun (W : World) (sv : Value) (hs : Sl W sv KX) => specValidBig W 4 0 ⟨#[]⟩ sv KX hs (fun _ => Nat.le_trans HKSZ.out (by decide)))
  cases hok : okN g.k g.fr g.ix g.kids with
  | false =>
    rw [hok] at HIV HSV1
    clear HSVX
    refine wp_region_held_drew (S := (fun w' => Nv w' b1 g (.slice ga g.kids.len gc) ∧ Nv w' b2 (⟨4, ⟨#[]⟩, 0, KX⟩ : Nd) (.slice xa 1 1) ∧ Below w.heap.size w w')) (by kernel_rfl) ?_ (fun hHeld => ?_)
    · exact ⟨HKEEP.out.1.drew, HKEEP.out.2.1.drew, HKEEP.out.2.2.drew⟩
    have HKEEP := hide hHeld
    refine wpAnyH_take (i := 0) (v := ?v0a00) rfl (by kernel_rfl) (by kernel_rfl) (by kernel_rfl) (fun _ _ _ h => h) (Or.inl ⟨by kernel_rfl, ?hy0a00⟩) (by assumption) ?rest0a00
    case hy0a00 => ((intro wS hSw); (obtain ⟨hSa, hSb, -⟩ := hSw); (obtain ⟨p0, p1, p2, p3⟩ := hSa.box.cells); (obtain ⟨q0, q1, q2, q3⟩ := hSb.box.cells); (go_simp); (try with_reducible rfl))
    change wpAnyH _ _ _ _ _ _ _ (Act.put _ (some 14) _) _
    (try simp only [Act.put]); (try simp only [List.setIfInBounds_toArray]); (try simp only [List.set_cons_zero]); (try simp only [List.set_cons_succ])
    refine wpAnyH_take (i := 2) (v := ?v2a00) rfl (by kernel_rfl) (by kernel_rfl) (by kernel_rfl) (fun _ _ _ h => h) (Or.inl ⟨by kernel_rfl, ?hy2a00⟩) (by assumption) ?rest2a00
    case hy2a00 => ((intro wS hSw); (obtain ⟨hSa, hSb, -⟩ := hSw); (obtain ⟨p0, p1, p2, p3⟩ := hSa.box.cells); (obtain ⟨q0, q1, q2, q3⟩ := hSb.box.cells); (go_simp); (try with_reducible rfl))
    change wpAnyH _ _ _ _ _ _ _ (Act.put _ (some 16) _) _
    (try simp only [Act.put]); (try simp only [List.setIfInBounds_toArray]); (try simp only [List.set_cons_zero]); (try simp only [List.set_cons_succ])
    refine wpAnyH_ready (rs := [1]) (by kernel_rfl) (by simp) (AllReadyH.cons rfl (fun K hK => ?_) AllReadyH.nil)
    rw [if_pos (by kernel_rfl)]
    go_simp
    (obtain ⟨hA, hB, hE⟩ := HKEEP.out); go_at_call 19; refine (HIV.out _ _ hA.sl).mono ?_; (rintro e w_x ⟨rfl, hbx⟩); (have HK2 := hide (And.intro (hA.below hbx) (And.intro (hB.below hbx) (hE.trans (hbx.mono hE.size))))); (clear hA hB hE hbx HKEEP); (have HKEEP := HK2); clear HK2
    refine hK.out _ _ ?_ (fun hHeld => ?_)
    · exact HKEEP.out
    clear hK K
    (try simp only [Act.put]); (try simp only [List.setIfInBounds_toArray]); (try simp only [List.set_cons_zero]); (try simp only [List.set_cons_succ])
    refine wpAnyH_ready (rs := [3]) (by kernel_rfl) (by simp) (AllReadyH.cons rfl (fun K hK => ?_) AllReadyH.nil)
    rw [if_pos (by kernel_rfl)]
    go_simp
    (obtain ⟨hA, hB, hE⟩ := HKEEP.out); go_at_call 20; refine (HSV1.out _ _ hA.sl).mono ?_; (rintro e w_x ⟨rfl, hbx⟩); (have HK2 := hide (And.intro (hA.below hbx) (And.intro (hB.below hbx) (hE.trans (hbx.mono hE.size))))); (clear hA hB hE hbx HKEEP); (have HKEEP := HK2); clear HK2
    refine hK.out _ _ ?_ (fun hHeld => ?_)
    · exact HKEEP.out
    clear hK K
    (try simp only [Act.put]); (try simp only [List.setIfInBounds_toArray]); (try simp only [List.set_cons_zero]); (try simp only [List.set_cons_succ])
    refine wpAnyH_take (i := 4) (v := ?v4a00) rfl (by kernel_rfl) (by kernel_rfl) (by kernel_rfl) (fun _ _ _ h => h) (Or.inl ⟨by kernel_rfl, ?hy4a00⟩) (by assumption) ?rest4a00
    case hy4a00 => ((intro wS hSw); (obtain ⟨hSa, hSb, -⟩ := hSw); (obtain ⟨p0, p1, p2, p3⟩ := hSa.box.cells); (obtain ⟨q0, q1, q2, q3⟩ := hSb.box.cells); (go_simp); (try with_reducible rfl))
    change wpAnyH _ _ _ _ _ _ _ (Act.put _ (some 18) _) _
    (try simp only [Act.put]); (try simp only [List.setIfInBounds_toArray]); (try simp only [List.set_cons_zero]); (try simp only [List.set_cons_succ])
    refine wpAnyH_take (i := 5) (v := ?v5a00) rfl (by kernel_rfl) (by kernel_rfl) (by kernel_rfl) (fun _ _ _ h => h) (Or.inl ⟨by kernel_rfl, ?hy5a00⟩) (by assumption) ?rest5a00
    case hy5a00 => ((intro wS hSw); (obtain ⟨hSa, hSb, -⟩ := hSw); (obtain ⟨p0, p1, p2, p3⟩ := hSa.box.cells); (obtain ⟨q0, q1, q2, q3⟩ := hSb.box.cells); (go_simp); (try with_reducible rfl))
    change wpAnyH _ _ _ _ _ _ _ (Act.put _ (some 19) _) _
    (try simp only [Act.put]); (try simp only [List.setIfInBounds_toArray]); (try simp only [List.set_cons_zero]); (try simp only [List.set_cons_succ])
    refine wpAnyH_take (i := 6) (v := ?v6a00) rfl (by kernel_rfl) (by kernel_rfl) (by kernel_rfl) (fun _ _ _ h => h) (Or.inl ⟨by kernel_rfl, ?hy6a00⟩) (by assumption) ?rest6a00
    case hy6a00 => ((intro wS hSw); (obtain ⟨hSa, hSb, -⟩ := hSw); (obtain ⟨p0, p1, p2, p3⟩ := hSa.box.cells); (obtain ⟨q0, q1, q2, q3⟩ := hSb.box.cells); (go_simp); (try with_reducible rfl))
    change wpAnyH _ _ _ _ _ _ _ (Act.put _ (some 20) _) _
    (try simp only [Act.put]); (try simp only [List.setIfInBounds_toArray]); (try simp only [List.set_cons_zero]); (try simp only [List.set_cons_succ])
    refine wpAnyH_ready (rs := [7]) (by kernel_rfl) (by simp) (AllReadyH.cons rfl (fun K hK => ?_) AllReadyH.nil)
    rw [if_pos (by kernel_rfl)]
    go_simp
    (obtain ⟨hA, hB, hE⟩ := HKEEP.out); go_at_call 20; refine (HSV1.out _ _ hA.sl).mono ?_; (rintro e w_x ⟨rfl, hbx⟩); (have HK2 := hide (And.intro (hA.below hbx) (And.intro (hB.below hbx) (hE.trans (hbx.mono hE.size))))); (clear hA hB hE hbx HKEEP); (have HKEEP := HK2); clear HK2
    refine hK.out _ _ ?_ (fun hHeld => ?_)
    · exact HKEEP.out
    clear hK K
    (try simp only [Act.put]); (try simp only [List.setIfInBounds_toArray]); (try simp only [List.set_cons_zero]); (try simp only [List.set_cons_succ])
    refine wpAnyH_take (i := 8) (v := ?v8a00) rfl (by kernel_rfl) (by kernel_rfl) (by kernel_rfl) (fun _ _ _ h => h) (Or.inl ⟨by kernel_rfl, ?hy8a00⟩) (by assumption) ?rest8a00
    case hy8a00 => ((intro wS hSw); (obtain ⟨hSa, hSb, -⟩ := hSw); (obtain ⟨p0, p1, p2, p3⟩ := hSa.box.cells); (obtain ⟨q0, q1, q2, q3⟩ := hSb.box.cells); (go_simp); (try with_reducible rfl))
    change wpAnyH _ _ _ _ _ _ _ (Act.put _ (some 22) _) _
    (try simp only [Act.put]); (try simp only [List.setIfInBounds_toArray]); (try simp only [List.set_cons_zero]); (try simp only [List.set_cons_succ])
    refine wpAnyH_take (i := 9) (v := ?v9a00) rfl (by kernel_rfl) (by kernel_rfl) (by kernel_rfl) (fun _ _ _ h => h) (Or.inl ⟨by kernel_rfl, ?hy9a00⟩) (by assumption) ?rest9a00
    case hy9a00 => ((intro wS hSw); (obtain ⟨hSa, hSb, -⟩ := hSw); (obtain ⟨p0, p1, p2, p3⟩ := hSa.box.cells); (obtain ⟨q0, q1, q2, q3⟩ := hSb.box.cells); (go_simp); (try with_reducible rfl))
    change wpAnyH _ _ _ _ _ _ _ (Act.put _ (some 23) _) _
    (try simp only [Act.put]); (try simp only [List.setIfInBounds_toArray]); (try simp only [List.set_cons_zero]); (try simp only [List.set_cons_succ])
    refine wpAnyH_take (i := 10) (v := ?v10a00) rfl (by kernel_rfl) (by kernel_rfl) (by kernel_rfl) (fun _ _ _ h => h) (Or.inl ⟨by kernel_rfl, ?hy10a00⟩) (by assumption) ?rest10a00
    case hy10a00 => ((intro wS hSw); (obtain ⟨hSa, hSb, -⟩ := hSw); (obtain ⟨p0, p1, p2, p3⟩ := hSa.box.cells); (obtain ⟨q0, q1, q2, q3⟩ := hSb.box.cells); (go_simp); (try with_reducible rfl))
    change wpAnyH _ _ _ _ _ _ _ (Act.put _ (some 24) _) _
    (try simp only [Act.put]); (try simp only [List.setIfInBounds_toArray]); (try simp only [List.set_cons_zero]); (try simp only [List.set_cons_succ])
    refine wpAnyH_take (i := 11) (v := undef) rfl (by kernel_rfl) (by kernel_rfl) (by kernel_rfl) (fun _ _ _ h => h) (Or.inr ⟨by kernel_rfl, rfl⟩) (by assumption) ?_
    change wpAnyH _ _ _ _ _ _ _ (Act.put _ (some 25) _) _
    (try simp only [Act.put]); (try simp only [List.setIfInBounds_toArray]); (try simp only [List.set_cons_zero]); (try simp only [List.set_cons_succ])
    refine wpAnyH_take (i := 12) (v := undef) rfl (by kernel_rfl) (by kernel_rfl) (by kernel_rfl) (fun _ _ _ h => h) (Or.inr ⟨by kernel_rfl, rfl⟩) (by assumption) ?_
    change wpAnyH _ _ _ _ _ _ _ (Act.put _ (some 26) _) _
    (try simp only [Act.put]); (try simp only [List.setIfInBounds_toArray]); (try simp only [List.set_cons_zero]); (try simp only [List.set_cons_succ])
    refine wpAnyH_take (i := 13) (v := undef) rfl (by kernel_rfl) (by kernel_rfl) (by kernel_rfl) (fun _ _ _ h => h) (Or.inr ⟨by kernel_rfl, rfl⟩) (by assumption) ?_
    change wpAnyH _ _ _ _ _ _ _ (Act.put _ (some 27) _) _
    (try simp only [Act.put]); (try simp only [List.setIfInBounds_toArray]); (try simp only [List.set_cons_zero]); (try simp only [List.set_cons_succ])
    refine wpAnyH_take (i := 14) (v := ?v14a00) rfl (by kernel_rfl) (by kernel_rfl) (by kernel_rfl) (fun _ _ _ h => h) (Or.inl ⟨by kernel_rfl, ?hy14a00⟩) (by assumption) ?rest14a00
    case hy14a00 => ((intro wS hSw); (obtain ⟨hSa, hSb, -⟩ := hSw); (obtain ⟨p0, p1, p2, p3⟩ := hSa.box.cells); (obtain ⟨q0, q1, q2, q3⟩ := hSb.box.cells); (go_simp); (try with_reducible rfl))
    change wpAnyH _ _ _ _ _ _ _ (Act.put _ (some 28) _) _
    (try simp only [Act.put]); (try simp only [List.setIfInBounds_toArray]); (try simp only [List.set_cons_zero]); (try simp only [List.set_cons_succ])
    refine wpAnyH_done (by kernel_rfl) ?_ _
    go_wp2_with fail
    refine wp_region_held_drew (S := (fun w' => Nv w' b1 g (.slice ga g.kids.len gc) ∧ Nv w' b2 (⟨4, ⟨#[]⟩, 0, KX⟩ : Nd) (.slice xa 1 1) ∧ Below w.heap.size w w')) (by kernel_rfl) ?_ (fun hHeld => ?_)
    · exact ⟨HKEEP.out.1.drew, HKEEP.out.2.1.drew, HKEEP.out.2.2.drew⟩
    have HKEEP := hide hHeld
    refine wpAnyH_take (i := 0) (v := ?v0bx) rfl (by kernel_rfl) (by kernel_rfl) (by kernel_rfl) (fun _ _ _ h => h) (Or.inl ⟨by kernel_rfl, ?hy0bx⟩) (by assumption) ?rest0bx
    case hy0bx => ((intro wS hSw); (obtain ⟨hSa, hSb, -⟩ := hSw); (obtain ⟨p0, p1, p2, p3⟩ := hSa.box.cells); (obtain ⟨q0, q1, q2, q3⟩ := hSb.box.cells); (go_simp); (try with_reducible rfl))
    change wpAnyH _ _ _ _ _ _ _ (Act.put _ (some 29) _) _
    (try simp only [Act.put]); (try simp only [List.setIfInBounds_toArray]); (try simp only [List.set_cons_zero]); (try simp only [List.set_cons_succ])
    refine wpAnyH_take (i := 2) (v := ?v2bx) rfl (by kernel_rfl) (by kernel_rfl) (by kernel_rfl) (fun _ _ _ h => h) (Or.inl ⟨by kernel_rfl, ?hy2bx⟩) (by assumption) ?rest2bx
    case hy2bx => ((intro wS hSw); (obtain ⟨hSa, hSb, -⟩ := hSw); (obtain ⟨p0, p1, p2, p3⟩ := hSa.box.cells); (obtain ⟨q0, q1, q2, q3⟩ := hSb.box.cells); (go_simp); (try with_reducible rfl))
    change wpAnyH _ _ _ _ _ _ _ (Act.put _ (some 31) _) _
    (try simp only [Act.put]); (try simp only [List.setIfInBounds_toArray]); (try simp only [List.set_cons_zero]); (try simp only [List.set_cons_succ])
    refine wpAnyH_ready (rs := [1]) (by kernel_rfl) (by simp) (AllReadyH.cons rfl (fun K hK => ?_) AllReadyH.nil)
    rw [if_pos (by kernel_rfl)]
    go_simp
    (obtain ⟨hA, hB, hE⟩ := HKEEP.out); go_at_call 19; refine (HIV.out _ _ hA.sl).mono ?_; (rintro e w_x ⟨rfl, hbx⟩); (have HK2 := hide (And.intro (hA.below hbx) (And.intro (hB.below hbx) (hE.trans (hbx.mono hE.size))))); (clear hA hB hE hbx HKEEP); (have HKEEP := HK2); clear HK2
    refine hK.out _ _ ?_ (fun hHeld => ?_)
    · exact HKEEP.out
    clear hK K
    (try simp only [Act.put]); (try simp only [List.setIfInBounds_toArray]); (try simp only [List.set_cons_zero]); (try simp only [List.set_cons_succ])
    refine wpAnyH_ready (rs := [3]) (by kernel_rfl) (by simp) (AllReadyH.cons rfl (fun K hK => ?_) AllReadyH.nil)
    rw [if_pos (by kernel_rfl)]
    go_simp
    (obtain ⟨hA, hB, hE⟩ := HKEEP.out); go_at_call 20; refine (HSV1.out _ _ hA.sl).mono ?_; (rintro e w_x ⟨rfl, hbx⟩); (have HK2 := hide (And.intro (hA.below hbx) (And.intro (hB.below hbx) (hE.trans (hbx.mono hE.size))))); (clear hA hB hE hbx HKEEP); (have HKEEP := HK2); clear HK2
    refine hK.out _ _ ?_ (fun hHeld => ?_)
    · exact HKEEP.out
    clear hK K
    (try simp only [Act.put]); (try simp only [List.setIfInBounds_toArray]); (try simp only [List.set_cons_zero]); (try simp only [List.set_cons_succ])
    refine wpAnyH_take (i := 4) (v := ?v4bx) rfl (by kernel_rfl) (by kernel_rfl) (by kernel_rfl) (fun _ _ _ h => h) (Or.inl ⟨by kernel_rfl, ?hy4bx⟩) (by assumption) ?rest4bx
    case hy4bx => ((intro wS hSw); (obtain ⟨hSa, hSb, -⟩ := hSw); (obtain ⟨p0, p1, p2, p3⟩ := hSa.box.cells); (obtain ⟨q0, q1, q2, q3⟩ := hSb.box.cells); (go_simp); (try with_reducible rfl))
    change wpAnyH _ _ _ _ _ _ _ (Act.put _ (some 33) _) _
    (try simp only [Act.put]); (try simp only [List.setIfInBounds_toArray]); (try simp only [List.set_cons_zero]); (try simp only [List.set_cons_succ])
    refine wpAnyH_take (i := 5) (v := ?v5bx) rfl (by kernel_rfl) (by kernel_rfl) (by kernel_rfl) (fun _ _ _ h => h) (Or.inl ⟨by kernel_rfl, ?hy5bx⟩) (by assumption) ?rest5bx
    case hy5bx => ((intro wS hSw); (obtain ⟨hSa, hSb, -⟩ := hSw); (obtain ⟨p0, p1, p2, p3⟩ := hSa.box.cells); (obtain ⟨q0, q1, q2, q3⟩ := hSb.box.cells); (go_simp); (try with_reducible rfl))
    change wpAnyH _ _ _ _ _ _ _ (Act.put _ (some 2) _) _
    (try simp only [Act.put]); (try simp only [List.setIfInBounds_toArray]); (try simp only [List.set_cons_zero]); (try simp only [List.set_cons_succ])
    refine wpAnyH_done (by kernel_rfl) ?_ _
    have HBF := hide HKEEP.out.2.2
    go_wp2_with fail
    go_ret
    exact ⟨rfl, HBF.out⟩
  | true =>
    rw [hok] at HIV HSV1
    cases hox : okN 4 ⟨#[]⟩ 0 KX with
    | false =>
      rw [hox] at HSVX
      refine wp_region_held_drew (S := (fun w' => Nv w' b1 g (.slice ga g.kids.len gc) ∧ Nv w' b2 (⟨4, ⟨#[]⟩, 0, KX⟩ : Nd) (.slice xa 1 1) ∧ Below w.heap.size w w')) (by kernel_rfl) ?_ (fun hHeld => ?_)
      · exact ⟨HKEEP.out.1.drew, HKEEP.out.2.1.drew, HKEEP.out.2.2.drew⟩
      have HKEEP := hide hHeld
      refine wpAnyH_take (i := 0) (v := ?v0a10) rfl (by kernel_rfl) (by kernel_rfl) (by kernel_rfl) (fun _ _ _ h => h) (Or.inl ⟨by kernel_rfl, ?hy0a10⟩) (by assumption) ?rest0a10
      case hy0a10 => ((intro wS hSw); (obtain ⟨hSa, hSb, -⟩ := hSw); (obtain ⟨p0, p1, p2, p3⟩ := hSa.box.cells); (obtain ⟨q0, q1, q2, q3⟩ := hSb.box.cells); (go_simp); (try with_reducible rfl))
      change wpAnyH _ _ _ _ _ _ _ (Act.put _ (some 14) _) _
      (try simp only [Act.put]); (try simp only [List.setIfInBounds_toArray]); (try simp only [List.set_cons_zero]); (try simp only [List.set_cons_succ])
      refine wpAnyH_take (i := 2) (v := ?v2a10) rfl (by kernel_rfl) (by kernel_rfl) (by kernel_rfl) (fun _ _ _ h => h) (Or.inl ⟨by kernel_rfl, ?hy2a10⟩) (by assumption) ?rest2a10
      case hy2a10 => ((intro wS hSw); (obtain ⟨hSa, hSb, -⟩ := hSw); (obtain ⟨p0, p1, p2, p3⟩ := hSa.box.cells); (obtain ⟨q0, q1, q2, q3⟩ := hSb.box.cells); (go_simp); (try with_reducible rfl))
      change wpAnyH _ _ _ _ _ _ _ (Act.put _ (some 16) _) _
      (try simp only [Act.put]); (try simp only [List.setIfInBounds_toArray]); (try simp only [List.set_cons_zero]); (try simp only [List.set_cons_succ])
      refine wpAnyH_ready (rs := [1]) (by kernel_rfl) (by simp) (AllReadyH.cons rfl (fun K hK => ?_) AllReadyH.nil)
      rw [if_pos (by kernel_rfl)]
      go_simp
      (obtain ⟨hA, hB, hE⟩ := HKEEP.out); go_at_call 19; refine (HIV.out _ _ hA.sl).mono ?_; (rintro e w_x ⟨rfl, hbx⟩); (have HK2 := hide (And.intro (hA.below hbx) (And.intro (hB.below hbx) (hE.trans (hbx.mono hE.size))))); (clear hA hB hE hbx HKEEP); (have HKEEP := HK2); clear HK2
      refine hK.out _ _ ?_ (fun hHeld => ?_)
      · exact HKEEP.out
      clear hK K
      (try simp only [Act.put]); (try simp only [List.setIfInBounds_toArray]); (try simp only [List.set_cons_zero]); (try simp only [List.set_cons_succ])
      refine wpAnyH_ready (rs := [3]) (by kernel_rfl) (by simp) (AllReadyH.cons rfl (fun K hK => ?_) AllReadyH.nil)
      rw [if_pos (by kernel_rfl)]
      go_simp
      (obtain ⟨hA, hB, hE⟩ := HKEEP.out); go_at_call 20; refine (HSV1.out _ _ hA.sl).mono ?_; (rintro e w_x ⟨rfl, hbx⟩); (have HK2 := hide (And.intro (hA.below hbx) (And.intro (hB.below hbx) (hE.trans (hbx.mono hE.size))))); (clear hA hB hE hbx HKEEP); (have HKEEP := HK2); clear HK2
      refine hK.out _ _ ?_ (fun hHeld => ?_)
      · exact HKEEP.out
      clear hK K
      (try simp only [Act.put]); (try simp only [List.setIfInBounds_toArray]); (try simp only [List.set_cons_zero]); (try simp only [List.set_cons_succ])
      refine wpAnyH_take (i := 4) (v := ?v4a10) rfl (by kernel_rfl) (by kernel_rfl) (by kernel_rfl) (fun _ _ _ h => h) (Or.inl ⟨by kernel_rfl, ?hy4a10⟩) (by assumption) ?rest4a10
      case hy4a10 => ((intro wS hSw); (obtain ⟨hSa, hSb, -⟩ := hSw); (obtain ⟨p0, p1, p2, p3⟩ := hSa.box.cells); (obtain ⟨q0, q1, q2, q3⟩ := hSb.box.cells); (go_simp); (try with_reducible rfl))
      change wpAnyH _ _ _ _ _ _ _ (Act.put _ (some 18) _) _
      (try simp only [Act.put]); (try simp only [List.setIfInBounds_toArray]); (try simp only [List.set_cons_zero]); (try simp only [List.set_cons_succ])
      refine wpAnyH_take (i := 5) (v := ?v5a10) rfl (by kernel_rfl) (by kernel_rfl) (by kernel_rfl) (fun _ _ _ h => h) (Or.inl ⟨by kernel_rfl, ?hy5a10⟩) (by assumption) ?rest5a10
      case hy5a10 => ((intro wS hSw); (obtain ⟨hSa, hSb, -⟩ := hSw); (obtain ⟨p0, p1, p2, p3⟩ := hSa.box.cells); (obtain ⟨q0, q1, q2, q3⟩ := hSb.box.cells); (go_simp); (try with_reducible rfl))
      change wpAnyH _ _ _ _ _ _ _ (Act.put _ (some 19) _) _
      (try simp only [Act.put]); (try simp only [List.setIfInBounds_toArray]); (try simp only [List.set_cons_zero]); (try simp only [List.set_cons_succ])
      refine wpAnyH_take (i := 6) (v := ?v6a10) rfl (by kernel_rfl) (by kernel_rfl) (by kernel_rfl) (fun _ _ _ h => h) (Or.inl ⟨by kernel_rfl, ?hy6a10⟩) (by assumption) ?rest6a10
      case hy6a10 => ((intro wS hSw); (obtain ⟨hSa, hSb, -⟩ := hSw); (obtain ⟨p0, p1, p2, p3⟩ := hSa.box.cells); (obtain ⟨q0, q1, q2, q3⟩ := hSb.box.cells); (go_simp); (try with_reducible rfl))
      change wpAnyH _ _ _ _ _ _ _ (Act.put _ (some 20) _) _
      (try simp only [Act.put]); (try simp only [List.setIfInBounds_toArray]); (try simp only [List.set_cons_zero]); (try simp only [List.set_cons_succ])
      refine wpAnyH_ready (rs := [7]) (by kernel_rfl) (by simp) (AllReadyH.cons rfl (fun K hK => ?_) AllReadyH.nil)
      rw [if_pos (by kernel_rfl)]
      go_simp
      (obtain ⟨hA, hB, hE⟩ := HKEEP.out); go_at_call 20; refine (HSV1.out _ _ hA.sl).mono ?_; (rintro e w_x ⟨rfl, hbx⟩); (have HK2 := hide (And.intro (hA.below hbx) (And.intro (hB.below hbx) (hE.trans (hbx.mono hE.size))))); (clear hA hB hE hbx HKEEP); (have HKEEP := HK2); clear HK2
      refine hK.out _ _ ?_ (fun hHeld => ?_)
      · exact HKEEP.out
      clear hK K
      (try simp only [Act.put]); (try simp only [List.setIfInBounds_toArray]); (try simp only [List.set_cons_zero]); (try simp only [List.set_cons_succ])
      refine wpAnyH_take (i := 8) (v := ?v8a10) rfl (by kernel_rfl) (by kernel_rfl) (by kernel_rfl) (fun _ _ _ h => h) (Or.inl ⟨by kernel_rfl, ?hy8a10⟩) (by assumption) ?rest8a10
      case hy8a10 => ((intro wS hSw); (obtain ⟨hSa, hSb, -⟩ := hSw); (obtain ⟨p0, p1, p2, p3⟩ := hSa.box.cells); (obtain ⟨q0, q1, q2, q3⟩ := hSb.box.cells); (go_simp); (try with_reducible rfl))
      change wpAnyH _ _ _ _ _ _ _ (Act.put _ (some 22) _) _
      (try simp only [Act.put]); (try simp only [List.setIfInBounds_toArray]); (try simp only [List.set_cons_zero]); (try simp only [List.set_cons_succ])
      refine wpAnyH_take (i := 9) (v := ?v9a10) rfl (by kernel_rfl) (by kernel_rfl) (by kernel_rfl) (fun _ _ _ h => h) (Or.inl ⟨by kernel_rfl, ?hy9a10⟩) (by assumption) ?rest9a10
      case hy9a10 => ((intro wS hSw); (obtain ⟨hSa, hSb, -⟩ := hSw); (obtain ⟨p0, p1, p2, p3⟩ := hSa.box.cells); (obtain ⟨q0, q1, q2, q3⟩ := hSb.box.cells); (go_simp); (try with_reducible rfl))
      change wpAnyH _ _ _ _ _ _ _ (Act.put _ (some 23) _) _
      (try simp only [Act.put]); (try simp only [List.setIfInBounds_toArray]); (try simp only [List.set_cons_zero]); (try simp only [List.set_cons_succ])
      refine wpAnyH_take (i := 10) (v := ?v10a10) rfl (by kernel_rfl) (by kernel_rfl) (by kernel_rfl) (fun _ _ _ h => h) (Or.inl ⟨by kernel_rfl, ?hy10a10⟩) (by assumption) ?rest10a10
      case hy10a10 => ((intro wS hSw); (obtain ⟨hSa, hSb, -⟩ := hSw); (obtain ⟨p0, p1, p2, p3⟩ := hSa.box.cells); (obtain ⟨q0, q1, q2, q3⟩ := hSb.box.cells); (go_simp); (try with_reducible rfl))
      change wpAnyH _ _ _ _ _ _ _ (Act.put _ (some 24) _) _
      (try simp only [Act.put]); (try simp only [List.setIfInBounds_toArray]); (try simp only [List.set_cons_zero]); (try simp only [List.set_cons_succ])
      refine wpAnyH_take (i := 11) (v := ?v11a10) rfl (by kernel_rfl) (by kernel_rfl) (by kernel_rfl) (fun _ _ _ h => h) (Or.inl ⟨by kernel_rfl, ?hy11a10⟩) (by assumption) ?rest11a10
      case hy11a10 => ((intro wS hSw); (obtain ⟨hSa, hSb, -⟩ := hSw); (obtain ⟨p0, p1, p2, p3⟩ := hSa.box.cells); (obtain ⟨q0, q1, q2, q3⟩ := hSb.box.cells); (go_simp); (try with_reducible rfl))
      change wpAnyH _ _ _ _ _ _ _ (Act.put _ (some 25) _) _
      (try simp only [Act.put]); (try simp only [List.setIfInBounds_toArray]); (try simp only [List.set_cons_zero]); (try simp only [List.set_cons_succ])
      refine wpAnyH_ready (rs := [12]) (by kernel_rfl) (by simp) (AllReadyH.cons rfl (fun K hK => ?_) AllReadyH.nil)
      rw [if_pos (by kernel_rfl)]
      go_simp
      (obtain ⟨hA, hB, hE⟩ := HKEEP.out); go_at_call 20; refine (HSVX.out _ _ hB.sl).mono ?_; (rintro e w_x ⟨rfl, hbx⟩); (have HK2 := hide (And.intro (hA.below hbx) (And.intro (hB.below hbx) (hE.trans (hbx.mono hE.size))))); (clear hA hB hE hbx HKEEP); (have HKEEP := HK2); clear HK2
      refine hK.out _ _ ?_ (fun hHeld => ?_)
      · exact HKEEP.out
      clear hK K
      (try simp only [Act.put]); (try simp only [List.setIfInBounds_toArray]); (try simp only [List.set_cons_zero]); (try simp only [List.set_cons_succ])
      refine wpAnyH_take (i := 13) (v := ?v13a10) rfl (by kernel_rfl) (by kernel_rfl) (by kernel_rfl) (fun _ _ _ h => h) (Or.inl ⟨by kernel_rfl, ?hy13a10⟩) (by assumption) ?rest13a10
      case hy13a10 => ((intro wS hSw); (obtain ⟨hSa, hSb, -⟩ := hSw); (obtain ⟨p0, p1, p2, p3⟩ := hSa.box.cells); (obtain ⟨q0, q1, q2, q3⟩ := hSb.box.cells); (go_simp); (try with_reducible rfl))
      change wpAnyH _ _ _ _ _ _ _ (Act.put _ (some 27) _) _
      (try simp only [Act.put]); (try simp only [List.setIfInBounds_toArray]); (try simp only [List.set_cons_zero]); (try simp only [List.set_cons_succ])
      refine wpAnyH_take (i := 14) (v := ?v14a10) rfl (by kernel_rfl) (by kernel_rfl) (by kernel_rfl) (fun _ _ _ h => h) (Or.inl ⟨by kernel_rfl, ?hy14a10⟩) (by assumption) ?rest14a10
      case hy14a10 => ((intro wS hSw); (obtain ⟨hSa, hSb, -⟩ := hSw); (obtain ⟨p0, p1, p2, p3⟩ := hSa.box.cells); (obtain ⟨q0, q1, q2, q3⟩ := hSb.box.cells); (go_simp); (try with_reducible rfl))
      change wpAnyH _ _ _ _ _ _ _ (Act.put _ (some 28) _) _
      (try simp only [Act.put]); (try simp only [List.setIfInBounds_toArray]); (try simp only [List.set_cons_zero]); (try simp only [List.set_cons_succ])
      refine wpAnyH_done (by kernel_rfl) ?_ _
      go_wp2_with fail
      refine wp_region_held_drew (S := (fun w' => Nv w' b1 g (.slice ga g.kids.len gc) ∧ Nv w' b2 (⟨4, ⟨#[]⟩, 0, KX⟩ : Nd) (.slice xa 1 1) ∧ Below w.heap.size w w')) (by kernel_rfl) ?_ (fun hHeld => ?_)
      · exact ⟨HKEEP.out.1.drew, HKEEP.out.2.1.drew, HKEEP.out.2.2.drew⟩
      have HKEEP := hide hHeld
      refine wpAnyH_take (i := 0) (v := ?v0by) rfl (by kernel_rfl) (by kernel_rfl) (by kernel_rfl) (fun _ _ _ h => h) (Or.inl ⟨by kernel_rfl, ?hy0by⟩) (by assumption) ?rest0by
      case hy0by => ((intro wS hSw); (obtain ⟨hSa, hSb, -⟩ := hSw); (obtain ⟨p0, p1, p2, p3⟩ := hSa.box.cells); (obtain ⟨q0, q1, q2, q3⟩ := hSb.box.cells); (go_simp); (try with_reducible rfl))
      change wpAnyH _ _ _ _ _ _ _ (Act.put _ (some 29) _) _
      (try simp only [Act.put]); (try simp only [List.setIfInBounds_toArray]); (try simp only [List.set_cons_zero]); (try simp only [List.set_cons_succ])
      refine wpAnyH_take (i := 2) (v := ?v2by) rfl (by kernel_rfl) (by kernel_rfl) (by kernel_rfl) (fun _ _ _ h => h) (Or.inl ⟨by kernel_rfl, ?hy2by⟩) (by assumption) ?rest2by
      case hy2by => ((intro wS hSw); (obtain ⟨hSa, hSb, -⟩ := hSw); (obtain ⟨p0, p1, p2, p3⟩ := hSa.box.cells); (obtain ⟨q0, q1, q2, q3⟩ := hSb.box.cells); (go_simp); (try with_reducible rfl))
      change wpAnyH _ _ _ _ _ _ _ (Act.put _ (some 31) _) _
      (try simp only [Act.put]); (try simp only [List.setIfInBounds_toArray]); (try simp only [List.set_cons_zero]); (try simp only [List.set_cons_succ])
      refine wpAnyH_ready (rs := [1]) (by kernel_rfl) (by simp) (AllReadyH.cons rfl (fun K hK => ?_) AllReadyH.nil)
      rw [if_pos (by kernel_rfl)]
      go_simp
      (obtain ⟨hA, hB, hE⟩ := HKEEP.out); go_at_call 19; refine (HIV.out _ _ hA.sl).mono ?_; (rintro e w_x ⟨rfl, hbx⟩); (have HK2 := hide (And.intro (hA.below hbx) (And.intro (hB.below hbx) (hE.trans (hbx.mono hE.size))))); (clear hA hB hE hbx HKEEP); (have HKEEP := HK2); clear HK2
      refine hK.out _ _ ?_ (fun hHeld => ?_)
      · exact HKEEP.out
      clear hK K
      (try simp only [Act.put]); (try simp only [List.setIfInBounds_toArray]); (try simp only [List.set_cons_zero]); (try simp only [List.set_cons_succ])
      refine wpAnyH_ready (rs := [3]) (by kernel_rfl) (by simp) (AllReadyH.cons rfl (fun K hK => ?_) AllReadyH.nil)
      rw [if_pos (by kernel_rfl)]
      go_simp
      (obtain ⟨hA, hB, hE⟩ := HKEEP.out); go_at_call 20; refine (HSV1.out _ _ hA.sl).mono ?_; (rintro e w_x ⟨rfl, hbx⟩); (have HK2 := hide (And.intro (hA.below hbx) (And.intro (hB.below hbx) (hE.trans (hbx.mono hE.size))))); (clear hA hB hE hbx HKEEP); (have HKEEP := HK2); clear HK2
      refine hK.out _ _ ?_ (fun hHeld => ?_)
      · exact HKEEP.out
      clear hK K
      (try simp only [Act.put]); (try simp only [List.setIfInBounds_toArray]); (try simp only [List.set_cons_zero]); (try simp only [List.set_cons_succ])
      refine wpAnyH_take (i := 4) (v := ?v4by) rfl (by kernel_rfl) (by kernel_rfl) (by kernel_rfl) (fun _ _ _ h => h) (Or.inl ⟨by kernel_rfl, ?hy4by⟩) (by assumption) ?rest4by
      case hy4by => ((intro wS hSw); (obtain ⟨hSa, hSb, -⟩ := hSw); (obtain ⟨p0, p1, p2, p3⟩ := hSa.box.cells); (obtain ⟨q0, q1, q2, q3⟩ := hSb.box.cells); (go_simp); (try with_reducible rfl))
      change wpAnyH _ _ _ _ _ _ _ (Act.put _ (some 33) _) _
      (try simp only [Act.put]); (try simp only [List.setIfInBounds_toArray]); (try simp only [List.set_cons_zero]); (try simp only [List.set_cons_succ])
      refine wpAnyH_take (i := 5) (v := ?v5by) rfl (by kernel_rfl) (by kernel_rfl) (by kernel_rfl) (fun _ _ _ h => h) (Or.inl ⟨by kernel_rfl, ?hy5by⟩) (by assumption) ?rest5by
      case hy5by => ((intro wS hSw); (obtain ⟨hSa, hSb, -⟩ := hSw); (obtain ⟨p0, p1, p2, p3⟩ := hSa.box.cells); (obtain ⟨q0, q1, q2, q3⟩ := hSb.box.cells); (go_simp); (try with_reducible rfl))
      change wpAnyH _ _ _ _ _ _ _ (Act.put _ (some 2) _) _
      (try simp only [Act.put]); (try simp only [List.setIfInBounds_toArray]); (try simp only [List.set_cons_zero]); (try simp only [List.set_cons_succ])
      refine wpAnyH_done (by kernel_rfl) ?_ _
      have HBF := hide HKEEP.out.2.2
      go_wp2_with fail
      go_ret
      exact ⟨rfl, HBF.out⟩
    | true =>
      rw [hox] at HSVX
      have HEQ := hide (fun (W : World) (sv su : Value) (hs : Sl W sv KX) (hu : Sl W su g.kids) => implEquiv W (⟨4, ⟨#[]⟩, 0, KX⟩ : Nd) g sv su hs hu)
      rw [vac_like HKX.out hok hox] at HEQ
      have HLE := hide (fun (W : World) (sv su : Value) (hs : ∃ bs, Ow W sv KX bs) (hu : ∃ bs, Ow W su g.kids bs) => implSame W 4 0 g.k g.ix ⟨#[]⟩ g.fr sv su KX g.kids _ _ hs.choose_spec hu.choose_spec HKSZ.out)
      rw [vac_same HKX.out] at HLE
      have HPX := hide (fun (W : World) (sv : Value) (hs : Sl W sv KX) => implPeers W 4 0 ⟨#[]⟩ sv KX hs)
      have HPG := hide (fun (W : World) (sv : Value) (hs : Sl W sv g.kids) => implPeers W g.k g.ix g.fr sv g.kids hs)
      rw [vac_peers HKX.out hok hox] at HPX
      generalize peersN g.k g.fr g.ix g.kids = ps at *
      refine wp_region_held_drew (S := (fun w' => Nv w' b1 g (.slice ga g.kids.len gc) ∧ Nv w' b2 (⟨4, ⟨#[]⟩, 0, KX⟩ : Nd) (.slice xa 1 1) ∧ Below w.heap.size w w')) (by kernel_rfl) ?_ (fun hHeld => ?_)
      · exact ⟨HKEEP.out.1.drew, HKEEP.out.2.1.drew, HKEEP.out.2.2.drew⟩
      have HKEEP := hide hHeld
      refine wpAnyH_take (i := 0) (v := ?v0a11) rfl (by kernel_rfl) (by kernel_rfl) (by kernel_rfl) (fun _ _ _ h => h) (Or.inl ⟨by kernel_rfl, ?hy0a11⟩) (by assumption) ?rest0a11
      case hy0a11 => ((intro wS hSw); (obtain ⟨hSa, hSb, -⟩ := hSw); (obtain ⟨p0, p1, p2, p3⟩ := hSa.box.cells); (obtain ⟨q0, q1, q2, q3⟩ := hSb.box.cells); (go_simp); (try with_reducible rfl))
      change wpAnyH _ _ _ _ _ _ _ (Act.put _ (some 14) _) _
      (try simp only [Act.put]); (try simp only [List.setIfInBounds_toArray]); (try simp only [List.set_cons_zero]); (try simp only [List.set_cons_succ])
      refine wpAnyH_take (i := 2) (v := ?v2a11) rfl (by kernel_rfl) (by kernel_rfl) (by kernel_rfl) (fun _ _ _ h => h) (Or.inl ⟨by kernel_rfl, ?hy2a11⟩) (by assumption) ?rest2a11
      case hy2a11 => ((intro wS hSw); (obtain ⟨hSa, hSb, -⟩ := hSw); (obtain ⟨p0, p1, p2, p3⟩ := hSa.box.cells); (obtain ⟨q0, q1, q2, q3⟩ := hSb.box.cells); (go_simp); (try with_reducible rfl))
      change wpAnyH _ _ _ _ _ _ _ (Act.put _ (some 16) _) _
      (try simp only [Act.put]); (try simp only [List.setIfInBounds_toArray]); (try simp only [List.set_cons_zero]); (try simp only [List.set_cons_succ])
      refine wpAnyH_ready (rs := [1]) (by kernel_rfl) (by simp) (AllReadyH.cons rfl (fun K hK => ?_) AllReadyH.nil)
      rw [if_pos (by kernel_rfl)]
      go_simp
      (obtain ⟨hA, hB, hE⟩ := HKEEP.out); go_at_call 19; refine (HIV.out _ _ hA.sl).mono ?_; (rintro e w_x ⟨rfl, hbx⟩); (have HK2 := hide (And.intro (hA.below hbx) (And.intro (hB.below hbx) (hE.trans (hbx.mono hE.size))))); (clear hA hB hE hbx HKEEP); (have HKEEP := HK2); clear HK2
      refine hK.out _ _ ?_ (fun hHeld => ?_)
      · exact HKEEP.out
      clear hK K
      (try simp only [Act.put]); (try simp only [List.setIfInBounds_toArray]); (try simp only [List.set_cons_zero]); (try simp only [List.set_cons_succ])
      refine wpAnyH_ready (rs := [3]) (by kernel_rfl) (by simp) (AllReadyH.cons rfl (fun K hK => ?_) AllReadyH.nil)
      rw [if_pos (by kernel_rfl)]
      go_simp
      (obtain ⟨hA, hB, hE⟩ := HKEEP.out); go_at_call 20; refine (HSV1.out _ _ hA.sl).mono ?_; (rintro e w_x ⟨rfl, hbx⟩); (have HK2 := hide (And.intro (hA.below hbx) (And.intro (hB.below hbx) (hE.trans (hbx.mono hE.size))))); (clear hA hB hE hbx HKEEP); (have HKEEP := HK2); clear HK2
      refine hK.out _ _ ?_ (fun hHeld => ?_)
      · exact HKEEP.out
      clear hK K
      (try simp only [Act.put]); (try simp only [List.setIfInBounds_toArray]); (try simp only [List.set_cons_zero]); (try simp only [List.set_cons_succ])
      refine wpAnyH_take (i := 4) (v := ?v4a11) rfl (by kernel_rfl) (by kernel_rfl) (by kernel_rfl) (fun _ _ _ h => h) (Or.inl ⟨by kernel_rfl, ?hy4a11⟩) (by assumption) ?rest4a11
      case hy4a11 => ((intro wS hSw); (obtain ⟨hSa, hSb, -⟩ := hSw); (obtain ⟨p0, p1, p2, p3⟩ := hSa.box.cells); (obtain ⟨q0, q1, q2, q3⟩ := hSb.box.cells); (go_simp); (try with_reducible rfl))
      change wpAnyH _ _ _ _ _ _ _ (Act.put _ (some 18) _) _
      (try simp only [Act.put]); (try simp only [List.setIfInBounds_toArray]); (try simp only [List.set_cons_zero]); (try simp only [List.set_cons_succ])
      refine wpAnyH_take (i := 5) (v := ?v5a11) rfl (by kernel_rfl) (by kernel_rfl) (by kernel_rfl) (fun _ _ _ h => h) (Or.inl ⟨by kernel_rfl, ?hy5a11⟩) (by assumption) ?rest5a11
      case hy5a11 => ((intro wS hSw); (obtain ⟨hSa, hSb, -⟩ := hSw); (obtain ⟨p0, p1, p2, p3⟩ := hSa.box.cells); (obtain ⟨q0, q1, q2, q3⟩ := hSb.box.cells); (go_simp); (try with_reducible rfl))
      change wpAnyH _ _ _ _ _ _ _ (Act.put _ (some 19) _) _
      (try simp only [Act.put]); (try simp only [List.setIfInBounds_toArray]); (try simp only [List.set_cons_zero]); (try simp only [List.set_cons_succ])
      refine wpAnyH_take (i := 6) (v := ?v6a11) rfl (by kernel_rfl) (by kernel_rfl) (by kernel_rfl) (fun _ _ _ h => h) (Or.inl ⟨by kernel_rfl, ?hy6a11⟩) (by assumption) ?rest6a11
      case hy6a11 => ((intro wS hSw); (obtain ⟨hSa, hSb, -⟩ := hSw); (obtain ⟨p0, p1, p2, p3⟩ := hSa.box.cells); (obtain ⟨q0, q1, q2, q3⟩ := hSb.box.cells); (go_simp); (try with_reducible rfl))
      change wpAnyH _ _ _ _ _ _ _ (Act.put _ (some 20) _) _
      (try simp only [Act.put]); (try simp only [List.setIfInBounds_toArray]); (try simp only [List.set_cons_zero]); (try simp only [List.set_cons_succ])
      refine wpAnyH_ready (rs := [7]) (by kernel_rfl) (by simp) (AllReadyH.cons rfl (fun K hK => ?_) AllReadyH.nil)
      rw [if_pos (by kernel_rfl)]
      go_simp
      (obtain ⟨hA, hB, hE⟩ := HKEEP.out); go_at_call 20; refine (HSV1.out _ _ hA.sl).mono ?_; (rintro e w_x ⟨rfl, hbx⟩); (have HK2 := hide (And.intro (hA.below hbx) (And.intro (hB.below hbx) (hE.trans (hbx.mono hE.size))))); (clear hA hB hE hbx HKEEP); (have HKEEP := HK2); clear HK2
      refine hK.out _ _ ?_ (fun hHeld => ?_)
      · exact HKEEP.out
      clear hK K
      (try simp only [Act.put]); (try simp only [List.setIfInBounds_toArray]); (try simp only [List.set_cons_zero]); (try simp only [List.set_cons_succ])
      refine wpAnyH_take (i := 8) (v := ?v8a11) rfl (by kernel_rfl) (by kernel_rfl) (by kernel_rfl) (fun _ _ _ h => h) (Or.inl ⟨by kernel_rfl, ?hy8a11⟩) (by assumption) ?rest8a11
      case hy8a11 => ((intro wS hSw); (obtain ⟨hSa, hSb, -⟩ := hSw); (obtain ⟨p0, p1, p2, p3⟩ := hSa.box.cells); (obtain ⟨q0, q1, q2, q3⟩ := hSb.box.cells); (go_simp); (try with_reducible rfl))
      change wpAnyH _ _ _ _ _ _ _ (Act.put _ (some 22) _) _
      (try simp only [Act.put]); (try simp only [List.setIfInBounds_toArray]); (try simp only [List.set_cons_zero]); (try simp only [List.set_cons_succ])
      refine wpAnyH_take (i := 9) (v := ?v9a11) rfl (by kernel_rfl) (by kernel_rfl) (by kernel_rfl) (fun _ _ _ h => h) (Or.inl ⟨by kernel_rfl, ?hy9a11⟩) (by assumption) ?rest9a11
      case hy9a11 => ((intro wS hSw); (obtain ⟨hSa, hSb, -⟩ := hSw); (obtain ⟨p0, p1, p2, p3⟩ := hSa.box.cells); (obtain ⟨q0, q1, q2, q3⟩ := hSb.box.cells); (go_simp); (try with_reducible rfl))
      change wpAnyH _ _ _ _ _ _ _ (Act.put _ (some 23) _) _
      (try simp only [Act.put]); (try simp only [List.setIfInBounds_toArray]); (try simp only [List.set_cons_zero]); (try simp only [List.set_cons_succ])
      refine wpAnyH_take (i := 10) (v := ?v10a11) rfl (by kernel_rfl) (by kernel_rfl) (by kernel_rfl) (fun _ _ _ h => h) (Or.inl ⟨by kernel_rfl, ?hy10a11⟩) (by assumption) ?rest10a11
      case hy10a11 => ((intro wS hSw); (obtain ⟨hSa, hSb, -⟩ := hSw); (obtain ⟨p0, p1, p2, p3⟩ := hSa.box.cells); (obtain ⟨q0, q1, q2, q3⟩ := hSb.box.cells); (go_simp); (try with_reducible rfl))
      change wpAnyH _ _ _ _ _ _ _ (Act.put _ (some 24) _) _
      (try simp only [Act.put]); (try simp only [List.setIfInBounds_toArray]); (try simp only [List.set_cons_zero]); (try simp only [List.set_cons_succ])
      refine wpAnyH_take (i := 11) (v := ?v11a11) rfl (by kernel_rfl) (by kernel_rfl) (by kernel_rfl) (fun _ _ _ h => h) (Or.inl ⟨by kernel_rfl, ?hy11a11⟩) (by assumption) ?rest11a11
      case hy11a11 => ((intro wS hSw); (obtain ⟨hSa, hSb, -⟩ := hSw); (obtain ⟨p0, p1, p2, p3⟩ := hSa.box.cells); (obtain ⟨q0, q1, q2, q3⟩ := hSb.box.cells); (go_simp); (try with_reducible rfl))
      change wpAnyH _ _ _ _ _ _ _ (Act.put _ (some 25) _) _
      (try simp only [Act.put]); (try simp only [List.setIfInBounds_toArray]); (try simp only [List.set_cons_zero]); (try simp only [List.set_cons_succ])
      refine wpAnyH_ready (rs := [12]) (by kernel_rfl) (by simp) (AllReadyH.cons rfl (fun K hK => ?_) AllReadyH.nil)
      rw [if_pos (by kernel_rfl)]
      go_simp
      (obtain ⟨hA, hB, hE⟩ := HKEEP.out); go_at_call 20; refine (HSVX.out _ _ hB.sl).mono ?_; (rintro e w_x ⟨rfl, hbx⟩); (have HK2 := hide (And.intro (hA.below hbx) (And.intro (hB.below hbx) (hE.trans (hbx.mono hE.size))))); (clear hA hB hE hbx HKEEP); (have HKEEP := HK2); clear HK2
      refine hK.out _ _ ?_ (fun hHeld => ?_)
      · exact HKEEP.out
      clear hK K
      (try simp only [Act.put]); (try simp only [List.setIfInBounds_toArray]); (try simp only [List.set_cons_zero]); (try simp only [List.set_cons_succ])
      refine wpAnyH_take (i := 13) (v := ?v13a11) rfl (by kernel_rfl) (by kernel_rfl) (by kernel_rfl) (fun _ _ _ h => h) (Or.inl ⟨by kernel_rfl, ?hy13a11⟩) (by assumption) ?rest13a11
      case hy13a11 => ((intro wS hSw); (obtain ⟨hSa, hSb, -⟩ := hSw); (obtain ⟨p0, p1, p2, p3⟩ := hSa.box.cells); (obtain ⟨q0, q1, q2, q3⟩ := hSb.box.cells); (go_simp); (try with_reducible rfl))
      change wpAnyH _ _ _ _ _ _ _ (Act.put _ (some 27) _) _
      (try simp only [Act.put]); (try simp only [List.setIfInBounds_toArray]); (try simp only [List.set_cons_zero]); (try simp only [List.set_cons_succ])
      refine wpAnyH_take (i := 14) (v := ?v14a11) rfl (by kernel_rfl) (by kernel_rfl) (by kernel_rfl) (fun _ _ _ h => h) (Or.inl ⟨by kernel_rfl, ?hy14a11⟩) (by assumption) ?rest14a11
      case hy14a11 => ((intro wS hSw); (obtain ⟨hSa, hSb, -⟩ := hSw); (obtain ⟨p0, p1, p2, p3⟩ := hSa.box.cells); (obtain ⟨q0, q1, q2, q3⟩ := hSb.box.cells); (go_simp); (try with_reducible rfl))
      change wpAnyH _ _ _ _ _ _ _ (Act.put _ (some 28) _) _
      (try simp only [Act.put]); (try simp only [List.setIfInBounds_toArray]); (try simp only [List.set_cons_zero]); (try simp only [List.set_cons_succ])
      refine wpAnyH_done (by kernel_rfl) ?_ _
      clear HIV HSV1 HSVX
      go_wp2_with fail
      refine wp_region_held_drew (S := (fun w' => Nv w' b1 g (.slice ga g.kids.len gc) ∧ Nv w' b2 (⟨4, ⟨#[]⟩, 0, KX⟩ : Nd) (.slice xa 1 1) ∧ Below w.heap.size w w')) (by kernel_rfl) ?_ (fun hHeld => ?_)
      · exact ⟨HKEEP.out.1.drew, HKEEP.out.2.1.drew, HKEEP.out.2.2.drew⟩
      have HKEEP := hide hHeld
      refine wpAnyH_take (i := 0) (v := ?v0c) rfl (by kernel_rfl) (by kernel_rfl) (by kernel_rfl) (fun _ _ _ h => h) (Or.inl ⟨by kernel_rfl, ?hy0c⟩) (by assumption) ?rest0c
      case hy0c => ((intro wS hSw); (obtain ⟨hSa, hSb, -⟩ := hSw); (obtain ⟨p0, p1, p2, p3⟩ := hSa.box.cells); (obtain ⟨q0, q1, q2, q3⟩ := hSb.box.cells); (go_simp); (try with_reducible rfl))
      change wpAnyH _ _ _ _ _ _ _ (Act.put _ (some 34) _) _
      (try simp only [Act.put]); (try simp only [List.setIfInBounds_toArray]); (try simp only [List.set_cons_zero]); (try simp only [List.set_cons_succ])
      refine wpAnyH_take (i := 1) (v := ?v1c) rfl (by kernel_rfl) (by kernel_rfl) (by kernel_rfl) (fun _ _ _ h => h) (Or.inl ⟨by kernel_rfl, ?hy1c⟩) (by assumption) ?rest1c
      case hy1c => ((intro wS hSw); (obtain ⟨hSa, hSb, -⟩ := hSw); (obtain ⟨p0, p1, p2, p3⟩ := hSa.box.cells); (obtain ⟨q0, q1, q2, q3⟩ := hSb.box.cells); (go_simp); (try with_reducible rfl))
      change wpAnyH _ _ _ _ _ _ _ (Act.put _ (some 35) _) _
      (try simp only [Act.put]); (try simp only [List.setIfInBounds_toArray]); (try simp only [List.set_cons_zero]); (try simp only [List.set_cons_succ])
      refine wpAnyH_ready (rs := [2]) (by kernel_rfl) (by simp) (AllReadyH.cons rfl (fun K hK => ?_) AllReadyH.nil)
      rw [if_pos (by kernel_rfl)]
      go_simp
      (obtain ⟨hA, hB, hE⟩ := HKEEP.out); go_at_call 21; refine (HEQ.out _ _ _ hB.sl hA.sl).mono ?_; (rintro e w_x ⟨rfl, hbx⟩); (have HK2 := hide (And.intro (hA.below hbx) (And.intro (hB.below hbx) (hE.trans (hbx.mono hE.size))))); (clear hA hB hE hbx HKEEP); (have HKEEP := HK2); clear HK2
      refine hK.out _ _ ?_ (fun hHeld => ?_)
      · exact HKEEP.out
      clear hK K
      (try simp only [Act.put]); (try simp only [List.setIfInBounds_toArray]); (try simp only [List.set_cons_zero]); (try simp only [List.set_cons_succ])
      refine wpAnyH_take (i := 3) (v := ?v3c) rfl (by kernel_rfl) (by kernel_rfl) (by kernel_rfl) (fun _ _ _ h => h) (Or.inl ⟨by kernel_rfl, ?hy3c⟩) (by assumption) ?rest3c
      case hy3c => ((intro wS hSw); (obtain ⟨hSa, hSb, -⟩ := hSw); (obtain ⟨p0, p1, p2, p3⟩ := hSa.box.cells); (obtain ⟨q0, q1, q2, q3⟩ := hSb.box.cells); (go_simp); (try with_reducible rfl))
      change wpAnyH _ _ _ _ _ _ _ (Act.put _ (some 37) _) _
      (try simp only [Act.put]); (try simp only [List.setIfInBounds_toArray]); (try simp only [List.set_cons_zero]); (try simp only [List.set_cons_succ])
      refine wpAnyH_take (i := 4) (v := ?v4c) rfl (by kernel_rfl) (by kernel_rfl) (by kernel_rfl) (fun _ _ _ h => h) (Or.inl ⟨by kernel_rfl, ?hy4c⟩) (by assumption) ?rest4c
      case hy4c => ((intro wS hSw); (obtain ⟨hSa, hSb, -⟩ := hSw); (obtain ⟨p0, p1, p2, p3⟩ := hSa.box.cells); (obtain ⟨q0, q1, q2, q3⟩ := hSb.box.cells); (go_simp); (try with_reducible rfl))
      change wpAnyH _ _ _ _ _ _ _ (Act.put _ (some 38) _) _
      (try simp only [Act.put]); (try simp only [List.setIfInBounds_toArray]); (try simp only [List.set_cons_zero]); (try simp only [List.set_cons_succ])
      refine wpAnyH_take (i := 5) (v := ?v5c) rfl (by kernel_rfl) (by kernel_rfl) (by kernel_rfl) (fun _ _ _ h => h) (Or.inl ⟨by kernel_rfl, ?hy5c⟩) (by assumption) ?rest5c
      case hy5c => ((intro wS hSw); (obtain ⟨hSa, hSb, -⟩ := hSw); (obtain ⟨p0, p1, p2, p3⟩ := hSa.box.cells); (obtain ⟨q0, q1, q2, q3⟩ := hSb.box.cells); (go_simp); (try with_reducible rfl))
      change wpAnyH _ _ _ _ _ _ _ (Act.put _ (some 39) _) _
      (try simp only [Act.put]); (try simp only [List.setIfInBounds_toArray]); (try simp only [List.set_cons_zero]); (try simp only [List.set_cons_succ])
      refine wpAnyH_ready (rs := [6]) (by kernel_rfl) (by simp) (AllReadyH.cons rfl (fun K hK => ?_) AllReadyH.nil)
      rw [if_pos (by kernel_rfl)]
      go_simp
      (obtain ⟨hA, hB, hE⟩ := HKEEP.out); go_at_call 22; refine (HLE.out _ _ _ hB.own hA.own).mono ?_; (rintro e w_x ⟨rfl, hbx⟩); (have HK2 := hide (And.intro (hA.below hbx) (And.intro (hB.below hbx) (hE.trans (hbx.mono hE.size))))); (clear hA hB hE hbx HKEEP); (have HKEEP := HK2); clear HK2
      refine hK.out _ _ ?_ (fun hHeld => ?_)
      · exact HKEEP.out
      clear hK K
      (try simp only [Act.put]); (try simp only [List.setIfInBounds_toArray]); (try simp only [List.set_cons_zero]); (try simp only [List.set_cons_succ])
      refine wpAnyH_take (i := 7) (v := ?v7c) rfl (by kernel_rfl) (by kernel_rfl) (by kernel_rfl) (fun _ _ _ h => h) (Or.inl ⟨by kernel_rfl, ?hy7c⟩) (by assumption) ?rest7c
      case hy7c => ((intro wS hSw); (obtain ⟨hSa, hSb, -⟩ := hSw); (obtain ⟨p0, p1, p2, p3⟩ := hSa.box.cells); (obtain ⟨q0, q1, q2, q3⟩ := hSb.box.cells); (go_simp); (try with_reducible rfl))
      change wpAnyH _ _ _ _ _ _ _ (Act.put _ (some 41) _) _
      (try simp only [Act.put]); (try simp only [List.setIfInBounds_toArray]); (try simp only [List.set_cons_zero]); (try simp only [List.set_cons_succ])
      refine wpAnyH_take (i := 8) (v := ?v8c) rfl (by kernel_rfl) (by kernel_rfl) (by kernel_rfl) (fun _ _ _ h => h) (Or.inl ⟨by kernel_rfl, ?hy8c⟩) (by assumption) ?rest8c
      case hy8c => ((intro wS hSw); (obtain ⟨hSa, hSb, -⟩ := hSw); (obtain ⟨p0, p1, p2, p3⟩ := hSa.box.cells); (obtain ⟨q0, q1, q2, q3⟩ := hSb.box.cells); (go_simp); (try with_reducible rfl))
      change wpAnyH _ _ _ _ _ _ _ (Act.put _ (some 42) _) _
      (try simp only [Act.put]); (try simp only [List.setIfInBounds_toArray]); (try simp only [List.set_cons_zero]); (try simp only [List.set_cons_succ])
      refine wpAnyH_take (i := 9) (v := ?v9c) rfl (by kernel_rfl) (by kernel_rfl) (by kernel_rfl) (fun _ _ _ h => h) (Or.inl ⟨by kernel_rfl, ?hy9c⟩) (by assumption) ?rest9c
      case hy9c => ((intro wS hSw); (obtain ⟨hSa, hSb, -⟩ := hSw); (obtain ⟨p0, p1, p2, p3⟩ := hSa.box.cells); (obtain ⟨q0, q1, q2, q3⟩ := hSb.box.cells); (go_simp); (try with_reducible rfl))
      change wpAnyH _ _ _ _ _ _ _ (Act.put _ (some 43) _) _
      (try simp only [Act.put]); (try simp only [List.setIfInBounds_toArray]); (try simp only [List.set_cons_zero]); (try simp only [List.set_cons_succ])
      refine wpAnyH_take (i := 10) (v := ?v10c) rfl (by kernel_rfl) (by kernel_rfl) (by kernel_rfl) (fun _ _ _ h => h) (Or.inl ⟨by kernel_rfl, ?hy10c⟩) (by assumption) ?rest10c
      case hy10c => ((intro wS hSw); (obtain ⟨hSa, hSb, -⟩ := hSw); (obtain ⟨p0, p1, p2, p3⟩ := hSa.box.cells); (obtain ⟨q0, q1, q2, q3⟩ := hSb.box.cells); (go_simp); (try with_reducible rfl))
      change wpAnyH _ _ _ _ _ _ _ (Act.put _ (some 44) _) _
      (try simp only [Act.put]); (try simp only [List.setIfInBounds_toArray]); (try simp only [List.set_cons_zero]); (try simp only [List.set_cons_succ])
      refine wpAnyH_take (i := 12) (v := ?v12c) rfl (by kernel_rfl) (by kernel_rfl) (by kernel_rfl) (fun _ _ _ h => h) (Or.inl ⟨by kernel_rfl, ?hy12c⟩) (by assumption) ?rest12c
      case hy12c => ((intro wS hSw); (obtain ⟨hSa, hSb, -⟩ := hSw); (obtain ⟨p0, p1, p2, p3⟩ := hSa.box.cells); (obtain ⟨q0, q1, q2, q3⟩ := hSb.box.cells); (go_simp); (try with_reducible rfl))
      change wpAnyH _ _ _ _ _ _ _ (Act.put _ (some 46) _) _
      (try simp only [Act.put]); (try simp only [List.setIfInBounds_toArray]); (try simp only [List.set_cons_zero]); (try simp only [List.set_cons_succ])
      refine wpAnyH_ready (rs := [11]) (by kernel_rfl) (by simp) (AllReadyH.cons rfl (fun K hK => ?_) AllReadyH.nil)
      rw [if_pos (by kernel_rfl)]
      go_simp
      (obtain ⟨hA, hB, hE⟩ := HKEEP.out); go_at_call 23; refine (HPX.out _ _ hB.sl).mono ?_; (rintro e w_x ⟨rfl, hbx⟩); (have HK2 := hide (And.intro (hA.below hbx) (And.intro (hB.below hbx) (hE.trans (hbx.mono hE.size))))); (clear hA hB hE hbx HKEEP); (have HKEEP := HK2); clear HK2
      refine hK.out _ _ ?_ (fun hHeld => ?_)
      · exact HKEEP.out
      clear hK K
      (try simp only [Act.put]); (try simp only [List.setIfInBounds_toArray]); (try simp only [List.set_cons_zero]); (try simp only [List.set_cons_succ])
      refine wpAnyH_ready (rs := [13]) (by kernel_rfl) (by simp) (AllReadyH.cons rfl (fun K hK => ?_) AllReadyH.nil)
      rw [if_pos (by kernel_rfl)]
      go_simp
      (obtain ⟨hA, hB, hE⟩ := HKEEP.out); go_at_call 23; refine (HPG.out _ _ hA.sl).mono ?_; (rintro e w_x ⟨rfl, hbx⟩); (have HK2 := hide (And.intro (hA.below hbx) (And.intro (hB.below hbx) (hE.trans (hbx.mono hE.size))))); (clear hA hB hE hbx HKEEP); (have HKEEP := HK2); clear HK2
      refine hK.out _ _ ?_ (fun hHeld => ?_)
      · exact HKEEP.out
      clear hK K
      (try simp only [Act.put]); (try simp only [List.setIfInBounds_toArray]); (try simp only [List.set_cons_zero]); (try simp only [List.set_cons_succ])
      refine wpAnyH_take (i := 14) (v := ?v14c) rfl (by kernel_rfl) (by kernel_rfl) (by kernel_rfl) (fun _ _ _ h => h) (Or.inl ⟨by kernel_rfl, ?hy14c⟩) (by assumption) ?rest14c
      case hy14c => ((intro wS hSw); (obtain ⟨hSa, hSb, -⟩ := hSw); (obtain ⟨p0, p1, p2, p3⟩ := hSa.box.cells); (obtain ⟨q0, q1, q2, q3⟩ := hSb.box.cells); (go_simp); (try with_reducible rfl))
      change wpAnyH _ _ _ _ _ _ _ (Act.put _ (some 48) _) _
      (try simp only [Act.put]); (try simp only [List.setIfInBounds_toArray]); (try simp only [List.set_cons_zero]); (try simp only [List.set_cons_succ])
      refine wpAnyH_take (i := 15) (v := ?v15c) rfl (by kernel_rfl) (by kernel_rfl) (by kernel_rfl) (fun _ _ _ h => h) (Or.inl ⟨by kernel_rfl, ?hy15c⟩) (by assumption) ?rest15c
      case hy15c => ((intro wS hSw); (obtain ⟨hSa, hSb, -⟩ := hSw); (obtain ⟨p0, p1, p2, p3⟩ := hSa.box.cells); (obtain ⟨q0, q1, q2, q3⟩ := hSb.box.cells); (go_simp); (try with_reducible rfl))
      change wpAnyH _ _ _ _ _ _ _ (Act.put _ (some 49) _) _
      (try simp only [Act.put]); (try simp only [List.setIfInBounds_toArray]); (try simp only [List.set_cons_zero]); (try simp only [List.set_cons_succ])
      refine wpAnyH_take (i := 16) (v := ?v16c) rfl (by kernel_rfl) (by kernel_rfl) (by kernel_rfl) (fun _ _ _ h => h) (Or.inl ⟨by kernel_rfl, ?hy16c⟩) (by assumption) ?rest16c
      case hy16c => ((intro wS hSw); (obtain ⟨hSa, hSb, -⟩ := hSw); (obtain ⟨p0, p1, p2, p3⟩ := hSa.box.cells); (obtain ⟨q0, q1, q2, q3⟩ := hSb.box.cells); (go_simp); (try with_reducible rfl))
      change wpAnyH _ _ _ _ _ _ _ (Act.put _ (some 2) _) _
      (try simp only [Act.put]); (try simp only [List.setIfInBounds_toArray]); (try simp only [List.set_cons_zero]); (try simp only [List.set_cons_succ])
      refine wpAnyH_done (by kernel_rfl) ?_ _
      have HBF := hide HKEEP.out.2.2
      go_wp2_with fail
      go_ret
      exact ⟨rfl, HBF.out⟩

theorem lva_walk (w : World) (sv : Value) (l : List Nat) (hs : SlG elY w sv l) : Calls Tryd.prog 4 #[sv] w fun e w' => e = .returned (.bool true) ∧ Below w.heap.size w w' := by
  obtain ⟨a, c, rfl, h1, h2, h3⟩ := hs
  by_cases h : l.length ≤ 1048576
  · exact lva_small w a c l ⟨a, c, rfl, h1, h2, h3⟩ h
  · exact lva_big w a l.length c (by omega)
end Go.Proofs.YtfppglfajbmapaaDoor.Lo
