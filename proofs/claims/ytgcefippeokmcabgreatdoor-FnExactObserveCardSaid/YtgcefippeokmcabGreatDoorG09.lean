/- Zd, Law, LOpen, Mn, Oaa -/
import Derived.Test.YtgcefippeokmcabGreatDoorG08
import Derived.Test.YtgcefippeokmcabGreatDoorG05
import Derived.Test.YtgcefippeokmcabGreatDoorG00
import Derived.Test.YtgcefippeokmcabGreatDoorG01
import Derived.StillTailTactics
import Derived.Deep.RegionHeld3
import Derived.Test.YtgcefippeokmcabGreatDoorRows
import Derived.ProofKit
import Derived.ChangeArms
/- The law on Observe: the walk. -/
namespace Go.Proofs.YtgcefippeokmcabGreatDoor.Lo
open Go.RowKit

/-- The arguments' boxes. -/
structure LoA (w wi : World) (m : Ne.Mon) (a : Ne.Act) (sv : Value) : Prop where
  hb : Below w.heap.size w wi
  hx : Ne.Box5 wi w.heap.size (.string m.ro) (.int .i64 m.k) (.string m.fr) (.int .i64 m.ix) sv
  hy : Box4 wi (w.heap.size + 1) (.string a.r) (.bool a.rc) (.string a.p) (.string a.l)
theorem LoA.below {w wi wj : World} {m : Ne.Mon} {a : Ne.Act} {sv : Value} (h : LoA w wi m a sv) (hb : Below wi.heap.size wi wj) : LoA w wj m a sv := ⟨h.hb.trans (hb.mono h.hb.size), h.hx.below hb, h.hy.below hb⟩
theorem LoA.wr {w wi wj : World} {m : Ne.Mon} {a : Ne.Act} {sv : Value} {cs : List Nat} (h : LoA w wi m a sv) (hw : Wr cs wi wj) (hc : ∀ x, x ∈ cs → w.heap.size + 1 < x) : LoA w wj m a sv :=
  ⟨h.hb.trans (hw.to_below (fun x hx => by have := hc x hx; omega) h.hb.size), h.hx.same (hw.block _ h.hx.lt (fun hm => by have := hc _ hm; omega)), h.hy.same (hw.block _ h.hy.lt (fun hm => by have := hc _ hm; omega))⟩
/-- A monitor of the law's own in a box: its blocks between two numbers, the box among them. -/
structure LoX (wi : World) (R : Ne.Mon) (G : F) (u : Value) (lo hi b : Nat) (bs : List Nat) : Prop where
  hx : Ne.Box5 wi b (.string R.ro) (.int .i64 R.k) (.string R.fr) (.int .i64 R.ix) u
  ho : Ow wi u G bs
  hl : ∀ x, x ∈ bs → lo ≤ x ∧ x < hi ∧ x ≠ b
  hn : bs.Nodup
  hlo : lo ≤ b
  hhi : b < hi
theorem LoX.below {wi wj : World} {R : Ne.Mon} {G : F} {u : Value} {lo hi b : Nat} {bs : List Nat} (h : LoX wi R G u lo hi b bs) (hb : Below wi.heap.size wi wj) : LoX wj R G u lo hi b bs :=
  ⟨h.hx.below hb, h.ho.same (Same.of_below hb h.ho.lt), h.hl, h.hn, h.hlo, h.hhi⟩
theorem LoX.wr {wi wj : World} {R : Ne.Mon} {G : F} {u : Value} {lo hi b : Nat} {bs cs : List Nat} (h : LoX wi R G u lo hi b bs) (hw : Wr cs wi wj) (hc : ∀ x, x ∈ cs → x < lo ∨ hi ≤ x) : LoX wj R G u lo hi b bs :=
  ⟨h.hx.same (hw.block _ h.hx.lt (fun hm => by have := hc _ hm; have := h.hlo; have := h.hhi; omega)), h.ho.same (fun x hx => hw.block x (h.ho.lt x hx) (fun hm => by have := hc _ hm; have := h.hl x hx; omega)), h.hl, h.hn, h.hlo, h.hhi⟩
theorem LoX.now {w1 : World} {R : Ne.Mon} {u : Value} {lo : Nat} {bs : List Nat} {t : TypeId} (ho : Ow w1 u R.kids bs) (hl : ∀ x, x ∈ bs → lo ≤ x) (hn : bs.Nodup) (hlo : lo ≤ w1.heap.size) :
    LoX (w1.alloc (.cells #[.string R.ro, .int .i64 R.k, .string R.fr, .int .i64 R.ix, u] t)) R R.kids u lo (w1.heap.size + 1) w1.heap.size bs :=
  ⟨Ne.Box5.now w1 _ _ _ _ _ t, ho.same (Same.of_below (alloc_below w1 _) ho.lt), fun x hx => ⟨hl x hx, by have := ho.lt x hx; omega, Nat.ne_of_lt (ho.lt x hx)⟩, hn, hlo, Nat.lt_succ_self _⟩
theorem LoX.marked {wi wj : World} {R : Ne.Mon} {G G' : F} {u : Value} {lo hi b : Nat} {bs : List Nat} (h : LoX wi R G u lo hi b bs) (hw : Wr bs wi wj) (ho : Ow wj u G' bs) : LoX wj R G' u lo hi b bs :=
  ⟨h.hx.same (hw.block _ h.hx.lt (fun hm => (h.hl _ hm).2.2 rfl)), ho, h.hl, h.hn, h.hlo, h.hhi⟩
theorem Ne.Box5.setAll {w : World} {b : Nat} {v0 v1 v2 v3 v4 : Value} (h : Ne.Box5 w b v0 v1 v2 v3 v4) (u0 u1 u2 u3 u4 : Value) :
    Ne.Box5 (((((w.setCell ⟨b, 0, none⟩ u0).setCell ⟨b, 1, none⟩ u1).setCell ⟨b, 2, none⟩ u2).setCell ⟨b, 3, none⟩ u3).setCell ⟨b, 4, none⟩ u4) b u0 u1 u2 u3 u4 := by
  obtain ⟨t, h⟩ := h
  exact ⟨t, by simp [World.setCell, Array.getElem?_modify, h]⟩
theorem far5 (w : World) {nb b : Nat} (v0 v1 v2 v3 v4 : Value) (h : b ≠ nb) : (((((w.setCell ⟨nb, 0, none⟩ v0).setCell ⟨nb, 1, none⟩ v1).setCell ⟨nb, 2, none⟩ v2).setCell ⟨nb, 3, none⟩ v3).setCell ⟨nb, 4, none⟩ v4).heap[b]? = w.heap[b]? := by
  rw [Below.heap_setCell _ _ _ _ h, Below.heap_setCell _ _ _ _ h, Below.heap_setCell _ _ _ _ h, Below.heap_setCell _ _ _ _ h, Below.heap_setCell _ _ _ _ h]
theorem LoA.set5 {w wi : World} {m : Ne.Mon} {a : Ne.Act} {sv : Value} (h : LoA w wi m a sv) {nb : Nat} (hn : w.heap.size + 1 < nb) (v0 v1 v2 v3 v4 : Value) :
    LoA w (((((wi.setCell ⟨nb, 0, none⟩ v0).setCell ⟨nb, 1, none⟩ v1).setCell ⟨nb, 2, none⟩ v2).setCell ⟨nb, 3, none⟩ v3).setCell ⟨nb, 4, none⟩ v4) m a sv :=
  have k : w.heap.size ≤ nb := by omega
  ⟨((((h.hb.setCell k v0).setCell k v1).setCell k v2).setCell k v3).setCell k v4, h.hx.same (far5 _ _ _ _ _ _ (by omega)), h.hy.same (far5 _ _ _ _ _ _ (by omega))⟩
theorem LoX.set5 {wi : World} {R : Ne.Mon} {G : F} {u : Value} {lo hi b : Nat} {bs : List Nat} (h : LoX wi R G u lo hi b bs) {nb : Nat} (hn : hi ≤ nb) (v0 v1 v2 v3 v4 : Value) :
    LoX (((((wi.setCell ⟨nb, 0, none⟩ v0).setCell ⟨nb, 1, none⟩ v1).setCell ⟨nb, 2, none⟩ v2).setCell ⟨nb, 3, none⟩ v3).setCell ⟨nb, 4, none⟩ v4) R G u lo hi b bs :=
  ⟨h.hx.same (far5 _ _ _ _ _ _ (by have := h.hhi; omega)), h.ho.same (fun x hx => far5 _ _ _ _ _ _ (by have := h.hl x hx; omega)), h.hl, h.hn, h.hlo, h.hhi⟩
theorem ow_set5 {wi : World} {G : F} {u : Value} {bs : List Nat} (h : Ow wi u G bs) {nb : Nat} (hn : ∀ x, x ∈ bs → x ≠ nb) (v0 v1 v2 v3 v4 : Value) :
    Ow (((((wi.setCell ⟨nb, 0, none⟩ v0).setCell ⟨nb, 1, none⟩ v1).setCell ⟨nb, 2, none⟩ v2).setCell ⟨nb, 3, none⟩ v3).setCell ⟨nb, 4, none⟩ v4) u G bs :=
  h.same (fun x hx => far5 _ _ _ _ _ _ (hn x hx))
/-- Behind a region that draws its order the rest is walked once: what is known there does not hang on the order. -/
theorem cut5 {K : Act → World → Prop} {G : Prop} (F : Nat → Option Addr → Nat → Option Addr → Nat → World → Prop) {LIT : Nat → Option Addr → Nat → Option Addr → Nat → Act}
    (go : (∀ nb ua uc wa wc W', F nb ua uc wa wc W' → K (LIT nb ua uc wa wc) W') → G) (rest : ∀ nb ua uc wa wc W', F nb ua uc wa wc W' → K (LIT nb ua uc wa wc) W') : G := go rest
theorem cut3 {K : Act → World → Prop} {G : Prop} (F : Nat → Option Addr → Nat → World → Prop) {LIT : Nat → Option Addr → Nat → Act}
    (go : (∀ nb wa wc W', F nb wa wc W' → K (LIT nb wa wc) W') → G) (rest : ∀ nb wa wc W', F nb wa wc W' → K (LIT nb wa wc) W') : G := go rest

theorem obs_sz (m : Ne.Mon) (a : Ne.Act) : (obsR m a).kids.sz ≤ 400 := by
  cases h : obsO m a with
  | none => rw [(obs_no h).1]; exact Nat.zero_le _
  | some R =>
    rw [(obs_yes h).1]
    unfold obsO at h
    split at h
    · rename_i hc
      cases hf : findF (curM m).kids a.l with
      | none => rw [hf] at h; cases h
      | some N =>
        rw [hf] at h
        simp only [Option.bind_some] at h
        split at h
        · obtain rfl := Option.some.inj h
          have := (okG_w (nxt_ok hc.1 hf)).2.2
          show N.kids.sz ≤ 400
          have e : (⟨N.k, N.fr, N.ix, N.kids⟩ : Nd).kids = N.kids := rfl
          rw [e] at this
          omega
        · cases h
    · cases h
theorem mon_room {m : Ne.Mon} {n : Nat} (h : m.wt ≤ n) : m.kids.len + m.kids.wt ≤ n ∧ m.kids.sz ≤ n := by
  unfold Ne.Mon.wt at h
  have := F.sz_le m.kids
  omega
theorem two_boxes (w : World) (m : Ne.Mon) (a : Ne.Act) (sv : Value) (t t' : TypeId) :
    LoA w ((w.alloc (.cells #[.string m.ro, .int .i64 m.k, .string m.fr, .int .i64 m.ix, sv] t)).alloc (.cells #[.string a.r, .bool a.rc, .string a.p, .string a.l] t')) m a sv :=
  ⟨(alloc_below w _).alloc (by simp) _, (Ne.Box5.now w _ _ _ _ _ t).below (alloc_below _ _), by
    have h := Box4.now (w.alloc (.cells #[.string m.ro, .int .i64 m.k, .string m.fr, .int .i64 m.ix, sv] t)) (.string a.r) (.bool a.rc) (.string a.p) (.string a.l) t'
    rw [show (w.alloc (.cells #[.string m.ro, .int .i64 m.k, .string m.fr, .int .i64 m.ix, sv] t)).heap.size = w.heap.size + 1 from by simp] at h
    exact h⟩
/-- An action's strings fit. -/
structure Ne.Act.Fit (a : Ne.Act) : Prop where
  r : a.r.size ≤ maxLen
  p : a.p.size ≤ maxLen
  l : a.l.size ≤ maxLen

set_option maxHeartbeats 800000 in
set_option maxRecDepth 100000 in
theorem ob_big (w : World) (m : Ne.Mon) (a : Ne.Act) (sv : Value) (hs : Sl w sv m.kids) (hf : m.Fit) (hbig : 1048576 < m.wt) :
    Calls Tryz.prog 3 #[.agg #[.string m.ro, .int .i64 m.k, .string m.fr, .int .i64 m.ix, sv], .agg #[.string a.r, .bool a.rc, .string a.p, .string a.l]] w fun e w' => e = .returned (.bool true) ∧ Below w.heap.size w w' := by
  have HW0 := hide (two_boxes w m a sv ( /- t -/ 26) ( /- t -/ 28))
  have HS := hide hs
  have HF := hide hf
  clear hs hf
  have H3 := hide hbig
  clear hbig
  go_enter Tryz.func3, Tryz.ntmps3
  go_wp2_with fail
  generalize (w.alloc (.cells #[.string m.ro, .int .i64 m.k, .string m.fr, .int .i64 m.ix, sv] ( /- t -/ 26))).alloc (.cells #[.string a.r, .bool a.rc, .string a.p, .string a.l] ( /- t -/ 28)) = W at *
  refine (Ne.sz_mon m.kids _ m.ro m.k m.ix m.fr sv 1048576 (HS.out.still (Still.of_below HW0.out.hb)) (by omega) (by omega) HF.out.ro HF.out.fr).mono ?_
  rintro e w1 ⟨rfl, hb⟩
  have HB := hide (HW0.out.hb.trans (hb.mono HW0.out.hb.size))
  rw [show left0 1048576 (m.ro.size + (m.fr.size + (m.kids.len + m.kids.wt))) = -1 by have := H3.out; unfold Ne.Mon.wt at this; unfold left0; rw [if_pos (by omega)]]
  clear hb
  go_wp2_with fail
  go_ret
  exact ⟨rfl, HB.out⟩

set_option maxHeartbeats 800000 in
set_option maxRecDepth 100000 in
theorem ob_big2 (w : World) (m : Ne.Mon) (a : Ne.Act) (sv : Value) (hs : Sl w sv m.kids) (hf : m.Fit) (ha : a.Fit) (hm : m.wt ≤ 1048576) (hbig : 1048576 < m.wt + a.wt) :
    Calls Tryz.prog 3 #[.agg #[.string m.ro, .int .i64 m.k, .string m.fr, .int .i64 m.ix, sv], .agg #[.string a.r, .bool a.rc, .string a.p, .string a.l]] w fun e w' => e = .returned (.bool true) ∧ Below w.heap.size w w' := by
  have HW0 := hide (two_boxes w m a sv ( /- t -/ 26) ( /- t -/ 28))
  have HS := hide hs
  have HF := hide hf
  clear hs hf
  have HA := hide ha
  have H3 := hide (And.intro hm hbig)
  clear hbig hm ha
  go_enter Tryz.func3, Tryz.ntmps3
  go_wp2_with fail
  generalize (w.alloc (.cells #[.string m.ro, .int .i64 m.k, .string m.fr, .int .i64 m.ix, sv] ( /- t -/ 26))).alloc (.cells #[.string a.r, .bool a.rc, .string a.p, .string a.l] ( /- t -/ 28)) = W at *
  refine (Ne.sz_mon m.kids _ m.ro m.k m.ix m.fr sv 1048576 (HS.out.still (Still.of_below HW0.out.hb)) (by omega) (by omega) HF.out.ro HF.out.fr).mono ?_
  rintro e w1 ⟨rfl, hb⟩
  obtain ⟨r, hr⟩ : ∃ r : Int, r = left0 1048576 (m.ro.size + (m.fr.size + (m.kids.len + m.kids.wt))) := ⟨_, rfl⟩
  have hr2 : r = 1048576 - m.wt := by have := H3.out.1; unfold Ne.Mon.wt at *; rw [hr]; unfold left0; rw [if_neg (by omega)]; try omega
  rw [← hr]
  clear hr
  have hr0 : 0 ≤ r := by have := H3.out.1; omega
  have hr1 : r ≤ 1048576 := by omega
  have H4 := hide (show Ne.leftA r (a.r.size + (a.p.size + a.l.size)) = -1 by have := H3.out; unfold Ne.Act.wt at this; unfold Ne.leftA; rw [if_pos (by omega)])
  clear hr2
  have HW := hide (HW0.out.below hb)
  clear hb
  obtain ⟨x0, x1, x2, x3, x4⟩ := HW.out.hx.cells
  have xl := HW.out.hx.lt
  obtain ⟨a0, a1, a2, a3⟩ := HW.out.hy.cells
  have al := HW.out.hy.lt
  go_wp2_with fail
  refine (Ne.szAct w1 a.r a.p a.l a.rc r hr0 hr1 HA.out.r HA.out.p HA.out.l).mono ?_
  rintro e w2 ⟨rfl, hb⟩
  have HB := hide (HW.out.hb.trans (hb.mono HW.out.hb.size))
  rw [H4.out]
  clear hb
  go_wp2_with fail
  go_ret
  exact ⟨rfl, HB.out⟩

set_option maxHeartbeats 4000000 in
set_option maxRecDepth 100000 in
theorem ob_small (w : World) (m : Ne.Mon) (a : Ne.Act) (sv : Value) (hs : Sl w sv m.kids) (hf : m.Fit) (ha : a.Fit) (T1 T2 : TypeId) (v1 v2 : Value) (he1 : w.cell? ⟨0, 0, none⟩ = some (.iface T1 v1)) (he2 : w.cell? ⟨1, 0, none⟩ = some (.iface T2 v2)) (hsm : m.wt + a.wt ≤ 1048576) :
    Calls Tryz.prog 3 #[.agg #[.string m.ro, .int .i64 m.k, .string m.fr, .int .i64 m.ix, sv], .agg #[.string a.r, .bool a.rc, .string a.p, .string a.l]] w fun e w' => e = .returned (.bool true) ∧ Below w.heap.size w w' := by
  have HW0 := hide (two_boxes w m a sv ( /- t -/ 26) ( /- t -/ 28))
  have HS := hide hs
  have HF := hide hf
  clear hs hf
  have HA := hide ha
  have H3 := hide hsm
  have HN := hide (mon_room (show m.wt ≤ 1048576 by omega))
  have HE1 := hide he1
  have HE2 := hide he2
  obtain ⟨R, hR⟩ : ∃ R, R = obsR m a := ⟨_, rfl⟩
  obtain ⟨ok, hok⟩ : ∃ ok, ok = obsOk m a := ⟨_, rfl⟩
  have HR := hide hR
  have HOK := hide hok
  clear hsm ha he1 he2 hR hok
  go_enter Tryz.func3, Tryz.ntmps3
  go_wp2_with fail
  generalize (w.alloc (.cells #[.string m.ro, .int .i64 m.k, .string m.fr, .int .i64 m.ix, sv] ( /- t -/ 26))).alloc (.cells #[.string a.r, .bool a.rc, .string a.p, .string a.l] ( /- t -/ 28)) = W at *
  refine (Ne.sz_mon m.kids _ m.ro m.k m.ix m.fr sv 1048576 (HS.out.still (Still.of_below HW0.out.hb)) (by omega) (by omega) HF.out.ro HF.out.fr).mono ?_
  rintro e w1 ⟨rfl, hb⟩
  obtain ⟨r, hr⟩ : ∃ r : Int, r = left0 1048576 (m.ro.size + (m.fr.size + (m.kids.len + m.kids.wt))) := ⟨_, rfl⟩
  have hr2 : r = 1048576 - m.wt := by have := H3.out; unfold Ne.Mon.wt at *; rw [hr]; unfold left0; rw [if_neg (by omega)]; try omega
  rw [← hr]
  clear hr
  have hr0 : 0 ≤ r := by have := H3.out; omega
  have hr1 : r ≤ 1048576 := by omega
  obtain ⟨r2, hq, hq0⟩ : ∃ r2 : Int, Ne.leftA r (a.r.size + (a.p.size + a.l.size)) = r2 ∧ 0 ≤ r2 := by
    refine ⟨_, rfl, ?_⟩
    have := H3.out
    unfold Ne.Act.wt at this
    unfold Ne.leftA
    rw [if_neg (by omega)]
    omega
  have HQ := hide hq
  clear hr2 hq
  have HW := hide (HW0.out.below hb)
  clear hb HW0
  obtain ⟨x0, x1, x2, x3, x4⟩ := HW.out.hx.cells
  have xl := HW.out.hx.lt
  obtain ⟨a0, a1, a2, a3⟩ := HW.out.hy.cells
  have al := HW.out.hy.lt
  go_wp2_with fail
  refine (Ne.szAct w1 a.r a.p a.l a.rc r hr0 hr1 HA.out.r HA.out.p HA.out.l).mono ?_
  rintro e w2 ⟨rfl, hb⟩
  rw [HQ.out]
  have HW := hide (HW.out.below hb)
  clear hb x0 x1 x2 x3 x4 xl a0 a1 a2 a3 al hr0 hr1
  obtain ⟨x0, x1, x2, x3, x4⟩ := HW.out.hx.cells
  have xl := HW.out.hx.lt
  obtain ⟨a0, a1, a2, a3⟩ := HW.out.hy.cells
  have al := HW.out.hy.lt
  go_wp2_with fail
  clear HQ hq0 H3
  have HN0 := HN
  clear HN x0 x1 x2 x3 x4 xl a0 a1 a2 a3 al
  have hws := HW.out.hy.lt
  obtain ⟨L4, hL4⟩ : ∃ L4, L4 = w2.heap.size := ⟨_, rfl⟩
  have HL4 := hide (show w.heap.size + 1 < L4 by omega)
  have HLe := hide (show L4 ≤ w2.drew.heap.size from Nat.le_of_eq hL4)
  clear hL4 hws
  have HW := hide (HW.out.below (wj := w2.drew) (Below.refl _ _).drew)
  rename_i KK hKK
  have HKK := hide hKK
  clear hKK
  refine' cut5 (K := KK) (fun nb ua uc wa wc W' => ∃ hi bs, LoA w W' m a sv ∧ LoX W' R R.kids (.slice wa R.kids.len wc) L4 hi nb bs ∧ hi ≤ W'.heap.size) (fun key => ?_) (fun nb ua uc wa wc W' hF => ?_)
  rotate_left
  · have key := hide key
    refine wp_region_held_drew (S := (fun w' => LoA w w' m a sv)) (by kernel_rfl) ?_ (fun hHeld => ?_)
    · exact HW.out
    refine wpAnyH_take (i := 0) (v := ?v0q) rfl (by kernel_rfl) (by kernel_rfl) (by kernel_rfl) (fun _ _ _ h => h) (Or.inl ⟨by kernel_rfl, ?hy0q⟩) (by assumption) ?rest0q
    case hy0q => ((intro wS hSw); (obtain ⟨x0, x1, x2, x3, x4⟩ := hSw.hx.cells); (obtain ⟨a0, a1, a2, a3⟩ := hSw.hy.cells); (try dsimp only at hSw); (go_simp); (try with_reducible rfl))
    change wpAnyH _ _ _ _ _ _ _ (Act.put _ (some 27) _) _
    (try simp only [Act.put]); (try simp only [List.setIfInBounds_toArray]); (try simp only [List.set_cons_zero]); (try simp only [List.set_cons_succ])
    refine wpAnyH_take (i := 2) (v := ?v2q) rfl (by kernel_rfl) (by kernel_rfl) (by kernel_rfl) (fun _ _ _ h => h) (Or.inl ⟨by kernel_rfl, ?hy2q⟩) (by assumption) ?rest2q
    case hy2q => ((intro wS hSw); (obtain ⟨x0, x1, x2, x3, x4⟩ := hSw.hx.cells); (obtain ⟨a0, a1, a2, a3⟩ := hSw.hy.cells); (try dsimp only at hSw); (go_simp); (try with_reducible rfl))
    change wpAnyH _ _ _ _ _ _ _ (Act.put _ (some 29) _) _
    (try simp only [Act.put]); (try simp only [List.setIfInBounds_toArray]); (try simp only [List.set_cons_zero]); (try simp only [List.set_cons_succ])
    refine wpAnyH_ready (rs := [1, 8]) (by kernel_rfl) (by simp) (AllReadyH.cons rfl (fun K hK => ?kaq) (AllReadyH.cons rfl (fun K hK => ?kbq) AllReadyH.nil))
    case' kaq =>
      rw [if_pos (by kernel_rfl)]
      go_simp
      go_at_call 7; (with_reducible refine (Ne.to_mon m.kids _ m.ro m.k m.ix m.fr sv (HS.out.still (Still.of_below HW.out.hb)) HN0.out.1).mono ?_); rintro e wk1 ⟨u, us, rfl, how, -, -, hb⟩; (obtain ⟨ua, uc, rfl⟩ := how.val); (have HU := hide how.sl); (have HW := hide (HW.out.below hb)); (have HLe := hide (Nat.le_trans HLe.out hb.size)); clear hb how
      refine hK.out _ _ ?_ (fun hHeld => ?_)
      · exact HW.out
      clear hK K
      (try simp only [Act.put]); (try simp only [List.setIfInBounds_toArray]); (try simp only [List.set_cons_zero]); (try simp only [List.set_cons_succ])
      refine wpAnyH_ready (rs := [3, 8]) (by kernel_rfl) (by simp) (AllReadyH.cons rfl (fun K hK => ?kaqx) (AllReadyH.cons rfl (fun K hK => ?kbqx) AllReadyH.nil))
      case' kaqx =>
        rw [if_pos (by kernel_rfl)]
        go_simp
        go_at_call 8; (with_reducible refine (Ne.toAct _ a.r a.p a.l a.rc).mono ?_); rintro e wk2 ⟨rfl, hb⟩; (have HU := hide (HU.out.still (Still.of_below hb))); (have HW := hide (HW.out.below hb)); (have HLe := hide (Nat.le_trans HLe.out hb.size)); clear hb
        refine hK.out _ _ ?_ (fun hHeld => ?_)
        · exact HW.out
        clear hK K
        (try simp only [Act.put]); (try simp only [List.setIfInBounds_toArray]); (try simp only [List.set_cons_zero]); (try simp only [List.set_cons_succ])
        refine wpAnyH_ready (rs := [4, 8]) (by kernel_rfl) (by simp) (AllReadyH.cons rfl (fun K hK => ?kaqxx) (AllReadyH.cons rfl (fun K hK => ?kbqxx) AllReadyH.nil))
        case' kaqxx =>
          rw [if_pos (by kernel_rfl)]
          go_simp
          go_at_call 6; (with_reducible refine (specObs _ m a _ _ HU.out HF.out HN0.out.2).mono ?_); (rw [← HR.out, ← HOK.out]); rintro e wk3 ⟨wu, bs, rfl, how, hge, hnd, hb⟩; (obtain ⟨wa, wc, rfl⟩ := how.val); (have HG := hide (fun x (hx : x ∈ bs) => (show L4 ≤ x by have h1 := hge x hx; have h2 := HLe.out; first | exact ⟨Nat.le_trans h2 h1, by omega⟩ | exact Nat.le_trans h2 h1))); (have HO := hide how); (have HND := hide hnd); (have HW := hide (HW.out.below hb)); (have HLe := hide (Nat.le_trans HLe.out hb.size)); clear hb hge how hnd
          refine hK.out _ _ ?_ (fun hHeld => ?_)
          · exact HW.out
          clear hK K
          (try simp only [Act.put]); (try simp only [List.setIfInBounds_toArray]); (try simp only [List.set_cons_zero]); (try simp only [List.set_cons_succ])
          refine wpAnyH_take (i := 5) (v := ?v5qxxp) rfl (by kernel_rfl) (by kernel_rfl) (by kernel_rfl) (fun _ _ _ h => h) (Or.inl ⟨by kernel_rfl, ?hy5qxxp⟩) (by assumption) ?rest5qxxp
          case hy5qxxp => ((intro wS hSw); (obtain ⟨x0, x1, x2, x3, x4⟩ := hSw.hx.cells); (obtain ⟨a0, a1, a2, a3⟩ := hSw.hy.cells); (try dsimp only at hSw); (go_simp); (try with_reducible rfl))
          change wpAnyH _ _ _ _ _ _ _ (Act.put _ (some 26) _) _
          (try simp only [Act.put]); (try simp only [List.setIfInBounds_toArray]); (try simp only [List.set_cons_zero]); (try simp only [List.set_cons_succ])
          refine wpAnyH_take (i := 6) (v := ?v6qxxp) rfl (by kernel_rfl) (by kernel_rfl) (by kernel_rfl) (fun _ _ _ h => h) (Or.inl ⟨by kernel_rfl, ?hy6qxxp⟩) (by assumption) ?rest6qxxp
          case hy6qxxp => ((intro wS hSw); (obtain ⟨x0, x1, x2, x3, x4⟩ := hSw.hx.cells); (obtain ⟨a0, a1, a2, a3⟩ := hSw.hy.cells); (try dsimp only at hSw); (go_simp); (try with_reducible rfl))
          change wpAnyH _ _ _ _ _ _ _ (Act.put _ (some 32) _) _
          (try simp only [Act.put]); (try simp only [List.setIfInBounds_toArray]); (try simp only [List.set_cons_zero]); (try simp only [List.set_cons_succ])
          refine wpAnyH_take (i := 7) (v := ?v7qxxp) rfl (by kernel_rfl) (by kernel_rfl) (by kernel_rfl) (fun _ _ _ h => h) (Or.inl ⟨by kernel_rfl, ?hy7qxxp⟩) (by assumption) ?rest7qxxp
          case hy7qxxp => ((intro wS hSw); (obtain ⟨x0, x1, x2, x3, x4⟩ := hSw.hx.cells); (obtain ⟨a0, a1, a2, a3⟩ := hSw.hy.cells); (try dsimp only at hSw); (go_simp); (try with_reducible rfl))
          change wpAnyH _ _ _ _ _ _ _ (Act.put _ (some 33) _) _
          (try simp only [Act.put]); (try simp only [List.setIfInBounds_toArray]); (try simp only [List.set_cons_zero]); (try simp only [List.set_cons_succ])
          refine wpAnyH_ready (rs := [8]) (by kernel_rfl) (by simp) (AllReadyH.cons rfl (fun K hK => ?_) AllReadyH.nil)
          rw [if_pos (by kernel_rfl)]
          go_simp
          (obtain ⟨nb, hnb⟩ : ∃ nb, nb = wk3.heap.size := ⟨_, rfl⟩); (have HLb := hide (show L4 ≤ nb by rw [hnb]; exact HLe.out)); (have HWB := HW); (have HOB := HO); (have HOL := hide HO.out.lt); (have HN := hide (Ne.Box5.now wk3 (.string ⟨#[]⟩) (.int .i64 0) (.string ⟨#[]⟩) (.int .i64 0) (.slice none 0 0) ( /- t -/ 35))); (have HW := hide (HW.out.below (alloc_below wk3 (.cells #[.string ⟨#[]⟩, .int .i64 0, .string ⟨#[]⟩, .int .i64 0, .slice none 0 0] ( /- t -/ 35))))); (have HLe := hide (Nat.le_trans HLe.out (alloc_below wk3 (.cells #[.string ⟨#[]⟩, .int .i64 0, .string ⟨#[]⟩, .int .i64 0, .slice none 0 0] ( /- t -/ 35))).size))
          refine hK.out _ _ ?_ (fun hHeld => ?_)
          · exact HW.out
          clear hK K
          (try simp only [Act.put]); (try simp only [List.setIfInBounds_toArray]); (try simp only [List.set_cons_zero]); (try simp only [List.set_cons_succ])
          refine wpAnyH_ready (rs := [9]) (by kernel_rfl) (by simp) (AllReadyH.cons rfl (fun K hK => ?_) AllReadyH.nil)
          rw [if_pos (by kernel_rfl)]
          go_simp
          rw [← hnb]
          have HNX := hide (Ne.Box5.now wk3 (.string R.ro) (.int .i64 R.k) (.string R.fr) (.int .i64 R.ix) (.slice wa R.kids.len wc) ( /- t -/ 35))
          rw [← hnb] at HNX
          have HG := hide (fun x (hx : x ∈ bs) => And.intro (HG.out x hx) (show x ≠ nb by rw [hnb]; exact Nat.ne_of_lt (HOL.out x hx)))
          have HO := hide (HOB.out.same (Same.of_below (alloc_below wk3 (.cells #[.string R.ro, .int .i64 R.k, .string R.fr, .int .i64 R.ix, .slice wa R.kids.len wc] ( /- t -/ 35))) HOB.out.lt))
          have HW := hide (HWB.out.below (alloc_below wk3 (.cells #[.string R.ro, .int .i64 R.k, .string R.fr, .int .i64 R.ix, .slice wa R.kids.len wc] ( /- t -/ 35))))
          refine hK.out _ _ ?_ (fun hHeld => ?_)
          · exact HW.out
          clear hK K
          (try simp only [Act.put]); (try simp only [List.setIfInBounds_toArray]); (try simp only [List.set_cons_zero]); (try simp only [List.set_cons_succ])
          refine wpAnyH_take (i := 10) (v := ?v10qxxxz) rfl (by kernel_rfl) (by kernel_rfl) (by kernel_rfl) (fun _ _ _ h => h) (Or.inl ⟨by kernel_rfl, ?hy10qxxxz⟩) (by assumption) ?rest10qxxxz
          case hy10qxxxz => ((intro wS hSw); (obtain ⟨x0, x1, x2, x3, x4⟩ := hSw.hx.cells); (obtain ⟨a0, a1, a2, a3⟩ := hSw.hy.cells); (try dsimp only at hSw); (go_simp); (try with_reducible rfl))
          change wpAnyH _ _ _ _ _ _ _ (Act.put _ (some 7) _) _
          (try simp only [Act.put]); (try simp only [List.setIfInBounds_toArray]); (try simp only [List.set_cons_zero]); (try simp only [List.set_cons_succ])
          refine wpAnyH_done (by kernel_rfl) ?_ _
          clear hHeld HN HLe HOB HOL HWB
          generalize wk3.alloc (.cells #[.string R.ro, .int .i64 R.k, .string R.fr, .int .i64 R.ix, .slice wa R.kids.len wc] ( /- t -/ 35)) = X at *
          refine key.out nb ua uc wa wc _ ⟨X.heap.size, bs, HW.out, ⟨HNX.out, HO.out, fun x hx => ⟨(HG.out x hx).1, HO.out.lt x hx, (HG.out x hx).2⟩, HND.out, HLb.out, HNX.out.lt⟩, Nat.le_refl _⟩
        case' kbqxx =>
          rw [if_pos (by kernel_rfl)]
          go_simp
          (obtain ⟨nb, hnb⟩ : ∃ nb, nb = wk2.heap.size := ⟨_, rfl⟩); (have HLb := hide (show L4 ≤ nb by rw [hnb]; exact HLe.out)); (have HN := hide (Ne.Box5.now wk2 (.string ⟨#[]⟩) (.int .i64 0) (.string ⟨#[]⟩) (.int .i64 0) (.slice none 0 0) ( /- t -/ 35))); (have HW := hide (HW.out.below (alloc_below wk2 (.cells #[.string ⟨#[]⟩, .int .i64 0, .string ⟨#[]⟩, .int .i64 0, .slice none 0 0] ( /- t -/ 35))))); (have HLe := hide (Nat.le_trans HLe.out (alloc_below wk2 (.cells #[.string ⟨#[]⟩, .int .i64 0, .string ⟨#[]⟩, .int .i64 0, .slice none 0 0] ( /- t -/ 35))).size)); (have HU := hide (HU.out.still (Still.of_below (alloc_below wk2 (.cells #[.string ⟨#[]⟩, .int .i64 0, .string ⟨#[]⟩, .int .i64 0, .slice none 0 0] ( /- t -/ 35))))))
          refine hK.out _ _ ?_ (fun hHeld => ?_)
          · exact HW.out
          clear hK K
          (try simp only [Act.put]); (try simp only [List.setIfInBounds_toArray]); (try simp only [List.set_cons_zero]); (try simp only [List.set_cons_succ])
          refine wpAnyH_ready (rs := [4]) (by kernel_rfl) (by simp) (AllReadyH.cons rfl (fun K hK => ?_) AllReadyH.nil)
          rw [if_pos (by kernel_rfl)]
          go_simp
          (have HNL := hide (show nb < _ from by rw [hnb]; exact HN.out.lt)); go_at_call 6; (with_reducible refine (specObs _ m a _ _ HU.out HF.out HN0.out.2).mono ?_); (rw [← HR.out, ← HOK.out]); rintro e wk3 ⟨wu, bs, rfl, how, hge, hnd, hb⟩; (obtain ⟨wa, wc, rfl⟩ := how.val); (have HG := hide (fun x (hx : x ∈ bs) => (show L4 ≤ x ∧ x ≠ nb by have h1 := hge x hx; have h2 := HLe.out; have h3 := HNL.out; first | exact ⟨Nat.le_trans h2 h1, by omega⟩ | exact Nat.le_trans h2 h1))); (have HO := hide how); (have HND := hide hnd); (have HW := hide (HW.out.below hb)); (have HN := hide (HN.out.below hb)); (have HLe := hide (Nat.le_trans HLe.out hb.size)); clear hb hge how hnd
          refine hK.out _ _ ?_ (fun hHeld => ?_)
          · exact HW.out
          clear hK K
          (try simp only [Act.put]); (try simp only [List.setIfInBounds_toArray]); (try simp only [List.set_cons_zero]); (try simp only [List.set_cons_succ])
          refine wpAnyH_take (i := 5) (v := ?v5qxxyp) rfl (by kernel_rfl) (by kernel_rfl) (by kernel_rfl) (fun _ _ _ h => h) (Or.inl ⟨by kernel_rfl, ?hy5qxxyp⟩) (by assumption) ?rest5qxxyp
          case hy5qxxyp => ((intro wS hSw); (obtain ⟨x0, x1, x2, x3, x4⟩ := hSw.hx.cells); (obtain ⟨a0, a1, a2, a3⟩ := hSw.hy.cells); (try dsimp only at hSw); (go_simp); (try with_reducible rfl))
          change wpAnyH _ _ _ _ _ _ _ (Act.put _ (some 26) _) _
          (try simp only [Act.put]); (try simp only [List.setIfInBounds_toArray]); (try simp only [List.set_cons_zero]); (try simp only [List.set_cons_succ])
          refine wpAnyH_take (i := 6) (v := ?v6qxxyp) rfl (by kernel_rfl) (by kernel_rfl) (by kernel_rfl) (fun _ _ _ h => h) (Or.inl ⟨by kernel_rfl, ?hy6qxxyp⟩) (by assumption) ?rest6qxxyp
          case hy6qxxyp => ((intro wS hSw); (obtain ⟨x0, x1, x2, x3, x4⟩ := hSw.hx.cells); (obtain ⟨a0, a1, a2, a3⟩ := hSw.hy.cells); (try dsimp only at hSw); (go_simp); (try with_reducible rfl))
          change wpAnyH _ _ _ _ _ _ _ (Act.put _ (some 32) _) _
          (try simp only [Act.put]); (try simp only [List.setIfInBounds_toArray]); (try simp only [List.set_cons_zero]); (try simp only [List.set_cons_succ])
          refine wpAnyH_take (i := 7) (v := ?v7qxxyp) rfl (by kernel_rfl) (by kernel_rfl) (by kernel_rfl) (fun _ _ _ h => h) (Or.inl ⟨by kernel_rfl, ?hy7qxxyp⟩) (by assumption) ?rest7qxxyp
          case hy7qxxyp => ((intro wS hSw); (obtain ⟨x0, x1, x2, x3, x4⟩ := hSw.hx.cells); (obtain ⟨a0, a1, a2, a3⟩ := hSw.hy.cells); (try dsimp only at hSw); (go_simp); (try with_reducible rfl))
          change wpAnyH _ _ _ _ _ _ _ (Act.put _ (some 33) _) _
          (try simp only [Act.put]); (try simp only [List.setIfInBounds_toArray]); (try simp only [List.set_cons_zero]); (try simp only [List.set_cons_succ])
          refine wpAnyH_ready (rs := [9]) (by kernel_rfl) (by simp) (AllReadyH.cons rfl (fun K hK => ?_) AllReadyH.nil)
          obtain ⟨n0, n1, n2, n3, n4⟩ := HN.out.cells
          have nf := HN.out.frozen
          have nl := HN.out.lt
          rw [if_pos (by kernel_rfl)]
          go_simp
          rw [← hnb] at HN ⊢
          have hLb := HLb.out
          have HNX := hide (HN.out.setAll (.string R.ro) (.int .i64 R.k) (.string R.fr) (.int .i64 R.ix) (.slice wa R.kids.len wc))
          have HO := hide (ow_set5 HO.out (nb := nb) (fun x hx => (HG.out x hx).2) (.string R.ro) (.int .i64 R.k) (.string R.fr) (.int .i64 R.ix) (.slice wa R.kids.len wc))
          have HW := hide (HW.out.set5 (nb := nb) (by have := HL4.out; omega) (.string R.ro) (.int .i64 R.k) (.string R.fr) (.int .i64 R.ix) (.slice wa R.kids.len wc))
          refine hK.out _ _ ?_ (fun hHeld => ?_)
          · exact HW.out
          clear hK K n0 n1 n2 n3 n4 nf nl
          (try simp only [Act.put]); (try simp only [List.setIfInBounds_toArray]); (try simp only [List.set_cons_zero]); (try simp only [List.set_cons_succ])
          refine wpAnyH_take (i := 10) (v := ?v10qxxyz) rfl (by kernel_rfl) (by kernel_rfl) (by kernel_rfl) (fun _ _ _ h => h) (Or.inl ⟨by kernel_rfl, ?hy10qxxyz⟩) (by assumption) ?rest10qxxyz
          case hy10qxxyz => ((intro wS hSw); (obtain ⟨x0, x1, x2, x3, x4⟩ := hSw.hx.cells); (obtain ⟨a0, a1, a2, a3⟩ := hSw.hy.cells); (try dsimp only at hSw); (go_simp); (try with_reducible rfl))
          change wpAnyH _ _ _ _ _ _ _ (Act.put _ (some 7) _) _
          (try simp only [Act.put]); (try simp only [List.setIfInBounds_toArray]); (try simp only [List.set_cons_zero]); (try simp only [List.set_cons_succ])
          refine wpAnyH_done (by kernel_rfl) ?_ _
          clear hHeld HN HLe
          generalize (((((wk3.setCell ⟨nb, 0, none⟩ (.string R.ro)).setCell ⟨nb, 1, none⟩ (.int .i64 R.k)).setCell ⟨nb, 2, none⟩ (.string R.fr)).setCell ⟨nb, 3, none⟩ (.int .i64 R.ix)).setCell ⟨nb, 4, none⟩ (.slice wa R.kids.len wc)) = X at *
          refine key.out nb ua uc wa wc _ ⟨X.heap.size, bs, HW.out, ⟨HNX.out, HO.out, fun x hx => ⟨(HG.out x hx).1, HO.out.lt x hx, (HG.out x hx).2⟩, HND.out, HLb.out, HNX.out.lt⟩, Nat.le_refl _⟩
      case' kbqx =>
        rw [if_pos (by kernel_rfl)]
        go_simp
        (obtain ⟨nb, hnb⟩ : ∃ nb, nb = wk1.heap.size := ⟨_, rfl⟩); (have HLb := hide (show L4 ≤ nb by rw [hnb]; exact HLe.out)); (have HN := hide (Ne.Box5.now wk1 (.string ⟨#[]⟩) (.int .i64 0) (.string ⟨#[]⟩) (.int .i64 0) (.slice none 0 0) ( /- t -/ 35))); (have HW := hide (HW.out.below (alloc_below wk1 (.cells #[.string ⟨#[]⟩, .int .i64 0, .string ⟨#[]⟩, .int .i64 0, .slice none 0 0] ( /- t -/ 35))))); (have HLe := hide (Nat.le_trans HLe.out (alloc_below wk1 (.cells #[.string ⟨#[]⟩, .int .i64 0, .string ⟨#[]⟩, .int .i64 0, .slice none 0 0] ( /- t -/ 35))).size)); (have HU := hide (HU.out.still (Still.of_below (alloc_below wk1 (.cells #[.string ⟨#[]⟩, .int .i64 0, .string ⟨#[]⟩, .int .i64 0, .slice none 0 0] ( /- t -/ 35))))))
        refine hK.out _ _ ?_ (fun hHeld => ?_)
        · exact HW.out
        clear hK K
        (try simp only [Act.put]); (try simp only [List.setIfInBounds_toArray]); (try simp only [List.set_cons_zero]); (try simp only [List.set_cons_succ])
        refine wpAnyH_ready (rs := [3]) (by kernel_rfl) (by simp) (AllReadyH.cons rfl (fun K hK => ?_) AllReadyH.nil)
        rw [if_pos (by kernel_rfl)]
        go_simp
        go_at_call 8; (with_reducible refine (Ne.toAct _ a.r a.p a.l a.rc).mono ?_); rintro e wk2 ⟨rfl, hb⟩; (have HU := hide (HU.out.still (Still.of_below hb))); (have HW := hide (HW.out.below hb)); (have HN := hide (HN.out.below hb)); (have HLe := hide (Nat.le_trans HLe.out hb.size)); clear hb
        refine hK.out _ _ ?_ (fun hHeld => ?_)
        · exact HW.out
        clear hK K
        (try simp only [Act.put]); (try simp only [List.setIfInBounds_toArray]); (try simp only [List.set_cons_zero]); (try simp only [List.set_cons_succ])
        refine wpAnyH_ready (rs := [4]) (by kernel_rfl) (by simp) (AllReadyH.cons rfl (fun K hK => ?_) AllReadyH.nil)
        rw [if_pos (by kernel_rfl)]
        go_simp
        (have HNL := hide (show nb < _ from by rw [hnb]; exact HN.out.lt)); go_at_call 6; (with_reducible refine (specObs _ m a _ _ HU.out HF.out HN0.out.2).mono ?_); (rw [← HR.out, ← HOK.out]); rintro e wk3 ⟨wu, bs, rfl, how, hge, hnd, hb⟩; (obtain ⟨wa, wc, rfl⟩ := how.val); (have HG := hide (fun x (hx : x ∈ bs) => (show L4 ≤ x ∧ x ≠ nb by have h1 := hge x hx; have h2 := HLe.out; have h3 := HNL.out; first | exact ⟨Nat.le_trans h2 h1, by omega⟩ | exact Nat.le_trans h2 h1))); (have HO := hide how); (have HND := hide hnd); (have HW := hide (HW.out.below hb)); (have HN := hide (HN.out.below hb)); (have HLe := hide (Nat.le_trans HLe.out hb.size)); clear hb hge how hnd
        refine hK.out _ _ ?_ (fun hHeld => ?_)
        · exact HW.out
        clear hK K
        (try simp only [Act.put]); (try simp only [List.setIfInBounds_toArray]); (try simp only [List.set_cons_zero]); (try simp only [List.set_cons_succ])
        refine wpAnyH_take (i := 5) (v := ?v5qxyp) rfl (by kernel_rfl) (by kernel_rfl) (by kernel_rfl) (fun _ _ _ h => h) (Or.inl ⟨by kernel_rfl, ?hy5qxyp⟩) (by assumption) ?rest5qxyp
        case hy5qxyp => ((intro wS hSw); (obtain ⟨x0, x1, x2, x3, x4⟩ := hSw.hx.cells); (obtain ⟨a0, a1, a2, a3⟩ := hSw.hy.cells); (try dsimp only at hSw); (go_simp); (try with_reducible rfl))
        change wpAnyH _ _ _ _ _ _ _ (Act.put _ (some 26) _) _
        (try simp only [Act.put]); (try simp only [List.setIfInBounds_toArray]); (try simp only [List.set_cons_zero]); (try simp only [List.set_cons_succ])
        refine wpAnyH_take (i := 6) (v := ?v6qxyp) rfl (by kernel_rfl) (by kernel_rfl) (by kernel_rfl) (fun _ _ _ h => h) (Or.inl ⟨by kernel_rfl, ?hy6qxyp⟩) (by assumption) ?rest6qxyp
        case hy6qxyp => ((intro wS hSw); (obtain ⟨x0, x1, x2, x3, x4⟩ := hSw.hx.cells); (obtain ⟨a0, a1, a2, a3⟩ := hSw.hy.cells); (try dsimp only at hSw); (go_simp); (try with_reducible rfl))
        change wpAnyH _ _ _ _ _ _ _ (Act.put _ (some 32) _) _
        (try simp only [Act.put]); (try simp only [List.setIfInBounds_toArray]); (try simp only [List.set_cons_zero]); (try simp only [List.set_cons_succ])
        refine wpAnyH_take (i := 7) (v := ?v7qxyp) rfl (by kernel_rfl) (by kernel_rfl) (by kernel_rfl) (fun _ _ _ h => h) (Or.inl ⟨by kernel_rfl, ?hy7qxyp⟩) (by assumption) ?rest7qxyp
        case hy7qxyp => ((intro wS hSw); (obtain ⟨x0, x1, x2, x3, x4⟩ := hSw.hx.cells); (obtain ⟨a0, a1, a2, a3⟩ := hSw.hy.cells); (try dsimp only at hSw); (go_simp); (try with_reducible rfl))
        change wpAnyH _ _ _ _ _ _ _ (Act.put _ (some 33) _) _
        (try simp only [Act.put]); (try simp only [List.setIfInBounds_toArray]); (try simp only [List.set_cons_zero]); (try simp only [List.set_cons_succ])
        refine wpAnyH_ready (rs := [9]) (by kernel_rfl) (by simp) (AllReadyH.cons rfl (fun K hK => ?_) AllReadyH.nil)
        obtain ⟨n0, n1, n2, n3, n4⟩ := HN.out.cells
        have nf := HN.out.frozen
        have nl := HN.out.lt
        rw [if_pos (by kernel_rfl)]
        go_simp
        rw [← hnb] at HN ⊢
        have hLb := HLb.out
        have HNX := hide (HN.out.setAll (.string R.ro) (.int .i64 R.k) (.string R.fr) (.int .i64 R.ix) (.slice wa R.kids.len wc))
        have HO := hide (ow_set5 HO.out (nb := nb) (fun x hx => (HG.out x hx).2) (.string R.ro) (.int .i64 R.k) (.string R.fr) (.int .i64 R.ix) (.slice wa R.kids.len wc))
        have HW := hide (HW.out.set5 (nb := nb) (by have := HL4.out; omega) (.string R.ro) (.int .i64 R.k) (.string R.fr) (.int .i64 R.ix) (.slice wa R.kids.len wc))
        refine hK.out _ _ ?_ (fun hHeld => ?_)
        · exact HW.out
        clear hK K n0 n1 n2 n3 n4 nf nl
        (try simp only [Act.put]); (try simp only [List.setIfInBounds_toArray]); (try simp only [List.set_cons_zero]); (try simp only [List.set_cons_succ])
        refine wpAnyH_take (i := 10) (v := ?v10qxyz) rfl (by kernel_rfl) (by kernel_rfl) (by kernel_rfl) (fun _ _ _ h => h) (Or.inl ⟨by kernel_rfl, ?hy10qxyz⟩) (by assumption) ?rest10qxyz
        case hy10qxyz => ((intro wS hSw); (obtain ⟨x0, x1, x2, x3, x4⟩ := hSw.hx.cells); (obtain ⟨a0, a1, a2, a3⟩ := hSw.hy.cells); (try dsimp only at hSw); (go_simp); (try with_reducible rfl))
        change wpAnyH _ _ _ _ _ _ _ (Act.put _ (some 7) _) _
        (try simp only [Act.put]); (try simp only [List.setIfInBounds_toArray]); (try simp only [List.set_cons_zero]); (try simp only [List.set_cons_succ])
        refine wpAnyH_done (by kernel_rfl) ?_ _
        clear hHeld HN HLe
        generalize (((((wk3.setCell ⟨nb, 0, none⟩ (.string R.ro)).setCell ⟨nb, 1, none⟩ (.int .i64 R.k)).setCell ⟨nb, 2, none⟩ (.string R.fr)).setCell ⟨nb, 3, none⟩ (.int .i64 R.ix)).setCell ⟨nb, 4, none⟩ (.slice wa R.kids.len wc)) = X at *
        refine key.out nb ua uc wa wc _ ⟨X.heap.size, bs, HW.out, ⟨HNX.out, HO.out, fun x hx => ⟨(HG.out x hx).1, HO.out.lt x hx, (HG.out x hx).2⟩, HND.out, HLb.out, HNX.out.lt⟩, Nat.le_refl _⟩
    case' kbq =>
      rw [if_pos (by kernel_rfl)]
      go_simp
      (obtain ⟨nb, hnb⟩ : ∃ nb, nb = w2.heap.size := ⟨_, rfl⟩); (have HLb := hide (show L4 ≤ nb by rw [hnb]; exact HLe.out)); (have HN := hide (show Ne.Box5 (w2.alloc (.cells #[.string ⟨#[]⟩, .int .i64 0, .string ⟨#[]⟩, .int .i64 0, .slice none 0 0] ( /- t -/ 35))).drew w2.heap.size (.string ⟨#[]⟩) (.int .i64 0) (.string ⟨#[]⟩) (.int .i64 0) (.slice none 0 0) from Ne.Box5.now w2.drew _ _ _ _ _ _)); (have HW := hide (HW.out.below (show Below w2.drew.heap.size w2.drew (w2.alloc (.cells #[.string ⟨#[]⟩, .int .i64 0, .string ⟨#[]⟩, .int .i64 0, .slice none 0 0] ( /- t -/ 35))).drew from alloc_below w2.drew (.cells #[.string ⟨#[]⟩, .int .i64 0, .string ⟨#[]⟩, .int .i64 0, .slice none 0 0] ( /- t -/ 35))))); (have HLe := hide (Nat.le_trans HLe.out (show Below w2.drew.heap.size w2.drew (w2.alloc (.cells #[.string ⟨#[]⟩, .int .i64 0, .string ⟨#[]⟩, .int .i64 0, .slice none 0 0] ( /- t -/ 35))).drew from alloc_below w2.drew (.cells #[.string ⟨#[]⟩, .int .i64 0, .string ⟨#[]⟩, .int .i64 0, .slice none 0 0] ( /- t -/ 35))).size))
      refine hK.out _ _ ?_ (fun hHeld => ?_)
      · exact HW.out
      clear hK K
      (try simp only [Act.put]); (try simp only [List.setIfInBounds_toArray]); (try simp only [List.set_cons_zero]); (try simp only [List.set_cons_succ])
      refine wpAnyH_ready (rs := [1]) (by kernel_rfl) (by simp) (AllReadyH.cons rfl (fun K hK => ?_) AllReadyH.nil)
      rw [if_pos (by kernel_rfl)]
      go_simp
      go_at_call 7; (with_reducible refine (Ne.to_mon m.kids _ m.ro m.k m.ix m.fr sv (HS.out.still (Still.of_below HW.out.hb)) HN0.out.1).mono ?_); rintro e wk1 ⟨u, us, rfl, how, -, -, hb⟩; (obtain ⟨ua, uc, rfl⟩ := how.val); (have HU := hide how.sl); (have HW := hide (HW.out.below hb)); (have HN := hide (HN.out.below hb)); (have HLe := hide (Nat.le_trans HLe.out hb.size)); clear hb how
      refine hK.out _ _ ?_ (fun hHeld => ?_)
      · exact HW.out
      clear hK K
      (try simp only [Act.put]); (try simp only [List.setIfInBounds_toArray]); (try simp only [List.set_cons_zero]); (try simp only [List.set_cons_succ])
      refine wpAnyH_ready (rs := [3]) (by kernel_rfl) (by simp) (AllReadyH.cons rfl (fun K hK => ?_) AllReadyH.nil)
      rw [if_pos (by kernel_rfl)]
      go_simp
      go_at_call 8; (with_reducible refine (Ne.toAct _ a.r a.p a.l a.rc).mono ?_); rintro e wk2 ⟨rfl, hb⟩; (have HU := hide (HU.out.still (Still.of_below hb))); (have HW := hide (HW.out.below hb)); (have HN := hide (HN.out.below hb)); (have HLe := hide (Nat.le_trans HLe.out hb.size)); clear hb
      refine hK.out _ _ ?_ (fun hHeld => ?_)
      · exact HW.out
      clear hK K
      (try simp only [Act.put]); (try simp only [List.setIfInBounds_toArray]); (try simp only [List.set_cons_zero]); (try simp only [List.set_cons_succ])
      refine wpAnyH_ready (rs := [4]) (by kernel_rfl) (by simp) (AllReadyH.cons rfl (fun K hK => ?_) AllReadyH.nil)
      rw [if_pos (by kernel_rfl)]
      go_simp
      (have HNL := hide (show nb < _ from by rw [hnb]; exact HN.out.lt)); go_at_call 6; (with_reducible refine (specObs _ m a _ _ HU.out HF.out HN0.out.2).mono ?_); (rw [← HR.out, ← HOK.out]); rintro e wk3 ⟨wu, bs, rfl, how, hge, hnd, hb⟩; (obtain ⟨wa, wc, rfl⟩ := how.val); (have HG := hide (fun x (hx : x ∈ bs) => (show L4 ≤ x ∧ x ≠ nb by have h1 := hge x hx; have h2 := HLe.out; have h3 := HNL.out; first | exact ⟨Nat.le_trans h2 h1, by omega⟩ | exact Nat.le_trans h2 h1))); (have HO := hide how); (have HND := hide hnd); (have HW := hide (HW.out.below hb)); (have HN := hide (HN.out.below hb)); (have HLe := hide (Nat.le_trans HLe.out hb.size)); clear hb hge how hnd
      refine hK.out _ _ ?_ (fun hHeld => ?_)
      · exact HW.out
      clear hK K
      (try simp only [Act.put]); (try simp only [List.setIfInBounds_toArray]); (try simp only [List.set_cons_zero]); (try simp only [List.set_cons_succ])
      refine wpAnyH_take (i := 5) (v := ?v5qyp) rfl (by kernel_rfl) (by kernel_rfl) (by kernel_rfl) (fun _ _ _ h => h) (Or.inl ⟨by kernel_rfl, ?hy5qyp⟩) (by assumption) ?rest5qyp
      case hy5qyp => ((intro wS hSw); (obtain ⟨x0, x1, x2, x3, x4⟩ := hSw.hx.cells); (obtain ⟨a0, a1, a2, a3⟩ := hSw.hy.cells); (try dsimp only at hSw); (go_simp); (try with_reducible rfl))
      change wpAnyH _ _ _ _ _ _ _ (Act.put _ (some 26) _) _
      (try simp only [Act.put]); (try simp only [List.setIfInBounds_toArray]); (try simp only [List.set_cons_zero]); (try simp only [List.set_cons_succ])
      refine wpAnyH_take (i := 6) (v := ?v6qyp) rfl (by kernel_rfl) (by kernel_rfl) (by kernel_rfl) (fun _ _ _ h => h) (Or.inl ⟨by kernel_rfl, ?hy6qyp⟩) (by assumption) ?rest6qyp
      case hy6qyp => ((intro wS hSw); (obtain ⟨x0, x1, x2, x3, x4⟩ := hSw.hx.cells); (obtain ⟨a0, a1, a2, a3⟩ := hSw.hy.cells); (try dsimp only at hSw); (go_simp); (try with_reducible rfl))
      change wpAnyH _ _ _ _ _ _ _ (Act.put _ (some 32) _) _
      (try simp only [Act.put]); (try simp only [List.setIfInBounds_toArray]); (try simp only [List.set_cons_zero]); (try simp only [List.set_cons_succ])
      refine wpAnyH_take (i := 7) (v := ?v7qyp) rfl (by kernel_rfl) (by kernel_rfl) (by kernel_rfl) (fun _ _ _ h => h) (Or.inl ⟨by kernel_rfl, ?hy7qyp⟩) (by assumption) ?rest7qyp
      case hy7qyp => ((intro wS hSw); (obtain ⟨x0, x1, x2, x3, x4⟩ := hSw.hx.cells); (obtain ⟨a0, a1, a2, a3⟩ := hSw.hy.cells); (try dsimp only at hSw); (go_simp); (try with_reducible rfl))
      change wpAnyH _ _ _ _ _ _ _ (Act.put _ (some 33) _) _
      (try simp only [Act.put]); (try simp only [List.setIfInBounds_toArray]); (try simp only [List.set_cons_zero]); (try simp only [List.set_cons_succ])
      refine wpAnyH_ready (rs := [9]) (by kernel_rfl) (by simp) (AllReadyH.cons rfl (fun K hK => ?_) AllReadyH.nil)
      obtain ⟨n0, n1, n2, n3, n4⟩ := HN.out.cells
      have nf := HN.out.frozen
      have nl := HN.out.lt
      rw [if_pos (by kernel_rfl)]
      go_simp
      rw [← hnb] at HN ⊢
      have hLb := HLb.out
      have HNX := hide (HN.out.setAll (.string R.ro) (.int .i64 R.k) (.string R.fr) (.int .i64 R.ix) (.slice wa R.kids.len wc))
      have HO := hide (ow_set5 HO.out (nb := nb) (fun x hx => (HG.out x hx).2) (.string R.ro) (.int .i64 R.k) (.string R.fr) (.int .i64 R.ix) (.slice wa R.kids.len wc))
      have HW := hide (HW.out.set5 (nb := nb) (by have := HL4.out; omega) (.string R.ro) (.int .i64 R.k) (.string R.fr) (.int .i64 R.ix) (.slice wa R.kids.len wc))
      refine hK.out _ _ ?_ (fun hHeld => ?_)
      · exact HW.out
      clear hK K n0 n1 n2 n3 n4 nf nl
      (try simp only [Act.put]); (try simp only [List.setIfInBounds_toArray]); (try simp only [List.set_cons_zero]); (try simp only [List.set_cons_succ])
      refine wpAnyH_take (i := 10) (v := ?v10qyz) rfl (by kernel_rfl) (by kernel_rfl) (by kernel_rfl) (fun _ _ _ h => h) (Or.inl ⟨by kernel_rfl, ?hy10qyz⟩) (by assumption) ?rest10qyz
      case hy10qyz => ((intro wS hSw); (obtain ⟨x0, x1, x2, x3, x4⟩ := hSw.hx.cells); (obtain ⟨a0, a1, a2, a3⟩ := hSw.hy.cells); (try dsimp only at hSw); (go_simp); (try with_reducible rfl))
      change wpAnyH _ _ _ _ _ _ _ (Act.put _ (some 7) _) _
      (try simp only [Act.put]); (try simp only [List.setIfInBounds_toArray]); (try simp only [List.set_cons_zero]); (try simp only [List.set_cons_succ])
      refine wpAnyH_done (by kernel_rfl) ?_ _
      clear hHeld HN HLe
      generalize (((((wk3.setCell ⟨nb, 0, none⟩ (.string R.ro)).setCell ⟨nb, 1, none⟩ (.int .i64 R.k)).setCell ⟨nb, 2, none⟩ (.string R.fr)).setCell ⟨nb, 3, none⟩ (.int .i64 R.ix)).setCell ⟨nb, 4, none⟩ (.slice wa R.kids.len wc)) = X at *
      refine key.out nb ua uc wa wc _ ⟨X.heap.size, bs, HW.out, ⟨HNX.out, HO.out, fun x hx => ⟨(HG.out x hx).1, HO.out.lt x hx, (HG.out x hx).2⟩, HND.out, HLb.out, HNX.out.lt⟩, Nat.le_refl _⟩
  obtain ⟨hi4, wbs, hW, hT, hh4⟩ := hF
  have HW := hide hW
  have HT4 := hide hT
  clear hW hT
  refine HKK.out _ _ ?_
  clear HKK
  obtain ⟨x0, x1, x2, x3, x4⟩ := HW.out.hx.cells
  have xl := HW.out.hx.lt
  obtain ⟨a0, a1, a2, a3⟩ := HW.out.hy.cells
  have al := HW.out.hy.lt
  go_wp2_with fail
  clear x0 x1 x2 x3 x4 xl a0 a1 a2 a3 al
  refine (Ne.to_mon m.kids W' m.ro m.k m.ix m.fr sv (HS.out.still (Still.of_below HW.out.hb)) HN0.out.1).mono ?_
  rintro e w6 ⟨xu, xbs, rfl, how, hge, hnd, hb⟩
  obtain ⟨xa, xc, rfl⟩ := how.val
  have HW := hide (HW.out.below hb)
  have HT4 := hide (HT4.out.below hb)
  have hbA := alloc_below w6 (.cells #[.string m.ro, .int .i64 m.k, .string m.fr, .int .i64 m.ix, .slice xa m.kids.len xc] ( /- t -/ 35))
  have HW := hide (HW.out.below hbA)
  have HT4 := hide (HT4.out.below hbA)
  have HT6 := hide (LoX.now (R := m) (t := ( /- t -/ 35)) how (lo := W'.heap.size) hge hnd hb.size)
  have h46 : L4 ≤ W'.heap.size := by have := HT4.out.hlo; have := HT4.out.hhi; omega
  have h63 := hb.size
  obtain ⟨N6, hN6⟩ : ∃ N6, N6 = w6.heap.size := ⟨_, rfl⟩
  obtain ⟨L6, hL6⟩ : ∃ L6, L6 = W'.heap.size := ⟨_, rfl⟩
  obtain ⟨L7, hL7⟩ : ∃ L7, L7 = N6 + 1 := ⟨_, rfl⟩
  clear hb hbA how hge hnd
  obtain ⟨x0, x1, x2, x3, x4⟩ := HW.out.hx.cells
  have xl := HW.out.hx.lt
  obtain ⟨a0, a1, a2, a3⟩ := HW.out.hy.cells
  have al := HW.out.hy.lt
  obtain ⟨z0, z1, z2, z3, z4⟩ := HT6.out.hx.cells
  have zl := HT6.out.hx.lt
  go_wp2_with fail
  rename_i KK hKK
  have HKK := hide hKK
  clear hKK
  rw [← hN6, ← hL6, ← hL7] at HT6
  rw [← hN6]
  clear x0 x1 x2 x3 x4 xl a0 a1 a2 a3 al z0 z1 z2 z3 z4 zl
  generalize hV5 : w6.alloc (.cells #[.string m.ro, .int .i64 m.k, .string m.fr, .int .i64 m.ix, .slice xa m.kids.len xc] ( /- t -/ 35)) = V5 at *
  have hs5 : V5.heap.size = L7 := by rw [hL7, ← hV5, hN6]; simp
  have HL6 := hide (show w.heap.size + 1 < L6 ∧ hi4 ≤ L6 ∧ L6 ≤ L7 by have := HL4.out; omega)
  clear hV5 hN6 hL6 hL7 h63 h46 hh4
  have HLe := hide (show L7 ≤ V5.drew.heap.size from Nat.le_of_eq hs5.symm)
  clear hs5
  have HW := hide (HW.out.below (wj := V5.drew) (Below.refl _ _).drew)
  have HT4 := hide (HT4.out.below (wj := V5.drew) (Below.refl _ _).drew)
  have HT6 := hide (HT6.out.below (wj := V5.drew) (Below.refl _ _).drew)
  refine' cut3 (K := KK) (fun n7 ga gc V7 => ∃ hi bs, LoA w V7 m a sv ∧ LoX V7 R R.kids (.slice ga R.kids.len gc) L7 hi n7 bs ∧ hi ≤ V7.heap.size ∧ LoX V7 R R.kids (.slice wa R.kids.len wc) L4 hi4 nb wbs ∧ LoX V7 m m.kids (.slice xa m.kids.len xc) L6 L7 N6 xbs) (fun key => ?_) (fun n7 ga gc V7 hF => ?_)
  rotate_left
  · have key := hide key
    refine wp_region_held_drew (S := (fun w' => LoA w w' m a sv ∧ LoX w' m m.kids (.slice xa m.kids.len xc) L6 L7 N6 xbs)) (by kernel_rfl) ?_ (fun hHeld => ?_)
    · exact ⟨HW.out, HT6.out⟩
    refine wpAnyH_take (i := 0) (v := ?v0r) rfl (by kernel_rfl) (by kernel_rfl) (by kernel_rfl) (fun _ _ _ h => h) (Or.inl ⟨by kernel_rfl, ?hy0r⟩) (by assumption) ?rest0r
    case hy0r => ((intro wS hSw); (obtain ⟨a0, a1, a2, a3⟩ := hSw.1.hy.cells); (obtain ⟨z0, z1, z2, z3, z4⟩ := hSw.2.hx.cells); (try dsimp only at hSw); (go_simp); (try with_reducible rfl))
    change wpAnyH _ _ _ _ _ _ _ (Act.put _ (some 37) _) _
    (try simp only [Act.put]); (try simp only [List.setIfInBounds_toArray]); (try simp only [List.set_cons_zero]); (try simp only [List.set_cons_succ])
    refine wpAnyH_take (i := 1) (v := ?v1r) rfl (by kernel_rfl) (by kernel_rfl) (by kernel_rfl) (fun _ _ _ h => h) (Or.inl ⟨by kernel_rfl, ?hy1r⟩) (by assumption) ?rest1r
    case hy1r => ((intro wS hSw); (obtain ⟨a0, a1, a2, a3⟩ := hSw.1.hy.cells); (obtain ⟨z0, z1, z2, z3, z4⟩ := hSw.2.hx.cells); (try dsimp only at hSw); (go_simp); (try with_reducible rfl))
    change wpAnyH _ _ _ _ _ _ _ (Act.put _ (some 38) _) _
    (try simp only [Act.put]); (try simp only [List.setIfInBounds_toArray]); (try simp only [List.set_cons_zero]); (try simp only [List.set_cons_succ])
    refine wpAnyH_ready (rs := [2, 7]) (by kernel_rfl) (by simp) (AllReadyH.cons rfl (fun K hK => ?kar) (AllReadyH.cons rfl (fun K hK => ?kbr) AllReadyH.nil))
    case' kar =>
      rw [if_pos (by kernel_rfl)]
      go_simp
      go_at_call 8; (with_reducible refine (Ne.toAct _ a.r a.p a.l a.rc).mono ?_); rintro e wk1 ⟨rfl, hb⟩; (have HW := hide (HW.out.below hb)); (have HT4 := hide (HT4.out.below hb)); (have HT6 := hide (HT6.out.below hb)); (have HLe := hide (Nat.le_trans HLe.out hb.size)); clear hb
      refine hK.out _ _ ?_ (fun hHeld => ?_)
      · exact ⟨HW.out, HT6.out⟩
      clear hK K
      (try simp only [Act.put]); (try simp only [List.setIfInBounds_toArray]); (try simp only [List.set_cons_zero]); (try simp only [List.set_cons_succ])
      refine wpAnyH_ready (rs := [3, 7]) (by kernel_rfl) (by simp) (AllReadyH.cons rfl (fun K hK => ?karx) (AllReadyH.cons rfl (fun K hK => ?kbrx) AllReadyH.nil))
      case' karx =>
        rw [if_pos (by kernel_rfl)]
        go_simp
        go_at_call 9; (have E1 := Still.of_below HW.out.hb _ _ HE1.out); (have E2 := Still.of_below HW.out.hb _ _ HE2.out); (with_reducible refine (implObs _ m a _ _ HT6.out.ho.sl T1 T2 v1 v2 E1 E2).mono ?_); (rw [← HR.out, ← HOK.out]); rintro e wk2 ⟨wu, bs, rfl, how, hge, hnd, hb⟩; (obtain ⟨ga, gc, rfl⟩ := how.val); clear E1 E2; (have HG := hide (fun x (hx : x ∈ bs) => (show L7 ≤ x by have h1 := hge x hx; have h2 := HLe.out; first | exact ⟨Nat.le_trans h2 h1, by omega⟩ | exact Nat.le_trans h2 h1))); (have HO := hide how); (have HND := hide hnd); (have HW := hide (HW.out.below hb)); (have HT4 := hide (HT4.out.below hb)); (have HT6 := hide (HT6.out.below hb)); (have HLe := hide (Nat.le_trans HLe.out hb.size)); clear hb hge how hnd
        refine hK.out _ _ ?_ (fun hHeld => ?_)
        · exact ⟨HW.out, HT6.out⟩
        clear hK K
        (try simp only [Act.put]); (try simp only [List.setIfInBounds_toArray]); (try simp only [List.set_cons_zero]); (try simp only [List.set_cons_succ])
        refine wpAnyH_take (i := 4) (v := ?v4rxp) rfl (by kernel_rfl) (by kernel_rfl) (by kernel_rfl) (fun _ _ _ h => h) (Or.inl ⟨by kernel_rfl, ?hy4rxp⟩) (by assumption) ?rest4rxp
        case hy4rxp => ((intro wS hSw); (obtain ⟨a0, a1, a2, a3⟩ := hSw.1.hy.cells); (obtain ⟨z0, z1, z2, z3, z4⟩ := hSw.2.hx.cells); (try dsimp only at hSw); (go_simp); (try with_reducible rfl))
        change wpAnyH _ _ _ _ _ _ _ (Act.put _ (some 36) _) _
        (try simp only [Act.put]); (try simp only [List.setIfInBounds_toArray]); (try simp only [List.set_cons_zero]); (try simp only [List.set_cons_succ])
        refine wpAnyH_take (i := 5) (v := ?v5rxp) rfl (by kernel_rfl) (by kernel_rfl) (by kernel_rfl) (fun _ _ _ h => h) (Or.inl ⟨by kernel_rfl, ?hy5rxp⟩) (by assumption) ?rest5rxp
        case hy5rxp => ((intro wS hSw); (obtain ⟨a0, a1, a2, a3⟩ := hSw.1.hy.cells); (obtain ⟨z0, z1, z2, z3, z4⟩ := hSw.2.hx.cells); (try dsimp only at hSw); (go_simp); (try with_reducible rfl))
        change wpAnyH _ _ _ _ _ _ _ (Act.put _ (some 41) _) _
        (try simp only [Act.put]); (try simp only [List.setIfInBounds_toArray]); (try simp only [List.set_cons_zero]); (try simp only [List.set_cons_succ])
        refine wpAnyH_take (i := 6) (v := ?v6rxp) rfl (by kernel_rfl) (by kernel_rfl) (by kernel_rfl) (fun _ _ _ h => h) (Or.inl ⟨by kernel_rfl, ?hy6rxp⟩) (by assumption) ?rest6rxp
        case hy6rxp => ((intro wS hSw); (obtain ⟨a0, a1, a2, a3⟩ := hSw.1.hy.cells); (obtain ⟨z0, z1, z2, z3, z4⟩ := hSw.2.hx.cells); (try dsimp only at hSw); (go_simp); (try with_reducible rfl))
        change wpAnyH _ _ _ _ _ _ _ (Act.put _ (some 42) _) _
        (try simp only [Act.put]); (try simp only [List.setIfInBounds_toArray]); (try simp only [List.set_cons_zero]); (try simp only [List.set_cons_succ])
        refine wpAnyH_ready (rs := [7]) (by kernel_rfl) (by simp) (AllReadyH.cons rfl (fun K hK => ?_) AllReadyH.nil)
        rw [if_pos (by kernel_rfl)]
        go_simp
        (obtain ⟨n7, hnb⟩ : ∃ n7, n7 = wk2.heap.size := ⟨_, rfl⟩); (have HLb := hide (show L7 ≤ n7 by rw [hnb]; exact HLe.out)); (have HWB := HW); (have HT4B := HT4); (have HT6B := HT6); (have HOB := HO); (have HOL := hide HO.out.lt); (have HN := hide (Ne.Box5.now wk2 (.string ⟨#[]⟩) (.int .i64 0) (.string ⟨#[]⟩) (.int .i64 0) (.slice none 0 0) ( /- t -/ 35))); (have HW := hide (HW.out.below (alloc_below wk2 (.cells #[.string ⟨#[]⟩, .int .i64 0, .string ⟨#[]⟩, .int .i64 0, .slice none 0 0] ( /- t -/ 35))))); (have HT4 := hide (HT4.out.below (alloc_below wk2 (.cells #[.string ⟨#[]⟩, .int .i64 0, .string ⟨#[]⟩, .int .i64 0, .slice none 0 0] ( /- t -/ 35))))); (have HT6 := hide (HT6.out.below (alloc_below wk2 (.cells #[.string ⟨#[]⟩, .int .i64 0, .string ⟨#[]⟩, .int .i64 0, .slice none 0 0] ( /- t -/ 35))))); (have HLe := hide (Nat.le_trans HLe.out (alloc_below wk2 (.cells #[.string ⟨#[]⟩, .int .i64 0, .string ⟨#[]⟩, .int .i64 0, .slice none 0 0] ( /- t -/ 35))).size))
        refine hK.out _ _ ?_ (fun hHeld => ?_)
        · exact ⟨HW.out, HT6.out⟩
        clear hK K
        (try simp only [Act.put]); (try simp only [List.setIfInBounds_toArray]); (try simp only [List.set_cons_zero]); (try simp only [List.set_cons_succ])
        refine wpAnyH_ready (rs := [8]) (by kernel_rfl) (by simp) (AllReadyH.cons rfl (fun K hK => ?_) AllReadyH.nil)
        rw [if_pos (by kernel_rfl)]
        go_simp
        rw [← hnb]
        have HNX := hide (Ne.Box5.now wk2 (.string R.ro) (.int .i64 R.k) (.string R.fr) (.int .i64 R.ix) (.slice ga R.kids.len gc) ( /- t -/ 35))
        rw [← hnb] at HNX
        have HG := hide (fun x (hx : x ∈ bs) => And.intro (HG.out x hx) (show x ≠ n7 by rw [hnb]; exact Nat.ne_of_lt (HOL.out x hx)))
        have HO := hide (HOB.out.same (Same.of_below (alloc_below wk2 (.cells #[.string R.ro, .int .i64 R.k, .string R.fr, .int .i64 R.ix, .slice ga R.kids.len gc] ( /- t -/ 35))) HOB.out.lt))
        have HW := hide (HWB.out.below (alloc_below wk2 (.cells #[.string R.ro, .int .i64 R.k, .string R.fr, .int .i64 R.ix, .slice ga R.kids.len gc] ( /- t -/ 35))))
        have HT4 := hide (HT4B.out.below (alloc_below wk2 (.cells #[.string R.ro, .int .i64 R.k, .string R.fr, .int .i64 R.ix, .slice ga R.kids.len gc] ( /- t -/ 35))))
        have HT6 := hide (HT6B.out.below (alloc_below wk2 (.cells #[.string R.ro, .int .i64 R.k, .string R.fr, .int .i64 R.ix, .slice ga R.kids.len gc] ( /- t -/ 35))))
        refine hK.out _ _ ?_ (fun hHeld => ?_)
        · exact ⟨HW.out, HT6.out⟩
        clear hK K
        (try simp only [Act.put]); (try simp only [List.setIfInBounds_toArray]); (try simp only [List.set_cons_zero]); (try simp only [List.set_cons_succ])
        refine wpAnyH_take (i := 9) (v := ?v9rxxz) rfl (by kernel_rfl) (by kernel_rfl) (by kernel_rfl) (fun _ _ _ h => h) (Or.inl ⟨by kernel_rfl, ?hy9rxxz⟩) (by assumption) ?rest9rxxz
        case hy9rxxz => ((intro wS hSw); (obtain ⟨a0, a1, a2, a3⟩ := hSw.1.hy.cells); (obtain ⟨z0, z1, z2, z3, z4⟩ := hSw.2.hx.cells); (try dsimp only at hSw); (go_simp); (try with_reducible rfl))
        change wpAnyH _ _ _ _ _ _ _ (Act.put _ (some 10) _) _
        (try simp only [Act.put]); (try simp only [List.setIfInBounds_toArray]); (try simp only [List.set_cons_zero]); (try simp only [List.set_cons_succ])
        refine wpAnyH_done (by kernel_rfl) ?_ _
        clear hHeld HN HLe HOB HOL HWB HT4B HT6B
        generalize wk2.alloc (.cells #[.string R.ro, .int .i64 R.k, .string R.fr, .int .i64 R.ix, .slice ga R.kids.len gc] ( /- t -/ 35)) = X at *
        refine key.out n7 ga gc _ ⟨X.heap.size, bs, HW.out, ⟨HNX.out, HO.out, fun x hx => ⟨(HG.out x hx).1, HO.out.lt x hx, (HG.out x hx).2⟩, HND.out, HLb.out, HNX.out.lt⟩, Nat.le_refl _, HT4.out, HT6.out⟩
      case' kbrx =>
        rw [if_pos (by kernel_rfl)]
        go_simp
        (obtain ⟨n7, hnb⟩ : ∃ n7, n7 = wk1.heap.size := ⟨_, rfl⟩); (have HLb := hide (show L7 ≤ n7 by rw [hnb]; exact HLe.out)); (have HN := hide (Ne.Box5.now wk1 (.string ⟨#[]⟩) (.int .i64 0) (.string ⟨#[]⟩) (.int .i64 0) (.slice none 0 0) ( /- t -/ 35))); (have HW := hide (HW.out.below (alloc_below wk1 (.cells #[.string ⟨#[]⟩, .int .i64 0, .string ⟨#[]⟩, .int .i64 0, .slice none 0 0] ( /- t -/ 35))))); (have HT4 := hide (HT4.out.below (alloc_below wk1 (.cells #[.string ⟨#[]⟩, .int .i64 0, .string ⟨#[]⟩, .int .i64 0, .slice none 0 0] ( /- t -/ 35))))); (have HT6 := hide (HT6.out.below (alloc_below wk1 (.cells #[.string ⟨#[]⟩, .int .i64 0, .string ⟨#[]⟩, .int .i64 0, .slice none 0 0] ( /- t -/ 35))))); (have HLe := hide (Nat.le_trans HLe.out (alloc_below wk1 (.cells #[.string ⟨#[]⟩, .int .i64 0, .string ⟨#[]⟩, .int .i64 0, .slice none 0 0] ( /- t -/ 35))).size))
        refine hK.out _ _ ?_ (fun hHeld => ?_)
        · exact ⟨HW.out, HT6.out⟩
        clear hK K
        (try simp only [Act.put]); (try simp only [List.setIfInBounds_toArray]); (try simp only [List.set_cons_zero]); (try simp only [List.set_cons_succ])
        refine wpAnyH_ready (rs := [3]) (by kernel_rfl) (by simp) (AllReadyH.cons rfl (fun K hK => ?_) AllReadyH.nil)
        rw [if_pos (by kernel_rfl)]
        go_simp
        (have HNL := hide (show n7 < _ from by rw [hnb]; exact HN.out.lt)); go_at_call 9; (have E1 := Still.of_below HW.out.hb _ _ HE1.out); (have E2 := Still.of_below HW.out.hb _ _ HE2.out); (with_reducible refine (implObs _ m a _ _ HT6.out.ho.sl T1 T2 v1 v2 E1 E2).mono ?_); (rw [← HR.out, ← HOK.out]); rintro e wk2 ⟨wu, bs, rfl, how, hge, hnd, hb⟩; (obtain ⟨ga, gc, rfl⟩ := how.val); clear E1 E2; (have HG := hide (fun x (hx : x ∈ bs) => (show L7 ≤ x ∧ x ≠ n7 by have h1 := hge x hx; have h2 := HLe.out; have h3 := HNL.out; first | exact ⟨Nat.le_trans h2 h1, by omega⟩ | exact Nat.le_trans h2 h1))); (have HO := hide how); (have HND := hide hnd); (have HW := hide (HW.out.below hb)); (have HT4 := hide (HT4.out.below hb)); (have HT6 := hide (HT6.out.below hb)); (have HN := hide (HN.out.below hb)); (have HLe := hide (Nat.le_trans HLe.out hb.size)); clear hb hge how hnd
        refine hK.out _ _ ?_ (fun hHeld => ?_)
        · exact ⟨HW.out, HT6.out⟩
        clear hK K
        (try simp only [Act.put]); (try simp only [List.setIfInBounds_toArray]); (try simp only [List.set_cons_zero]); (try simp only [List.set_cons_succ])
        refine wpAnyH_take (i := 4) (v := ?v4rxyp) rfl (by kernel_rfl) (by kernel_rfl) (by kernel_rfl) (fun _ _ _ h => h) (Or.inl ⟨by kernel_rfl, ?hy4rxyp⟩) (by assumption) ?rest4rxyp
        case hy4rxyp => ((intro wS hSw); (obtain ⟨a0, a1, a2, a3⟩ := hSw.1.hy.cells); (obtain ⟨z0, z1, z2, z3, z4⟩ := hSw.2.hx.cells); (try dsimp only at hSw); (go_simp); (try with_reducible rfl))
        change wpAnyH _ _ _ _ _ _ _ (Act.put _ (some 36) _) _
        (try simp only [Act.put]); (try simp only [List.setIfInBounds_toArray]); (try simp only [List.set_cons_zero]); (try simp only [List.set_cons_succ])
        refine wpAnyH_take (i := 5) (v := ?v5rxyp) rfl (by kernel_rfl) (by kernel_rfl) (by kernel_rfl) (fun _ _ _ h => h) (Or.inl ⟨by kernel_rfl, ?hy5rxyp⟩) (by assumption) ?rest5rxyp
        case hy5rxyp => ((intro wS hSw); (obtain ⟨a0, a1, a2, a3⟩ := hSw.1.hy.cells); (obtain ⟨z0, z1, z2, z3, z4⟩ := hSw.2.hx.cells); (try dsimp only at hSw); (go_simp); (try with_reducible rfl))
        change wpAnyH _ _ _ _ _ _ _ (Act.put _ (some 41) _) _
        (try simp only [Act.put]); (try simp only [List.setIfInBounds_toArray]); (try simp only [List.set_cons_zero]); (try simp only [List.set_cons_succ])
        refine wpAnyH_take (i := 6) (v := ?v6rxyp) rfl (by kernel_rfl) (by kernel_rfl) (by kernel_rfl) (fun _ _ _ h => h) (Or.inl ⟨by kernel_rfl, ?hy6rxyp⟩) (by assumption) ?rest6rxyp
        case hy6rxyp => ((intro wS hSw); (obtain ⟨a0, a1, a2, a3⟩ := hSw.1.hy.cells); (obtain ⟨z0, z1, z2, z3, z4⟩ := hSw.2.hx.cells); (try dsimp only at hSw); (go_simp); (try with_reducible rfl))
        change wpAnyH _ _ _ _ _ _ _ (Act.put _ (some 42) _) _
        (try simp only [Act.put]); (try simp only [List.setIfInBounds_toArray]); (try simp only [List.set_cons_zero]); (try simp only [List.set_cons_succ])
        refine wpAnyH_ready (rs := [8]) (by kernel_rfl) (by simp) (AllReadyH.cons rfl (fun K hK => ?_) AllReadyH.nil)
        obtain ⟨n0, n1, n2, n3, n4⟩ := HN.out.cells
        have nf := HN.out.frozen
        have nl := HN.out.lt
        rw [if_pos (by kernel_rfl)]
        go_simp
        rw [← hnb] at HN ⊢
        have hLb := HLb.out
        have HNX := hide (HN.out.setAll (.string R.ro) (.int .i64 R.k) (.string R.fr) (.int .i64 R.ix) (.slice ga R.kids.len gc))
        have HO := hide (ow_set5 HO.out (nb := n7) (fun x hx => (HG.out x hx).2) (.string R.ro) (.int .i64 R.k) (.string R.fr) (.int .i64 R.ix) (.slice ga R.kids.len gc))
        have HW := hide (HW.out.set5 (nb := n7) (by have := HL6.out; omega) (.string R.ro) (.int .i64 R.k) (.string R.fr) (.int .i64 R.ix) (.slice ga R.kids.len gc))
        have HT4 := hide (HT4.out.set5 (nb := n7) (by have := HL6.out; omega) (.string R.ro) (.int .i64 R.k) (.string R.fr) (.int .i64 R.ix) (.slice ga R.kids.len gc))
        have HT6 := hide (HT6.out.set5 (nb := n7) (by have := HL6.out; omega) (.string R.ro) (.int .i64 R.k) (.string R.fr) (.int .i64 R.ix) (.slice ga R.kids.len gc))
        refine hK.out _ _ ?_ (fun hHeld => ?_)
        · exact ⟨HW.out, HT6.out⟩
        clear hK K n0 n1 n2 n3 n4 nf nl
        (try simp only [Act.put]); (try simp only [List.setIfInBounds_toArray]); (try simp only [List.set_cons_zero]); (try simp only [List.set_cons_succ])
        refine wpAnyH_take (i := 9) (v := ?v9rxyz) rfl (by kernel_rfl) (by kernel_rfl) (by kernel_rfl) (fun _ _ _ h => h) (Or.inl ⟨by kernel_rfl, ?hy9rxyz⟩) (by assumption) ?rest9rxyz
        case hy9rxyz => ((intro wS hSw); (obtain ⟨a0, a1, a2, a3⟩ := hSw.1.hy.cells); (obtain ⟨z0, z1, z2, z3, z4⟩ := hSw.2.hx.cells); (try dsimp only at hSw); (go_simp); (try with_reducible rfl))
        change wpAnyH _ _ _ _ _ _ _ (Act.put _ (some 10) _) _
        (try simp only [Act.put]); (try simp only [List.setIfInBounds_toArray]); (try simp only [List.set_cons_zero]); (try simp only [List.set_cons_succ])
        refine wpAnyH_done (by kernel_rfl) ?_ _
        clear hHeld HN HLe
        generalize (((((wk2.setCell ⟨n7, 0, none⟩ (.string R.ro)).setCell ⟨n7, 1, none⟩ (.int .i64 R.k)).setCell ⟨n7, 2, none⟩ (.string R.fr)).setCell ⟨n7, 3, none⟩ (.int .i64 R.ix)).setCell ⟨n7, 4, none⟩ (.slice ga R.kids.len gc)) = X at *
        refine key.out n7 ga gc _ ⟨X.heap.size, bs, HW.out, ⟨HNX.out, HO.out, fun x hx => ⟨(HG.out x hx).1, HO.out.lt x hx, (HG.out x hx).2⟩, HND.out, HLb.out, HNX.out.lt⟩, Nat.le_refl _, HT4.out, HT6.out⟩
    case' kbr =>
      rw [if_pos (by kernel_rfl)]
      go_simp
      (obtain ⟨n7, hnb⟩ : ∃ n7, n7 = V5.heap.size := ⟨_, rfl⟩); (have HLb := hide (show L7 ≤ n7 by rw [hnb]; exact HLe.out)); (have HN := hide (show Ne.Box5 (V5.alloc (.cells #[.string ⟨#[]⟩, .int .i64 0, .string ⟨#[]⟩, .int .i64 0, .slice none 0 0] ( /- t -/ 35))).drew V5.heap.size (.string ⟨#[]⟩) (.int .i64 0) (.string ⟨#[]⟩) (.int .i64 0) (.slice none 0 0) from Ne.Box5.now V5.drew _ _ _ _ _ _)); (have HW := hide (HW.out.below (show Below V5.drew.heap.size V5.drew (V5.alloc (.cells #[.string ⟨#[]⟩, .int .i64 0, .string ⟨#[]⟩, .int .i64 0, .slice none 0 0] ( /- t -/ 35))).drew from alloc_below V5.drew (.cells #[.string ⟨#[]⟩, .int .i64 0, .string ⟨#[]⟩, .int .i64 0, .slice none 0 0] ( /- t -/ 35))))); (have HT4 := hide (HT4.out.below (show Below V5.drew.heap.size V5.drew (V5.alloc (.cells #[.string ⟨#[]⟩, .int .i64 0, .string ⟨#[]⟩, .int .i64 0, .slice none 0 0] ( /- t -/ 35))).drew from alloc_below V5.drew (.cells #[.string ⟨#[]⟩, .int .i64 0, .string ⟨#[]⟩, .int .i64 0, .slice none 0 0] ( /- t -/ 35))))); (have HT6 := hide (HT6.out.below (show Below V5.drew.heap.size V5.drew (V5.alloc (.cells #[.string ⟨#[]⟩, .int .i64 0, .string ⟨#[]⟩, .int .i64 0, .slice none 0 0] ( /- t -/ 35))).drew from alloc_below V5.drew (.cells #[.string ⟨#[]⟩, .int .i64 0, .string ⟨#[]⟩, .int .i64 0, .slice none 0 0] ( /- t -/ 35))))); (have HLe := hide (Nat.le_trans HLe.out (show Below V5.drew.heap.size V5.drew (V5.alloc (.cells #[.string ⟨#[]⟩, .int .i64 0, .string ⟨#[]⟩, .int .i64 0, .slice none 0 0] ( /- t -/ 35))).drew from alloc_below V5.drew (.cells #[.string ⟨#[]⟩, .int .i64 0, .string ⟨#[]⟩, .int .i64 0, .slice none 0 0] ( /- t -/ 35))).size))
      refine hK.out _ _ ?_ (fun hHeld => ?_)
      · exact ⟨HW.out, HT6.out⟩
      clear hK K
      (try simp only [Act.put]); (try simp only [List.setIfInBounds_toArray]); (try simp only [List.set_cons_zero]); (try simp only [List.set_cons_succ])
      refine wpAnyH_ready (rs := [2]) (by kernel_rfl) (by simp) (AllReadyH.cons rfl (fun K hK => ?_) AllReadyH.nil)
      rw [if_pos (by kernel_rfl)]
      go_simp
      go_at_call 8; (with_reducible refine (Ne.toAct _ a.r a.p a.l a.rc).mono ?_); rintro e wk1 ⟨rfl, hb⟩; (have HW := hide (HW.out.below hb)); (have HT4 := hide (HT4.out.below hb)); (have HT6 := hide (HT6.out.below hb)); (have HN := hide (HN.out.below hb)); (have HLe := hide (Nat.le_trans HLe.out hb.size)); clear hb
      refine hK.out _ _ ?_ (fun hHeld => ?_)
      · exact ⟨HW.out, HT6.out⟩
      clear hK K
      (try simp only [Act.put]); (try simp only [List.setIfInBounds_toArray]); (try simp only [List.set_cons_zero]); (try simp only [List.set_cons_succ])
      refine wpAnyH_ready (rs := [3]) (by kernel_rfl) (by simp) (AllReadyH.cons rfl (fun K hK => ?_) AllReadyH.nil)
      rw [if_pos (by kernel_rfl)]
      go_simp
      (have HNL := hide (show n7 < _ from by rw [hnb]; exact HN.out.lt)); go_at_call 9; (have E1 := Still.of_below HW.out.hb _ _ HE1.out); (have E2 := Still.of_below HW.out.hb _ _ HE2.out); (with_reducible refine (implObs _ m a _ _ HT6.out.ho.sl T1 T2 v1 v2 E1 E2).mono ?_); (rw [← HR.out, ← HOK.out]); rintro e wk2 ⟨wu, bs, rfl, how, hge, hnd, hb⟩; (obtain ⟨ga, gc, rfl⟩ := how.val); clear E1 E2; (have HG := hide (fun x (hx : x ∈ bs) => (show L7 ≤ x ∧ x ≠ n7 by have h1 := hge x hx; have h2 := HLe.out; have h3 := HNL.out; first | exact ⟨Nat.le_trans h2 h1, by omega⟩ | exact Nat.le_trans h2 h1))); (have HO := hide how); (have HND := hide hnd); (have HW := hide (HW.out.below hb)); (have HT4 := hide (HT4.out.below hb)); (have HT6 := hide (HT6.out.below hb)); (have HN := hide (HN.out.below hb)); (have HLe := hide (Nat.le_trans HLe.out hb.size)); clear hb hge how hnd
      refine hK.out _ _ ?_ (fun hHeld => ?_)
      · exact ⟨HW.out, HT6.out⟩
      clear hK K
      (try simp only [Act.put]); (try simp only [List.setIfInBounds_toArray]); (try simp only [List.set_cons_zero]); (try simp only [List.set_cons_succ])
      refine wpAnyH_take (i := 4) (v := ?v4ryp) rfl (by kernel_rfl) (by kernel_rfl) (by kernel_rfl) (fun _ _ _ h => h) (Or.inl ⟨by kernel_rfl, ?hy4ryp⟩) (by assumption) ?rest4ryp
      case hy4ryp => ((intro wS hSw); (obtain ⟨a0, a1, a2, a3⟩ := hSw.1.hy.cells); (obtain ⟨z0, z1, z2, z3, z4⟩ := hSw.2.hx.cells); (try dsimp only at hSw); (go_simp); (try with_reducible rfl))
      change wpAnyH _ _ _ _ _ _ _ (Act.put _ (some 36) _) _
      (try simp only [Act.put]); (try simp only [List.setIfInBounds_toArray]); (try simp only [List.set_cons_zero]); (try simp only [List.set_cons_succ])
      refine wpAnyH_take (i := 5) (v := ?v5ryp) rfl (by kernel_rfl) (by kernel_rfl) (by kernel_rfl) (fun _ _ _ h => h) (Or.inl ⟨by kernel_rfl, ?hy5ryp⟩) (by assumption) ?rest5ryp
      case hy5ryp => ((intro wS hSw); (obtain ⟨a0, a1, a2, a3⟩ := hSw.1.hy.cells); (obtain ⟨z0, z1, z2, z3, z4⟩ := hSw.2.hx.cells); (try dsimp only at hSw); (go_simp); (try with_reducible rfl))
      change wpAnyH _ _ _ _ _ _ _ (Act.put _ (some 41) _) _
      (try simp only [Act.put]); (try simp only [List.setIfInBounds_toArray]); (try simp only [List.set_cons_zero]); (try simp only [List.set_cons_succ])
      refine wpAnyH_take (i := 6) (v := ?v6ryp) rfl (by kernel_rfl) (by kernel_rfl) (by kernel_rfl) (fun _ _ _ h => h) (Or.inl ⟨by kernel_rfl, ?hy6ryp⟩) (by assumption) ?rest6ryp
      case hy6ryp => ((intro wS hSw); (obtain ⟨a0, a1, a2, a3⟩ := hSw.1.hy.cells); (obtain ⟨z0, z1, z2, z3, z4⟩ := hSw.2.hx.cells); (try dsimp only at hSw); (go_simp); (try with_reducible rfl))
      change wpAnyH _ _ _ _ _ _ _ (Act.put _ (some 42) _) _
      (try simp only [Act.put]); (try simp only [List.setIfInBounds_toArray]); (try simp only [List.set_cons_zero]); (try simp only [List.set_cons_succ])
      refine wpAnyH_ready (rs := [8]) (by kernel_rfl) (by simp) (AllReadyH.cons rfl (fun K hK => ?_) AllReadyH.nil)
      obtain ⟨n0, n1, n2, n3, n4⟩ := HN.out.cells
      have nf := HN.out.frozen
      have nl := HN.out.lt
      rw [if_pos (by kernel_rfl)]
      go_simp
      rw [← hnb] at HN ⊢
      have hLb := HLb.out
      have HNX := hide (HN.out.setAll (.string R.ro) (.int .i64 R.k) (.string R.fr) (.int .i64 R.ix) (.slice ga R.kids.len gc))
      have HO := hide (ow_set5 HO.out (nb := n7) (fun x hx => (HG.out x hx).2) (.string R.ro) (.int .i64 R.k) (.string R.fr) (.int .i64 R.ix) (.slice ga R.kids.len gc))
      have HW := hide (HW.out.set5 (nb := n7) (by have := HL6.out; omega) (.string R.ro) (.int .i64 R.k) (.string R.fr) (.int .i64 R.ix) (.slice ga R.kids.len gc))
      have HT4 := hide (HT4.out.set5 (nb := n7) (by have := HL6.out; omega) (.string R.ro) (.int .i64 R.k) (.string R.fr) (.int .i64 R.ix) (.slice ga R.kids.len gc))
      have HT6 := hide (HT6.out.set5 (nb := n7) (by have := HL6.out; omega) (.string R.ro) (.int .i64 R.k) (.string R.fr) (.int .i64 R.ix) (.slice ga R.kids.len gc))
      refine hK.out _ _ ?_ (fun hHeld => ?_)
      · exact ⟨HW.out, HT6.out⟩
      clear hK K n0 n1 n2 n3 n4 nf nl
      (try simp only [Act.put]); (try simp only [List.setIfInBounds_toArray]); (try simp only [List.set_cons_zero]); (try simp only [List.set_cons_succ])
      refine wpAnyH_take (i := 9) (v := ?v9ryz) rfl (by kernel_rfl) (by kernel_rfl) (by kernel_rfl) (fun _ _ _ h => h) (Or.inl ⟨by kernel_rfl, ?hy9ryz⟩) (by assumption) ?rest9ryz
      case hy9ryz => ((intro wS hSw); (obtain ⟨a0, a1, a2, a3⟩ := hSw.1.hy.cells); (obtain ⟨z0, z1, z2, z3, z4⟩ := hSw.2.hx.cells); (try dsimp only at hSw); (go_simp); (try with_reducible rfl))
      change wpAnyH _ _ _ _ _ _ _ (Act.put _ (some 10) _) _
      (try simp only [Act.put]); (try simp only [List.setIfInBounds_toArray]); (try simp only [List.set_cons_zero]); (try simp only [List.set_cons_succ])
      refine wpAnyH_done (by kernel_rfl) ?_ _
      clear hHeld HN HLe
      generalize (((((wk2.setCell ⟨n7, 0, none⟩ (.string R.ro)).setCell ⟨n7, 1, none⟩ (.int .i64 R.k)).setCell ⟨n7, 2, none⟩ (.string R.fr)).setCell ⟨n7, 3, none⟩ (.int .i64 R.ix)).setCell ⟨n7, 4, none⟩ (.slice ga R.kids.len gc)) = X at *
      refine key.out n7 ga gc _ ⟨X.heap.size, bs, HW.out, ⟨HNX.out, HO.out, fun x hx => ⟨(HG.out x hx).1, HO.out.lt x hx, (HG.out x hx).2⟩, HND.out, HLb.out, HNX.out.lt⟩, Nat.le_refl _, HT4.out, HT6.out⟩
  obtain ⟨hi7, gbs, hW, hT7, hh7, hT4, hT6⟩ := hF
  have HW := hide hW
  have HT4 := hide hT4
  have HT6 := hide hT6
  have HT7 := hide hT7
  clear hW hT4 hT6 hT7
  refine HKK.out _ _ ?_
  clear HKK
  obtain ⟨y0, y1, y2, y3, y4⟩ := HT4.out.hx.cells
  have yl := HT4.out.hx.lt
  obtain ⟨v0, v1, v2, v3, v4⟩ := HT7.out.hx.cells
  have vl := HT7.out.hx.lt
  go_wp2_with fail
  clear y0 y1 y2 y3 y4 yl v0 v1 v2 v3 v4 vl
  refine (Ne.eq_mon R.kids V7 R.ro R.k R.ix R.fr _ _ HT7.out.ho.sl HT4.out.ho.sl).mono ?_
  rintro e w8 ⟨rfl, hb⟩
  have hh7 := Nat.le_trans hh7 hb.size
  have HW := hide (HW.out.below hb)
  have HT4 := hide (HT4.out.below hb)
  have HT6 := hide (HT6.out.below hb)
  have HT7 := hide (HT7.out.below hb)
  clear hb
  obtain ⟨x0, x1, x2, x3, x4⟩ := HW.out.hx.cells
  have xl := HW.out.hx.lt
  obtain ⟨a0, a1, a2, a3⟩ := HW.out.hy.cells
  have al := HW.out.hy.lt
  obtain ⟨y0, y1, y2, y3, y4⟩ := HT4.out.hx.cells
  have yl := HT4.out.hx.lt
  obtain ⟨z0, z1, z2, z3, z4⟩ := HT6.out.hx.cells
  have zl := HT6.out.hx.lt
  obtain ⟨v0, v1, v2, v3, v4⟩ := HT7.out.hx.cells
  have vl := HT7.out.hx.lt
  go_wp2_with fail
  have hdr : Still w8 w8.drew := fun _ _ h => h
  have HSR := hide ((HS.out.still (Still.of_below HW.out.hb)).still hdr)
  clear hdr
  have HW := hide (HW.out.below (wj := w8.drew) (Below.refl _ _).drew)
  have HT4 := hide (HT4.out.below (wj := w8.drew) (Below.refl _ _).drew)
  have HT6 := hide (HT6.out.below (wj := w8.drew) (Below.refl _ _).drew)
  have HT7 := hide (HT7.out.below (wj := w8.drew) (Below.refl _ _).drew)
  clear xl a0 a1 a2 a3 al zl y0 y1 y2 y3 y4 yl v0 v1 v2 v3 v4 vl
  have HLE := hide hh7
  clear hh7
  go_region_held3 (fun w' => w'.cell? ⟨N6, 0, none⟩ = some (.string m.ro) ∧ w'.cell? ⟨N6, 1, none⟩ = some (.int .i64 m.k) ∧ w'.cell? ⟨N6, 2, none⟩ = some (.string m.fr) ∧ w'.cell? ⟨N6, 3, none⟩ = some (.int .i64 m.ix) ∧ w'.cell? ⟨N6, 4, none⟩ = some (.slice xa m.kids.len xc) ∧ w'.cell? ⟨w.heap.size, 0, none⟩ = some (.string m.ro) ∧ w'.cell? ⟨w.heap.size, 1, none⟩ = some (.int .i64 m.k) ∧ w'.cell? ⟨w.heap.size, 2, none⟩ = some (.string m.fr) ∧ w'.cell? ⟨w.heap.size, 3, none⟩ = some (.int .i64 m.ix) ∧ w'.cell? ⟨w.heap.size, 4, none⟩ = some sv)
    (first | exact ⟨z0, z1, z2, z3, z4, x0, x1, x2, x3, x4⟩)
    ((first
      | (go_at_call 7; refine (Ne.to_mon m.kids _ m.ro m.k m.ix m.fr sv ?_ HN0.out.1).mono ?_; (exact HSR.out); rintro e wA ⟨u3, bs3, rfl, how3, -, -, hbA⟩; (have HW := hide (HW.out.below hbA)); (have HT4 := hide (HT4.out.below hbA)); (have HT6 := hide (HT6.out.below hbA)); (have HT7 := hide (HT7.out.below hbA)); (obtain ⟨z0, z1, z2, z3, z4⟩ := HT6.out.hx.cells); (obtain ⟨x0, x1, x2, x3, x4⟩ := HW.out.hx.cells); (have H3 := hide how3.sl))
      | (go_at_call 10; refine (Ne.eq_mon m.kids _ m.ro m.k m.ix m.fr _ _ ?_ ?_).mono ?_; (exact HT6.out.ho.sl); (exact H3.out); rintro e wD ⟨rfl, hbD⟩; (have HW := hide (HW.out.below hbD)); (have HT4 := hide (HT4.out.below hbD)); (have HT6 := hide (HT6.out.below hbD)); (have HT7 := hide (HT7.out.below hbD)); (obtain ⟨z0, z1, z2, z3, z4⟩ := HT6.out.hx.cells); (obtain ⟨x0, x1, x2, x3, x4⟩ := HW.out.hx.cells))))
  clear how3 H3 HSR z0 z1 z2 z3 z4 x0 x1 x2 x3 x4
  have HLE := hide (Nat.le_trans HLE.out (Nat.le_trans hbA.size hbD.size))
  clear hbA hbD
  obtain ⟨z0, z1, z2, z3, z4⟩ := HT6.out.hx.cells
  have zl := HT6.out.hx.lt
  go_wp2_with fail
  clear z0 z1 z2 z3 z4 zl
  have hsz1 : 1 + 4 * m.kids.sz ≤ 16777216 := by have := HN0.out.2; omega
  refine (mark_mon m.kids wD _ xbs m.ro m.k m.ix m.fr 1 HT6.out.ho HT6.out.hn (Nat.le_refl _) hsz1).mono ?_
  rintro e w9 ⟨rfl, -, hwr⟩
  have h6l := HT6.out.hl
  have hl6 := HL6.out
  have HLE := hide (Nat.le_trans HLE.out hwr.size)
  have HW := hide (HW.out.wr hwr (fun x hx => by have := h6l x hx; omega))
  have HT4 := hide (HT4.out.wr hwr (fun x hx => by have := h6l x hx; omega))
  have HT7 := hide (HT7.out.wr hwr (fun x hx => by have := h6l x hx; omega))
  clear hwr h6l hl6 HT6
  obtain ⟨K, hK⟩ : ∃ K : Int, K = ((1 + 4 * m.kids.sz : Nat) : Int) := ⟨_, rfl⟩
  have hK0 : 0 ≤ K := by omega
  rw [← hK]
  clear hK
  obtain ⟨x0, x1, x2, x3, x4⟩ := HW.out.hx.cells
  have xl := HW.out.hx.lt
  obtain ⟨a0, a1, a2, a3⟩ := HW.out.hy.cells
  have al := HW.out.hy.lt
  obtain ⟨y0, y1, y2, y3, y4⟩ := HT4.out.hx.cells
  have yl := HT4.out.hx.lt
  obtain ⟨v0, v1, v2, v3, v4⟩ := HT7.out.hx.cells
  have vl := HT7.out.hx.lt
  go_wp2_with fail
  refine (Ne.eq_mon R.kids _ R.ro R.k R.ix R.fr _ _ HT7.out.ho.sl HT4.out.ho.sl).mono ?_
  rintro e w10 ⟨rfl, hb⟩
  clear x0 x1 x2 x3 x4 xl a0 a1 a2 a3 al y0 y1 y2 y3 y4 yl v0 v1 v2 v3 v4 vl
  have HLE := hide (Nat.le_trans HLE.out hb.size)
  have HW := hide (HW.out.below hb)
  have HT4 := hide (HT4.out.below hb)
  have HT7 := hide (HT7.out.below hb)
  clear hb
  obtain ⟨x0, x1, x2, x3, x4⟩ := HW.out.hx.cells
  have xl := HW.out.hx.lt
  obtain ⟨a0, a1, a2, a3⟩ := HW.out.hy.cells
  have al := HW.out.hy.lt
  obtain ⟨y0, y1, y2, y3, y4⟩ := HT4.out.hx.cells
  have yl := HT4.out.hx.lt
  obtain ⟨v0, v1, v2, v3, v4⟩ := HT7.out.hx.cells
  have vl := HT7.out.hx.lt
  go_wp2_with fail
  clear x0 x1 x2 x3 x4 xl a0 a1 a2 a3 al y0 y1 y2 y3 y4 yl v0 v1 v2 v3 v4 vl
  have hszR : R.kids.sz ≤ 400 := by rw [HR.out]; exact obs_sz m a
  have hsz2 : 1 + 4 * R.kids.sz ≤ 16777216 := by omega
  refine (mark_mon R.kids w10 _ gbs R.ro R.k R.ix R.fr 1 HT7.out.ho HT7.out.hn (Nat.le_refl _) hsz2).mono ?_
  rintro e w11 ⟨rfl, hog, hwr⟩
  have h7l := HT7.out.hl
  have hl6 := HL6.out
  have HLE := hide (Nat.le_trans HLE.out hwr.size)
  have HW := hide (HW.out.wr hwr (fun x hx => by have := h7l x hx; omega))
  have HT4 := hide (HT4.out.wr hwr (fun x hx => by have := h7l x hx; omega))
  have HT7 := hide (HT7.out.marked hwr hog)
  clear hwr h7l hog hl6
  obtain ⟨M, hM⟩ : ∃ M : Int, M = ((1 + 4 * R.kids.sz : Nat) : Int) := ⟨_, rfl⟩
  have hM0 : 0 ≤ M := by omega
  have HM := hide hM
  rw [← hM]
  clear hM
  obtain ⟨x0, x1, x2, x3, x4⟩ := HW.out.hx.cells
  have xl := HW.out.hx.lt
  obtain ⟨a0, a1, a2, a3⟩ := HW.out.hy.cells
  have al := HW.out.hy.lt
  obtain ⟨y0, y1, y2, y3, y4⟩ := HT4.out.hx.cells
  have yl := HT4.out.hx.lt
  obtain ⟨v0, v1, v2, v3, v4⟩ := HT7.out.hx.cells
  have vl := HT7.out.hx.lt
  go_wp2_with fail
  refine (held_mon R.kids w11 _ R.ro R.k R.ix R.fr 1 HT7.out.ho.sl (Nat.le_refl _) hsz2).mono ?_
  rw [← HM.out]
  rintro e w12 ⟨rfl, hb⟩
  clear x0 x1 x2 x3 x4 xl a0 a1 a2 a3 al y0 y1 y2 y3 y4 yl v0 v1 v2 v3 v4 vl
  have HLE := hide (Nat.le_trans HLE.out hb.size)
  have HW := hide (HW.out.below hb)
  have HT4 := hide (HT4.out.below hb)
  have HT7 := hide (HT7.out.below hb)
  clear hb
  obtain ⟨x0, x1, x2, x3, x4⟩ := HW.out.hx.cells
  have xl := HW.out.hx.lt
  obtain ⟨a0, a1, a2, a3⟩ := HW.out.hy.cells
  have al := HW.out.hy.lt
  obtain ⟨y0, y1, y2, y3, y4⟩ := HT4.out.hx.cells
  have yl := HT4.out.hx.lt
  obtain ⟨v0, v1, v2, v3, v4⟩ := HT7.out.hx.cells
  have vl := HT7.out.hx.lt
  go_wp2_with fail
  rename_i KK hKK
  have HKK := hide hKK
  clear hKK x0 x1 x2 x3 x4 xl a0 a1 a2 a3 al y0 y1 y2 y3 y4 yl v0 v1 v2 v3 v4 vl
  obtain ⟨L8, hL8⟩ : ∃ L8, L8 = w12.heap.size := ⟨_, rfl⟩
  have HL8 := hide (show w.heap.size + 1 < L8 ∧ hi4 ≤ L8 ∧ hi7 ≤ L8 by have := HL6.out; have := HLE.out; have := HT7.out.hlo; have := HT7.out.hhi; omega)
  have HLe := hide (show L8 ≤ w12.drew.heap.size from Nat.le_of_eq hL8)
  clear hL8
  have HW := hide (HW.out.below (wj := w12.drew) (Below.refl _ _).drew)
  have HT4 := hide (HT4.out.below (wj := w12.drew) (Below.refl _ _).drew)
  have HT7 := hide (HT7.out.below (wj := w12.drew) (Below.refl _ _).drew)
  refine' cut5 (K := KK) (fun n8 ua uc ha hc V9 => ∃ hi bs, LoA w V9 m a sv ∧ LoX V9 R R.kids (.slice ha R.kids.len hc) L8 hi n8 bs ∧ hi ≤ V9.heap.size ∧ LoX V9 R R.kids (.slice wa R.kids.len wc) L4 hi4 nb wbs ∧ LoX V9 R (mkF R.kids 1) (.slice ga R.kids.len gc) L7 hi7 n7 gbs) (fun key => ?_) (fun n8 ua uc ha hc V9 hF => ?_)
  rotate_left
  · have key := hide key
    refine wp_region_held_drew (S := (fun w' => LoA w w' m a sv)) (by kernel_rfl) ?_ (fun hHeld => ?_)
    · exact HW.out
    refine wpAnyH_take (i := 0) (v := ?v0s) rfl (by kernel_rfl) (by kernel_rfl) (by kernel_rfl) (fun _ _ _ h => h) (Or.inl ⟨by kernel_rfl, ?hy0s⟩) (by assumption) ?rest0s
    case hy0s => ((intro wS hSw); (obtain ⟨x0, x1, x2, x3, x4⟩ := hSw.hx.cells); (obtain ⟨a0, a1, a2, a3⟩ := hSw.hy.cells); (try dsimp only at hSw); (go_simp); (try with_reducible rfl))
    change wpAnyH _ _ _ _ _ _ _ (Act.put _ (some 85) _) _
    (try simp only [Act.put]); (try simp only [List.setIfInBounds_toArray]); (try simp only [List.set_cons_zero]); (try simp only [List.set_cons_succ])
    refine wpAnyH_take (i := 2) (v := ?v2s) rfl (by kernel_rfl) (by kernel_rfl) (by kernel_rfl) (fun _ _ _ h => h) (Or.inl ⟨by kernel_rfl, ?hy2s⟩) (by assumption) ?rest2s
    case hy2s => ((intro wS hSw); (obtain ⟨x0, x1, x2, x3, x4⟩ := hSw.hx.cells); (obtain ⟨a0, a1, a2, a3⟩ := hSw.hy.cells); (try dsimp only at hSw); (go_simp); (try with_reducible rfl))
    change wpAnyH _ _ _ _ _ _ _ (Act.put _ (some 87) _) _
    (try simp only [Act.put]); (try simp only [List.setIfInBounds_toArray]); (try simp only [List.set_cons_zero]); (try simp only [List.set_cons_succ])
    refine wpAnyH_ready (rs := [1, 8]) (by kernel_rfl) (by simp) (AllReadyH.cons rfl (fun K hK => ?kas) (AllReadyH.cons rfl (fun K hK => ?kbs) AllReadyH.nil))
    case' kas =>
      rw [if_pos (by kernel_rfl)]
      go_simp
      go_at_call 7; (with_reducible refine (Ne.to_mon m.kids _ m.ro m.k m.ix m.fr sv (HS.out.still (Still.of_below HW.out.hb)) HN0.out.1).mono ?_); rintro e wk1 ⟨u, us, rfl, how, -, -, hb⟩; (obtain ⟨ua, uc, rfl⟩ := how.val); (have HU := hide how.sl); (have HW := hide (HW.out.below hb)); (have HT4 := hide (HT4.out.below hb)); (have HT7 := hide (HT7.out.below hb)); (have HLe := hide (Nat.le_trans HLe.out hb.size)); clear hb how
      refine hK.out _ _ ?_ (fun hHeld => ?_)
      · exact HW.out
      clear hK K
      (try simp only [Act.put]); (try simp only [List.setIfInBounds_toArray]); (try simp only [List.set_cons_zero]); (try simp only [List.set_cons_succ])
      refine wpAnyH_ready (rs := [3, 8]) (by kernel_rfl) (by simp) (AllReadyH.cons rfl (fun K hK => ?kasx) (AllReadyH.cons rfl (fun K hK => ?kbsx) AllReadyH.nil))
      case' kasx =>
        rw [if_pos (by kernel_rfl)]
        go_simp
        go_at_call 8; (with_reducible refine (Ne.toAct _ a.r a.p a.l a.rc).mono ?_); rintro e wk2 ⟨rfl, hb⟩; (have HU := hide (HU.out.still (Still.of_below hb))); (have HW := hide (HW.out.below hb)); (have HT4 := hide (HT4.out.below hb)); (have HT7 := hide (HT7.out.below hb)); (have HLe := hide (Nat.le_trans HLe.out hb.size)); clear hb
        refine hK.out _ _ ?_ (fun hHeld => ?_)
        · exact HW.out
        clear hK K
        (try simp only [Act.put]); (try simp only [List.setIfInBounds_toArray]); (try simp only [List.set_cons_zero]); (try simp only [List.set_cons_succ])
        refine wpAnyH_ready (rs := [4, 8]) (by kernel_rfl) (by simp) (AllReadyH.cons rfl (fun K hK => ?kasxx) (AllReadyH.cons rfl (fun K hK => ?kbsxx) AllReadyH.nil))
        case' kasxx =>
          rw [if_pos (by kernel_rfl)]
          go_simp
          go_at_call 9; (have E1 := Still.of_below HW.out.hb _ _ HE1.out); (have E2 := Still.of_below HW.out.hb _ _ HE2.out); (with_reducible refine (implObs _ m a _ _ HU.out T1 T2 v1 v2 E1 E2).mono ?_); (rw [← HR.out, ← HOK.out]); rintro e wk3 ⟨wu, bs, rfl, how, hge, hnd, hb⟩; (obtain ⟨ha, hc, rfl⟩ := how.val); clear E1 E2; (have HG := hide (fun x (hx : x ∈ bs) => (show L8 ≤ x by have h1 := hge x hx; have h2 := HLe.out; first | exact ⟨Nat.le_trans h2 h1, by omega⟩ | exact Nat.le_trans h2 h1))); (have HO := hide how); (have HND := hide hnd); (have HW := hide (HW.out.below hb)); (have HT4 := hide (HT4.out.below hb)); (have HT7 := hide (HT7.out.below hb)); (have HLe := hide (Nat.le_trans HLe.out hb.size)); clear hb hge how hnd
          refine hK.out _ _ ?_ (fun hHeld => ?_)
          · exact HW.out
          clear hK K
          (try simp only [Act.put]); (try simp only [List.setIfInBounds_toArray]); (try simp only [List.set_cons_zero]); (try simp only [List.set_cons_succ])
          refine wpAnyH_take (i := 5) (v := ?v5sxxp) rfl (by kernel_rfl) (by kernel_rfl) (by kernel_rfl) (fun _ _ _ h => h) (Or.inl ⟨by kernel_rfl, ?hy5sxxp⟩) (by assumption) ?rest5sxxp
          case hy5sxxp => ((intro wS hSw); (obtain ⟨x0, x1, x2, x3, x4⟩ := hSw.hx.cells); (obtain ⟨a0, a1, a2, a3⟩ := hSw.hy.cells); (try dsimp only at hSw); (go_simp); (try with_reducible rfl))
          change wpAnyH _ _ _ _ _ _ _ (Act.put _ (some 84) _) _
          (try simp only [Act.put]); (try simp only [List.setIfInBounds_toArray]); (try simp only [List.set_cons_zero]); (try simp only [List.set_cons_succ])
          refine wpAnyH_take (i := 6) (v := ?v6sxxp) rfl (by kernel_rfl) (by kernel_rfl) (by kernel_rfl) (fun _ _ _ h => h) (Or.inl ⟨by kernel_rfl, ?hy6sxxp⟩) (by assumption) ?rest6sxxp
          case hy6sxxp => ((intro wS hSw); (obtain ⟨x0, x1, x2, x3, x4⟩ := hSw.hx.cells); (obtain ⟨a0, a1, a2, a3⟩ := hSw.hy.cells); (try dsimp only at hSw); (go_simp); (try with_reducible rfl))
          change wpAnyH _ _ _ _ _ _ _ (Act.put _ (some 90) _) _
          (try simp only [Act.put]); (try simp only [List.setIfInBounds_toArray]); (try simp only [List.set_cons_zero]); (try simp only [List.set_cons_succ])
          refine wpAnyH_take (i := 7) (v := ?v7sxxp) rfl (by kernel_rfl) (by kernel_rfl) (by kernel_rfl) (fun _ _ _ h => h) (Or.inl ⟨by kernel_rfl, ?hy7sxxp⟩) (by assumption) ?rest7sxxp
          case hy7sxxp => ((intro wS hSw); (obtain ⟨x0, x1, x2, x3, x4⟩ := hSw.hx.cells); (obtain ⟨a0, a1, a2, a3⟩ := hSw.hy.cells); (try dsimp only at hSw); (go_simp); (try with_reducible rfl))
          change wpAnyH _ _ _ _ _ _ _ (Act.put _ (some 91) _) _
          (try simp only [Act.put]); (try simp only [List.setIfInBounds_toArray]); (try simp only [List.set_cons_zero]); (try simp only [List.set_cons_succ])
          refine wpAnyH_ready (rs := [8]) (by kernel_rfl) (by simp) (AllReadyH.cons rfl (fun K hK => ?_) AllReadyH.nil)
          rw [if_pos (by kernel_rfl)]
          go_simp
          (obtain ⟨n8, hnb⟩ : ∃ n8, n8 = wk3.heap.size := ⟨_, rfl⟩); (have HLb := hide (show L8 ≤ n8 by rw [hnb]; exact HLe.out)); (have HWB := HW); (have HT4B := HT4); (have HT7B := HT7); (have HOB := HO); (have HOL := hide HO.out.lt); (have HN := hide (Ne.Box5.now wk3 (.string ⟨#[]⟩) (.int .i64 0) (.string ⟨#[]⟩) (.int .i64 0) (.slice none 0 0) ( /- t -/ 35))); (have HW := hide (HW.out.below (alloc_below wk3 (.cells #[.string ⟨#[]⟩, .int .i64 0, .string ⟨#[]⟩, .int .i64 0, .slice none 0 0] ( /- t -/ 35))))); (have HT4 := hide (HT4.out.below (alloc_below wk3 (.cells #[.string ⟨#[]⟩, .int .i64 0, .string ⟨#[]⟩, .int .i64 0, .slice none 0 0] ( /- t -/ 35))))); (have HT7 := hide (HT7.out.below (alloc_below wk3 (.cells #[.string ⟨#[]⟩, .int .i64 0, .string ⟨#[]⟩, .int .i64 0, .slice none 0 0] ( /- t -/ 35))))); (have HLe := hide (Nat.le_trans HLe.out (alloc_below wk3 (.cells #[.string ⟨#[]⟩, .int .i64 0, .string ⟨#[]⟩, .int .i64 0, .slice none 0 0] ( /- t -/ 35))).size))
          refine hK.out _ _ ?_ (fun hHeld => ?_)
          · exact HW.out
          clear hK K
          (try simp only [Act.put]); (try simp only [List.setIfInBounds_toArray]); (try simp only [List.set_cons_zero]); (try simp only [List.set_cons_succ])
          refine wpAnyH_ready (rs := [9]) (by kernel_rfl) (by simp) (AllReadyH.cons rfl (fun K hK => ?_) AllReadyH.nil)
          rw [if_pos (by kernel_rfl)]
          go_simp
          rw [← hnb]
          have HNX := hide (Ne.Box5.now wk3 (.string R.ro) (.int .i64 R.k) (.string R.fr) (.int .i64 R.ix) (.slice ha R.kids.len hc) ( /- t -/ 35))
          rw [← hnb] at HNX
          have HG := hide (fun x (hx : x ∈ bs) => And.intro (HG.out x hx) (show x ≠ n8 by rw [hnb]; exact Nat.ne_of_lt (HOL.out x hx)))
          have HO := hide (HOB.out.same (Same.of_below (alloc_below wk3 (.cells #[.string R.ro, .int .i64 R.k, .string R.fr, .int .i64 R.ix, .slice ha R.kids.len hc] ( /- t -/ 35))) HOB.out.lt))
          have HW := hide (HWB.out.below (alloc_below wk3 (.cells #[.string R.ro, .int .i64 R.k, .string R.fr, .int .i64 R.ix, .slice ha R.kids.len hc] ( /- t -/ 35))))
          have HT4 := hide (HT4B.out.below (alloc_below wk3 (.cells #[.string R.ro, .int .i64 R.k, .string R.fr, .int .i64 R.ix, .slice ha R.kids.len hc] ( /- t -/ 35))))
          have HT7 := hide (HT7B.out.below (alloc_below wk3 (.cells #[.string R.ro, .int .i64 R.k, .string R.fr, .int .i64 R.ix, .slice ha R.kids.len hc] ( /- t -/ 35))))
          refine hK.out _ _ ?_ (fun hHeld => ?_)
          · exact HW.out
          clear hK K
          (try simp only [Act.put]); (try simp only [List.setIfInBounds_toArray]); (try simp only [List.set_cons_zero]); (try simp only [List.set_cons_succ])
          refine wpAnyH_take (i := 10) (v := ?v10sxxxz) rfl (by kernel_rfl) (by kernel_rfl) (by kernel_rfl) (fun _ _ _ h => h) (Or.inl ⟨by kernel_rfl, ?hy10sxxxz⟩) (by assumption) ?rest10sxxxz
          case hy10sxxxz => ((intro wS hSw); (obtain ⟨x0, x1, x2, x3, x4⟩ := hSw.hx.cells); (obtain ⟨a0, a1, a2, a3⟩ := hSw.hy.cells); (try dsimp only at hSw); (go_simp); (try with_reducible rfl))
          change wpAnyH _ _ _ _ _ _ _ (Act.put _ (some 15) _) _
          (try simp only [Act.put]); (try simp only [List.setIfInBounds_toArray]); (try simp only [List.set_cons_zero]); (try simp only [List.set_cons_succ])
          refine wpAnyH_done (by kernel_rfl) ?_ _
          clear hHeld HN HLe HOB HOL HWB HT4B HT7B
          generalize wk3.alloc (.cells #[.string R.ro, .int .i64 R.k, .string R.fr, .int .i64 R.ix, .slice ha R.kids.len hc] ( /- t -/ 35)) = X at *
          refine key.out n8 ua uc ha hc _ ⟨X.heap.size, bs, HW.out, ⟨HNX.out, HO.out, fun x hx => ⟨(HG.out x hx).1, HO.out.lt x hx, (HG.out x hx).2⟩, HND.out, HLb.out, HNX.out.lt⟩, Nat.le_refl _, HT4.out, HT7.out⟩
        case' kbsxx =>
          rw [if_pos (by kernel_rfl)]
          go_simp
          (obtain ⟨n8, hnb⟩ : ∃ n8, n8 = wk2.heap.size := ⟨_, rfl⟩); (have HLb := hide (show L8 ≤ n8 by rw [hnb]; exact HLe.out)); (have HN := hide (Ne.Box5.now wk2 (.string ⟨#[]⟩) (.int .i64 0) (.string ⟨#[]⟩) (.int .i64 0) (.slice none 0 0) ( /- t -/ 35))); (have HW := hide (HW.out.below (alloc_below wk2 (.cells #[.string ⟨#[]⟩, .int .i64 0, .string ⟨#[]⟩, .int .i64 0, .slice none 0 0] ( /- t -/ 35))))); (have HT4 := hide (HT4.out.below (alloc_below wk2 (.cells #[.string ⟨#[]⟩, .int .i64 0, .string ⟨#[]⟩, .int .i64 0, .slice none 0 0] ( /- t -/ 35))))); (have HT7 := hide (HT7.out.below (alloc_below wk2 (.cells #[.string ⟨#[]⟩, .int .i64 0, .string ⟨#[]⟩, .int .i64 0, .slice none 0 0] ( /- t -/ 35))))); (have HLe := hide (Nat.le_trans HLe.out (alloc_below wk2 (.cells #[.string ⟨#[]⟩, .int .i64 0, .string ⟨#[]⟩, .int .i64 0, .slice none 0 0] ( /- t -/ 35))).size)); (have HU := hide (HU.out.still (Still.of_below (alloc_below wk2 (.cells #[.string ⟨#[]⟩, .int .i64 0, .string ⟨#[]⟩, .int .i64 0, .slice none 0 0] ( /- t -/ 35))))))
          refine hK.out _ _ ?_ (fun hHeld => ?_)
          · exact HW.out
          clear hK K
          (try simp only [Act.put]); (try simp only [List.setIfInBounds_toArray]); (try simp only [List.set_cons_zero]); (try simp only [List.set_cons_succ])
          refine wpAnyH_ready (rs := [4]) (by kernel_rfl) (by simp) (AllReadyH.cons rfl (fun K hK => ?_) AllReadyH.nil)
          rw [if_pos (by kernel_rfl)]
          go_simp
          (have HNL := hide (show n8 < _ from by rw [hnb]; exact HN.out.lt)); go_at_call 9; (have E1 := Still.of_below HW.out.hb _ _ HE1.out); (have E2 := Still.of_below HW.out.hb _ _ HE2.out); (with_reducible refine (implObs _ m a _ _ HU.out T1 T2 v1 v2 E1 E2).mono ?_); (rw [← HR.out, ← HOK.out]); rintro e wk3 ⟨wu, bs, rfl, how, hge, hnd, hb⟩; (obtain ⟨ha, hc, rfl⟩ := how.val); clear E1 E2; (have HG := hide (fun x (hx : x ∈ bs) => (show L8 ≤ x ∧ x ≠ n8 by have h1 := hge x hx; have h2 := HLe.out; have h3 := HNL.out; first | exact ⟨Nat.le_trans h2 h1, by omega⟩ | exact Nat.le_trans h2 h1))); (have HO := hide how); (have HND := hide hnd); (have HW := hide (HW.out.below hb)); (have HT4 := hide (HT4.out.below hb)); (have HT7 := hide (HT7.out.below hb)); (have HN := hide (HN.out.below hb)); (have HLe := hide (Nat.le_trans HLe.out hb.size)); clear hb hge how hnd
          refine hK.out _ _ ?_ (fun hHeld => ?_)
          · exact HW.out
          clear hK K
          (try simp only [Act.put]); (try simp only [List.setIfInBounds_toArray]); (try simp only [List.set_cons_zero]); (try simp only [List.set_cons_succ])
          refine wpAnyH_take (i := 5) (v := ?v5sxxyp) rfl (by kernel_rfl) (by kernel_rfl) (by kernel_rfl) (fun _ _ _ h => h) (Or.inl ⟨by kernel_rfl, ?hy5sxxyp⟩) (by assumption) ?rest5sxxyp
          case hy5sxxyp => ((intro wS hSw); (obtain ⟨x0, x1, x2, x3, x4⟩ := hSw.hx.cells); (obtain ⟨a0, a1, a2, a3⟩ := hSw.hy.cells); (try dsimp only at hSw); (go_simp); (try with_reducible rfl))
          change wpAnyH _ _ _ _ _ _ _ (Act.put _ (some 84) _) _
          (try simp only [Act.put]); (try simp only [List.setIfInBounds_toArray]); (try simp only [List.set_cons_zero]); (try simp only [List.set_cons_succ])
          refine wpAnyH_take (i := 6) (v := ?v6sxxyp) rfl (by kernel_rfl) (by kernel_rfl) (by kernel_rfl) (fun _ _ _ h => h) (Or.inl ⟨by kernel_rfl, ?hy6sxxyp⟩) (by assumption) ?rest6sxxyp
          case hy6sxxyp => ((intro wS hSw); (obtain ⟨x0, x1, x2, x3, x4⟩ := hSw.hx.cells); (obtain ⟨a0, a1, a2, a3⟩ := hSw.hy.cells); (try dsimp only at hSw); (go_simp); (try with_reducible rfl))
          change wpAnyH _ _ _ _ _ _ _ (Act.put _ (some 90) _) _
          (try simp only [Act.put]); (try simp only [List.setIfInBounds_toArray]); (try simp only [List.set_cons_zero]); (try simp only [List.set_cons_succ])
          refine wpAnyH_take (i := 7) (v := ?v7sxxyp) rfl (by kernel_rfl) (by kernel_rfl) (by kernel_rfl) (fun _ _ _ h => h) (Or.inl ⟨by kernel_rfl, ?hy7sxxyp⟩) (by assumption) ?rest7sxxyp
          case hy7sxxyp => ((intro wS hSw); (obtain ⟨x0, x1, x2, x3, x4⟩ := hSw.hx.cells); (obtain ⟨a0, a1, a2, a3⟩ := hSw.hy.cells); (try dsimp only at hSw); (go_simp); (try with_reducible rfl))
          change wpAnyH _ _ _ _ _ _ _ (Act.put _ (some 91) _) _
          (try simp only [Act.put]); (try simp only [List.setIfInBounds_toArray]); (try simp only [List.set_cons_zero]); (try simp only [List.set_cons_succ])
          refine wpAnyH_ready (rs := [9]) (by kernel_rfl) (by simp) (AllReadyH.cons rfl (fun K hK => ?_) AllReadyH.nil)
          obtain ⟨n0, n1, n2, n3, n4⟩ := HN.out.cells
          have nf := HN.out.frozen
          have nl := HN.out.lt
          rw [if_pos (by kernel_rfl)]
          go_simp
          rw [← hnb] at HN ⊢
          have hLb := HLb.out
          have HNX := hide (HN.out.setAll (.string R.ro) (.int .i64 R.k) (.string R.fr) (.int .i64 R.ix) (.slice ha R.kids.len hc))
          have HO := hide (ow_set5 HO.out (nb := n8) (fun x hx => (HG.out x hx).2) (.string R.ro) (.int .i64 R.k) (.string R.fr) (.int .i64 R.ix) (.slice ha R.kids.len hc))
          have HW := hide (HW.out.set5 (nb := n8) (by have := HL8.out; omega) (.string R.ro) (.int .i64 R.k) (.string R.fr) (.int .i64 R.ix) (.slice ha R.kids.len hc))
          have HT4 := hide (HT4.out.set5 (nb := n8) (by have := HL8.out; omega) (.string R.ro) (.int .i64 R.k) (.string R.fr) (.int .i64 R.ix) (.slice ha R.kids.len hc))
          have HT7 := hide (HT7.out.set5 (nb := n8) (by have := HL8.out; omega) (.string R.ro) (.int .i64 R.k) (.string R.fr) (.int .i64 R.ix) (.slice ha R.kids.len hc))
          refine hK.out _ _ ?_ (fun hHeld => ?_)
          · exact HW.out
          clear hK K n0 n1 n2 n3 n4 nf nl
          (try simp only [Act.put]); (try simp only [List.setIfInBounds_toArray]); (try simp only [List.set_cons_zero]); (try simp only [List.set_cons_succ])
          refine wpAnyH_take (i := 10) (v := ?v10sxxyz) rfl (by kernel_rfl) (by kernel_rfl) (by kernel_rfl) (fun _ _ _ h => h) (Or.inl ⟨by kernel_rfl, ?hy10sxxyz⟩) (by assumption) ?rest10sxxyz
          case hy10sxxyz => ((intro wS hSw); (obtain ⟨x0, x1, x2, x3, x4⟩ := hSw.hx.cells); (obtain ⟨a0, a1, a2, a3⟩ := hSw.hy.cells); (try dsimp only at hSw); (go_simp); (try with_reducible rfl))
          change wpAnyH _ _ _ _ _ _ _ (Act.put _ (some 15) _) _
          (try simp only [Act.put]); (try simp only [List.setIfInBounds_toArray]); (try simp only [List.set_cons_zero]); (try simp only [List.set_cons_succ])
          refine wpAnyH_done (by kernel_rfl) ?_ _
          clear hHeld HN HLe
          generalize (((((wk3.setCell ⟨n8, 0, none⟩ (.string R.ro)).setCell ⟨n8, 1, none⟩ (.int .i64 R.k)).setCell ⟨n8, 2, none⟩ (.string R.fr)).setCell ⟨n8, 3, none⟩ (.int .i64 R.ix)).setCell ⟨n8, 4, none⟩ (.slice ha R.kids.len hc)) = X at *
          refine key.out n8 ua uc ha hc _ ⟨X.heap.size, bs, HW.out, ⟨HNX.out, HO.out, fun x hx => ⟨(HG.out x hx).1, HO.out.lt x hx, (HG.out x hx).2⟩, HND.out, HLb.out, HNX.out.lt⟩, Nat.le_refl _, HT4.out, HT7.out⟩
      case' kbsx =>
        rw [if_pos (by kernel_rfl)]
        go_simp
        (obtain ⟨n8, hnb⟩ : ∃ n8, n8 = wk1.heap.size := ⟨_, rfl⟩); (have HLb := hide (show L8 ≤ n8 by rw [hnb]; exact HLe.out)); (have HN := hide (Ne.Box5.now wk1 (.string ⟨#[]⟩) (.int .i64 0) (.string ⟨#[]⟩) (.int .i64 0) (.slice none 0 0) ( /- t -/ 35))); (have HW := hide (HW.out.below (alloc_below wk1 (.cells #[.string ⟨#[]⟩, .int .i64 0, .string ⟨#[]⟩, .int .i64 0, .slice none 0 0] ( /- t -/ 35))))); (have HT4 := hide (HT4.out.below (alloc_below wk1 (.cells #[.string ⟨#[]⟩, .int .i64 0, .string ⟨#[]⟩, .int .i64 0, .slice none 0 0] ( /- t -/ 35))))); (have HT7 := hide (HT7.out.below (alloc_below wk1 (.cells #[.string ⟨#[]⟩, .int .i64 0, .string ⟨#[]⟩, .int .i64 0, .slice none 0 0] ( /- t -/ 35))))); (have HLe := hide (Nat.le_trans HLe.out (alloc_below wk1 (.cells #[.string ⟨#[]⟩, .int .i64 0, .string ⟨#[]⟩, .int .i64 0, .slice none 0 0] ( /- t -/ 35))).size)); (have HU := hide (HU.out.still (Still.of_below (alloc_below wk1 (.cells #[.string ⟨#[]⟩, .int .i64 0, .string ⟨#[]⟩, .int .i64 0, .slice none 0 0] ( /- t -/ 35))))))
        refine hK.out _ _ ?_ (fun hHeld => ?_)
        · exact HW.out
        clear hK K
        (try simp only [Act.put]); (try simp only [List.setIfInBounds_toArray]); (try simp only [List.set_cons_zero]); (try simp only [List.set_cons_succ])
        refine wpAnyH_ready (rs := [3]) (by kernel_rfl) (by simp) (AllReadyH.cons rfl (fun K hK => ?_) AllReadyH.nil)
        rw [if_pos (by kernel_rfl)]
        go_simp
        go_at_call 8; (with_reducible refine (Ne.toAct _ a.r a.p a.l a.rc).mono ?_); rintro e wk2 ⟨rfl, hb⟩; (have HU := hide (HU.out.still (Still.of_below hb))); (have HW := hide (HW.out.below hb)); (have HT4 := hide (HT4.out.below hb)); (have HT7 := hide (HT7.out.below hb)); (have HN := hide (HN.out.below hb)); (have HLe := hide (Nat.le_trans HLe.out hb.size)); clear hb
        refine hK.out _ _ ?_ (fun hHeld => ?_)
        · exact HW.out
        clear hK K
        (try simp only [Act.put]); (try simp only [List.setIfInBounds_toArray]); (try simp only [List.set_cons_zero]); (try simp only [List.set_cons_succ])
        refine wpAnyH_ready (rs := [4]) (by kernel_rfl) (by simp) (AllReadyH.cons rfl (fun K hK => ?_) AllReadyH.nil)
        rw [if_pos (by kernel_rfl)]
        go_simp
        (have HNL := hide (show n8 < _ from by rw [hnb]; exact HN.out.lt)); go_at_call 9; (have E1 := Still.of_below HW.out.hb _ _ HE1.out); (have E2 := Still.of_below HW.out.hb _ _ HE2.out); (with_reducible refine (implObs _ m a _ _ HU.out T1 T2 v1 v2 E1 E2).mono ?_); (rw [← HR.out, ← HOK.out]); rintro e wk3 ⟨wu, bs, rfl, how, hge, hnd, hb⟩; (obtain ⟨ha, hc, rfl⟩ := how.val); clear E1 E2; (have HG := hide (fun x (hx : x ∈ bs) => (show L8 ≤ x ∧ x ≠ n8 by have h1 := hge x hx; have h2 := HLe.out; have h3 := HNL.out; first | exact ⟨Nat.le_trans h2 h1, by omega⟩ | exact Nat.le_trans h2 h1))); (have HO := hide how); (have HND := hide hnd); (have HW := hide (HW.out.below hb)); (have HT4 := hide (HT4.out.below hb)); (have HT7 := hide (HT7.out.below hb)); (have HN := hide (HN.out.below hb)); (have HLe := hide (Nat.le_trans HLe.out hb.size)); clear hb hge how hnd
        refine hK.out _ _ ?_ (fun hHeld => ?_)
        · exact HW.out
        clear hK K
        (try simp only [Act.put]); (try simp only [List.setIfInBounds_toArray]); (try simp only [List.set_cons_zero]); (try simp only [List.set_cons_succ])
        refine wpAnyH_take (i := 5) (v := ?v5sxyp) rfl (by kernel_rfl) (by kernel_rfl) (by kernel_rfl) (fun _ _ _ h => h) (Or.inl ⟨by kernel_rfl, ?hy5sxyp⟩) (by assumption) ?rest5sxyp
        case hy5sxyp => ((intro wS hSw); (obtain ⟨x0, x1, x2, x3, x4⟩ := hSw.hx.cells); (obtain ⟨a0, a1, a2, a3⟩ := hSw.hy.cells); (try dsimp only at hSw); (go_simp); (try with_reducible rfl))
        change wpAnyH _ _ _ _ _ _ _ (Act.put _ (some 84) _) _
        (try simp only [Act.put]); (try simp only [List.setIfInBounds_toArray]); (try simp only [List.set_cons_zero]); (try simp only [List.set_cons_succ])
        refine wpAnyH_take (i := 6) (v := ?v6sxyp) rfl (by kernel_rfl) (by kernel_rfl) (by kernel_rfl) (fun _ _ _ h => h) (Or.inl ⟨by kernel_rfl, ?hy6sxyp⟩) (by assumption) ?rest6sxyp
        case hy6sxyp => ((intro wS hSw); (obtain ⟨x0, x1, x2, x3, x4⟩ := hSw.hx.cells); (obtain ⟨a0, a1, a2, a3⟩ := hSw.hy.cells); (try dsimp only at hSw); (go_simp); (try with_reducible rfl))
        change wpAnyH _ _ _ _ _ _ _ (Act.put _ (some 90) _) _
        (try simp only [Act.put]); (try simp only [List.setIfInBounds_toArray]); (try simp only [List.set_cons_zero]); (try simp only [List.set_cons_succ])
        refine wpAnyH_take (i := 7) (v := ?v7sxyp) rfl (by kernel_rfl) (by kernel_rfl) (by kernel_rfl) (fun _ _ _ h => h) (Or.inl ⟨by kernel_rfl, ?hy7sxyp⟩) (by assumption) ?rest7sxyp
        case hy7sxyp => ((intro wS hSw); (obtain ⟨x0, x1, x2, x3, x4⟩ := hSw.hx.cells); (obtain ⟨a0, a1, a2, a3⟩ := hSw.hy.cells); (try dsimp only at hSw); (go_simp); (try with_reducible rfl))
        change wpAnyH _ _ _ _ _ _ _ (Act.put _ (some 91) _) _
        (try simp only [Act.put]); (try simp only [List.setIfInBounds_toArray]); (try simp only [List.set_cons_zero]); (try simp only [List.set_cons_succ])
        refine wpAnyH_ready (rs := [9]) (by kernel_rfl) (by simp) (AllReadyH.cons rfl (fun K hK => ?_) AllReadyH.nil)
        obtain ⟨n0, n1, n2, n3, n4⟩ := HN.out.cells
        have nf := HN.out.frozen
        have nl := HN.out.lt
        rw [if_pos (by kernel_rfl)]
        go_simp
        rw [← hnb] at HN ⊢
        have hLb := HLb.out
        have HNX := hide (HN.out.setAll (.string R.ro) (.int .i64 R.k) (.string R.fr) (.int .i64 R.ix) (.slice ha R.kids.len hc))
        have HO := hide (ow_set5 HO.out (nb := n8) (fun x hx => (HG.out x hx).2) (.string R.ro) (.int .i64 R.k) (.string R.fr) (.int .i64 R.ix) (.slice ha R.kids.len hc))
        have HW := hide (HW.out.set5 (nb := n8) (by have := HL8.out; omega) (.string R.ro) (.int .i64 R.k) (.string R.fr) (.int .i64 R.ix) (.slice ha R.kids.len hc))
        have HT4 := hide (HT4.out.set5 (nb := n8) (by have := HL8.out; omega) (.string R.ro) (.int .i64 R.k) (.string R.fr) (.int .i64 R.ix) (.slice ha R.kids.len hc))
        have HT7 := hide (HT7.out.set5 (nb := n8) (by have := HL8.out; omega) (.string R.ro) (.int .i64 R.k) (.string R.fr) (.int .i64 R.ix) (.slice ha R.kids.len hc))
        refine hK.out _ _ ?_ (fun hHeld => ?_)
        · exact HW.out
        clear hK K n0 n1 n2 n3 n4 nf nl
        (try simp only [Act.put]); (try simp only [List.setIfInBounds_toArray]); (try simp only [List.set_cons_zero]); (try simp only [List.set_cons_succ])
        refine wpAnyH_take (i := 10) (v := ?v10sxyz) rfl (by kernel_rfl) (by kernel_rfl) (by kernel_rfl) (fun _ _ _ h => h) (Or.inl ⟨by kernel_rfl, ?hy10sxyz⟩) (by assumption) ?rest10sxyz
        case hy10sxyz => ((intro wS hSw); (obtain ⟨x0, x1, x2, x3, x4⟩ := hSw.hx.cells); (obtain ⟨a0, a1, a2, a3⟩ := hSw.hy.cells); (try dsimp only at hSw); (go_simp); (try with_reducible rfl))
        change wpAnyH _ _ _ _ _ _ _ (Act.put _ (some 15) _) _
        (try simp only [Act.put]); (try simp only [List.setIfInBounds_toArray]); (try simp only [List.set_cons_zero]); (try simp only [List.set_cons_succ])
        refine wpAnyH_done (by kernel_rfl) ?_ _
        clear hHeld HN HLe
        generalize (((((wk3.setCell ⟨n8, 0, none⟩ (.string R.ro)).setCell ⟨n8, 1, none⟩ (.int .i64 R.k)).setCell ⟨n8, 2, none⟩ (.string R.fr)).setCell ⟨n8, 3, none⟩ (.int .i64 R.ix)).setCell ⟨n8, 4, none⟩ (.slice ha R.kids.len hc)) = X at *
        refine key.out n8 ua uc ha hc _ ⟨X.heap.size, bs, HW.out, ⟨HNX.out, HO.out, fun x hx => ⟨(HG.out x hx).1, HO.out.lt x hx, (HG.out x hx).2⟩, HND.out, HLb.out, HNX.out.lt⟩, Nat.le_refl _, HT4.out, HT7.out⟩
    case' kbs =>
      rw [if_pos (by kernel_rfl)]
      go_simp
      (obtain ⟨n8, hnb⟩ : ∃ n8, n8 = w12.heap.size := ⟨_, rfl⟩); (have HLb := hide (show L8 ≤ n8 by rw [hnb]; exact HLe.out)); (have HN := hide (show Ne.Box5 (w12.alloc (.cells #[.string ⟨#[]⟩, .int .i64 0, .string ⟨#[]⟩, .int .i64 0, .slice none 0 0] ( /- t -/ 35))).drew w12.heap.size (.string ⟨#[]⟩) (.int .i64 0) (.string ⟨#[]⟩) (.int .i64 0) (.slice none 0 0) from Ne.Box5.now w12.drew _ _ _ _ _ _)); (have HW := hide (HW.out.below (show Below w12.drew.heap.size w12.drew (w12.alloc (.cells #[.string ⟨#[]⟩, .int .i64 0, .string ⟨#[]⟩, .int .i64 0, .slice none 0 0] ( /- t -/ 35))).drew from alloc_below w12.drew (.cells #[.string ⟨#[]⟩, .int .i64 0, .string ⟨#[]⟩, .int .i64 0, .slice none 0 0] ( /- t -/ 35))))); (have HT4 := hide (HT4.out.below (show Below w12.drew.heap.size w12.drew (w12.alloc (.cells #[.string ⟨#[]⟩, .int .i64 0, .string ⟨#[]⟩, .int .i64 0, .slice none 0 0] ( /- t -/ 35))).drew from alloc_below w12.drew (.cells #[.string ⟨#[]⟩, .int .i64 0, .string ⟨#[]⟩, .int .i64 0, .slice none 0 0] ( /- t -/ 35))))); (have HT7 := hide (HT7.out.below (show Below w12.drew.heap.size w12.drew (w12.alloc (.cells #[.string ⟨#[]⟩, .int .i64 0, .string ⟨#[]⟩, .int .i64 0, .slice none 0 0] ( /- t -/ 35))).drew from alloc_below w12.drew (.cells #[.string ⟨#[]⟩, .int .i64 0, .string ⟨#[]⟩, .int .i64 0, .slice none 0 0] ( /- t -/ 35))))); (have HLe := hide (Nat.le_trans HLe.out (show Below w12.drew.heap.size w12.drew (w12.alloc (.cells #[.string ⟨#[]⟩, .int .i64 0, .string ⟨#[]⟩, .int .i64 0, .slice none 0 0] ( /- t -/ 35))).drew from alloc_below w12.drew (.cells #[.string ⟨#[]⟩, .int .i64 0, .string ⟨#[]⟩, .int .i64 0, .slice none 0 0] ( /- t -/ 35))).size))
      refine hK.out _ _ ?_ (fun hHeld => ?_)
      · exact HW.out
      clear hK K
      (try simp only [Act.put]); (try simp only [List.setIfInBounds_toArray]); (try simp only [List.set_cons_zero]); (try simp only [List.set_cons_succ])
      refine wpAnyH_ready (rs := [1]) (by kernel_rfl) (by simp) (AllReadyH.cons rfl (fun K hK => ?_) AllReadyH.nil)
      rw [if_pos (by kernel_rfl)]
      go_simp
      go_at_call 7; (with_reducible refine (Ne.to_mon m.kids _ m.ro m.k m.ix m.fr sv (HS.out.still (Still.of_below HW.out.hb)) HN0.out.1).mono ?_); rintro e wk1 ⟨u, us, rfl, how, -, -, hb⟩; (obtain ⟨ua, uc, rfl⟩ := how.val); (have HU := hide how.sl); (have HW := hide (HW.out.below hb)); (have HT4 := hide (HT4.out.below hb)); (have HT7 := hide (HT7.out.below hb)); (have HN := hide (HN.out.below hb)); (have HLe := hide (Nat.le_trans HLe.out hb.size)); clear hb how
      refine hK.out _ _ ?_ (fun hHeld => ?_)
      · exact HW.out
      clear hK K
      (try simp only [Act.put]); (try simp only [List.setIfInBounds_toArray]); (try simp only [List.set_cons_zero]); (try simp only [List.set_cons_succ])
      refine wpAnyH_ready (rs := [3]) (by kernel_rfl) (by simp) (AllReadyH.cons rfl (fun K hK => ?_) AllReadyH.nil)
      rw [if_pos (by kernel_rfl)]
      go_simp
      go_at_call 8; (with_reducible refine (Ne.toAct _ a.r a.p a.l a.rc).mono ?_); rintro e wk2 ⟨rfl, hb⟩; (have HU := hide (HU.out.still (Still.of_below hb))); (have HW := hide (HW.out.below hb)); (have HT4 := hide (HT4.out.below hb)); (have HT7 := hide (HT7.out.below hb)); (have HN := hide (HN.out.below hb)); (have HLe := hide (Nat.le_trans HLe.out hb.size)); clear hb
      refine hK.out _ _ ?_ (fun hHeld => ?_)
      · exact HW.out
      clear hK K
      (try simp only [Act.put]); (try simp only [List.setIfInBounds_toArray]); (try simp only [List.set_cons_zero]); (try simp only [List.set_cons_succ])
      refine wpAnyH_ready (rs := [4]) (by kernel_rfl) (by simp) (AllReadyH.cons rfl (fun K hK => ?_) AllReadyH.nil)
      rw [if_pos (by kernel_rfl)]
      go_simp
      (have HNL := hide (show n8 < _ from by rw [hnb]; exact HN.out.lt)); go_at_call 9; (have E1 := Still.of_below HW.out.hb _ _ HE1.out); (have E2 := Still.of_below HW.out.hb _ _ HE2.out); (with_reducible refine (implObs _ m a _ _ HU.out T1 T2 v1 v2 E1 E2).mono ?_); (rw [← HR.out, ← HOK.out]); rintro e wk3 ⟨wu, bs, rfl, how, hge, hnd, hb⟩; (obtain ⟨ha, hc, rfl⟩ := how.val); clear E1 E2; (have HG := hide (fun x (hx : x ∈ bs) => (show L8 ≤ x ∧ x ≠ n8 by have h1 := hge x hx; have h2 := HLe.out; have h3 := HNL.out; first | exact ⟨Nat.le_trans h2 h1, by omega⟩ | exact Nat.le_trans h2 h1))); (have HO := hide how); (have HND := hide hnd); (have HW := hide (HW.out.below hb)); (have HT4 := hide (HT4.out.below hb)); (have HT7 := hide (HT7.out.below hb)); (have HN := hide (HN.out.below hb)); (have HLe := hide (Nat.le_trans HLe.out hb.size)); clear hb hge how hnd
      refine hK.out _ _ ?_ (fun hHeld => ?_)
      · exact HW.out
      clear hK K
      (try simp only [Act.put]); (try simp only [List.setIfInBounds_toArray]); (try simp only [List.set_cons_zero]); (try simp only [List.set_cons_succ])
      refine wpAnyH_take (i := 5) (v := ?v5syp) rfl (by kernel_rfl) (by kernel_rfl) (by kernel_rfl) (fun _ _ _ h => h) (Or.inl ⟨by kernel_rfl, ?hy5syp⟩) (by assumption) ?rest5syp
      case hy5syp => ((intro wS hSw); (obtain ⟨x0, x1, x2, x3, x4⟩ := hSw.hx.cells); (obtain ⟨a0, a1, a2, a3⟩ := hSw.hy.cells); (try dsimp only at hSw); (go_simp); (try with_reducible rfl))
      change wpAnyH _ _ _ _ _ _ _ (Act.put _ (some 84) _) _
      (try simp only [Act.put]); (try simp only [List.setIfInBounds_toArray]); (try simp only [List.set_cons_zero]); (try simp only [List.set_cons_succ])
      refine wpAnyH_take (i := 6) (v := ?v6syp) rfl (by kernel_rfl) (by kernel_rfl) (by kernel_rfl) (fun _ _ _ h => h) (Or.inl ⟨by kernel_rfl, ?hy6syp⟩) (by assumption) ?rest6syp
      case hy6syp => ((intro wS hSw); (obtain ⟨x0, x1, x2, x3, x4⟩ := hSw.hx.cells); (obtain ⟨a0, a1, a2, a3⟩ := hSw.hy.cells); (try dsimp only at hSw); (go_simp); (try with_reducible rfl))
      change wpAnyH _ _ _ _ _ _ _ (Act.put _ (some 90) _) _
      (try simp only [Act.put]); (try simp only [List.setIfInBounds_toArray]); (try simp only [List.set_cons_zero]); (try simp only [List.set_cons_succ])
      refine wpAnyH_take (i := 7) (v := ?v7syp) rfl (by kernel_rfl) (by kernel_rfl) (by kernel_rfl) (fun _ _ _ h => h) (Or.inl ⟨by kernel_rfl, ?hy7syp⟩) (by assumption) ?rest7syp
      case hy7syp => ((intro wS hSw); (obtain ⟨x0, x1, x2, x3, x4⟩ := hSw.hx.cells); (obtain ⟨a0, a1, a2, a3⟩ := hSw.hy.cells); (try dsimp only at hSw); (go_simp); (try with_reducible rfl))
      change wpAnyH _ _ _ _ _ _ _ (Act.put _ (some 91) _) _
      (try simp only [Act.put]); (try simp only [List.setIfInBounds_toArray]); (try simp only [List.set_cons_zero]); (try simp only [List.set_cons_succ])
      refine wpAnyH_ready (rs := [9]) (by kernel_rfl) (by simp) (AllReadyH.cons rfl (fun K hK => ?_) AllReadyH.nil)
      obtain ⟨n0, n1, n2, n3, n4⟩ := HN.out.cells
      have nf := HN.out.frozen
      have nl := HN.out.lt
      rw [if_pos (by kernel_rfl)]
      go_simp
      rw [← hnb] at HN ⊢
      have hLb := HLb.out
      have HNX := hide (HN.out.setAll (.string R.ro) (.int .i64 R.k) (.string R.fr) (.int .i64 R.ix) (.slice ha R.kids.len hc))
      have HO := hide (ow_set5 HO.out (nb := n8) (fun x hx => (HG.out x hx).2) (.string R.ro) (.int .i64 R.k) (.string R.fr) (.int .i64 R.ix) (.slice ha R.kids.len hc))
      have HW := hide (HW.out.set5 (nb := n8) (by have := HL8.out; omega) (.string R.ro) (.int .i64 R.k) (.string R.fr) (.int .i64 R.ix) (.slice ha R.kids.len hc))
      have HT4 := hide (HT4.out.set5 (nb := n8) (by have := HL8.out; omega) (.string R.ro) (.int .i64 R.k) (.string R.fr) (.int .i64 R.ix) (.slice ha R.kids.len hc))
      have HT7 := hide (HT7.out.set5 (nb := n8) (by have := HL8.out; omega) (.string R.ro) (.int .i64 R.k) (.string R.fr) (.int .i64 R.ix) (.slice ha R.kids.len hc))
      refine hK.out _ _ ?_ (fun hHeld => ?_)
      · exact HW.out
      clear hK K n0 n1 n2 n3 n4 nf nl
      (try simp only [Act.put]); (try simp only [List.setIfInBounds_toArray]); (try simp only [List.set_cons_zero]); (try simp only [List.set_cons_succ])
      refine wpAnyH_take (i := 10) (v := ?v10syz) rfl (by kernel_rfl) (by kernel_rfl) (by kernel_rfl) (fun _ _ _ h => h) (Or.inl ⟨by kernel_rfl, ?hy10syz⟩) (by assumption) ?rest10syz
      case hy10syz => ((intro wS hSw); (obtain ⟨x0, x1, x2, x3, x4⟩ := hSw.hx.cells); (obtain ⟨a0, a1, a2, a3⟩ := hSw.hy.cells); (try dsimp only at hSw); (go_simp); (try with_reducible rfl))
      change wpAnyH _ _ _ _ _ _ _ (Act.put _ (some 15) _) _
      (try simp only [Act.put]); (try simp only [List.setIfInBounds_toArray]); (try simp only [List.set_cons_zero]); (try simp only [List.set_cons_succ])
      refine wpAnyH_done (by kernel_rfl) ?_ _
      clear hHeld HN HLe
      generalize (((((wk3.setCell ⟨n8, 0, none⟩ (.string R.ro)).setCell ⟨n8, 1, none⟩ (.int .i64 R.k)).setCell ⟨n8, 2, none⟩ (.string R.fr)).setCell ⟨n8, 3, none⟩ (.int .i64 R.ix)).setCell ⟨n8, 4, none⟩ (.slice ha R.kids.len hc)) = X at *
      refine key.out n8 ua uc ha hc _ ⟨X.heap.size, bs, HW.out, ⟨HNX.out, HO.out, fun x hx => ⟨(HG.out x hx).1, HO.out.lt x hx, (HG.out x hx).2⟩, HND.out, HLb.out, HNX.out.lt⟩, Nat.le_refl _, HT4.out, HT7.out⟩
  obtain ⟨hi8, hbs, hW, hT8, hh8, hT4, hT7⟩ := hF
  have HW := hide hW
  have HT4 := hide hT4
  have HT7 := hide hT7
  have HT8 := hide hT8
  clear hW hT4 hT7 hT8 hh8
  refine HKK.out _ _ ?_
  clear HKK
  obtain ⟨y0, y1, y2, y3, y4⟩ := HT4.out.hx.cells
  have yl := HT4.out.hx.lt
  obtain ⟨s0, s1, s2, s3, s4⟩ := HT8.out.hx.cells
  have sl := HT8.out.hx.lt
  go_wp2_with fail
  clear y0 y1 y2 y3 y4 yl s0 s1 s2 s3 s4 sl
  refine (Ne.eq_mon R.kids V9 R.ro R.k R.ix R.fr _ _ HT8.out.ho.sl HT4.out.ho.sl).mono ?_
  rintro e w15 ⟨rfl, hb⟩
  have HW := hide (HW.out.below hb)
  have HT4 := hide (HT4.out.below hb)
  have HT7 := hide (HT7.out.below hb)
  clear hb HT8
  obtain ⟨x0, x1, x2, x3, x4⟩ := HW.out.hx.cells
  have xl := HW.out.hx.lt
  obtain ⟨a0, a1, a2, a3⟩ := HW.out.hy.cells
  have al := HW.out.hy.lt
  obtain ⟨y0, y1, y2, y3, y4⟩ := HT4.out.hx.cells
  have yl := HT4.out.hx.lt
  obtain ⟨v0, v1, v2, v3, v4⟩ := HT7.out.hx.cells
  have vl := HT7.out.hx.lt
  go_wp2_with fail
  clear x0 x1 x2 x3 x4 xl a0 a1 a2 a3 al y0 y1 y2 y3 y4 yl v0 v1 v2 v3 v4 vl
  refine (held_mon R.kids w15 _ R.ro R.k R.ix R.fr 1 HT7.out.ho.sl (Nat.le_refl _) hsz2).mono ?_
  rw [← HM.out]
  rintro e w16 ⟨rfl, hb⟩
  have HW := hide (HW.out.below hb)
  have HT4 := hide (HT4.out.below hb)
  have HT7 := hide (HT7.out.below hb)
  clear hb
  obtain ⟨x0, x1, x2, x3, x4⟩ := HW.out.hx.cells
  have xl := HW.out.hx.lt
  obtain ⟨a0, a1, a2, a3⟩ := HW.out.hy.cells
  have al := HW.out.hy.lt
  obtain ⟨y0, y1, y2, y3, y4⟩ := HT4.out.hx.cells
  have yl := HT4.out.hx.lt
  obtain ⟨v0, v1, v2, v3, v4⟩ := HT7.out.hx.cells
  have vl := HT7.out.hx.lt
  go_wp2_with fail
  go_ret
  exact ⟨rfl, HW.out.hb⟩

/-- FnExactObserve returns true. -/
theorem ob_walk (w : World) (m : Ne.Mon) (a : Ne.Act) (sv : Value) (hs : Sl w sv m.kids) (hf : m.Fit) (ha : a.Fit) (T1 T2 : TypeId) (v1 v2 : Value) (he1 : w.cell? ⟨0, 0, none⟩ = some (.iface T1 v1)) (he2 : w.cell? ⟨1, 0, none⟩ = some (.iface T2 v2)) :
    Calls Tryz.prog 3 #[.agg #[.string m.ro, .int .i64 m.k, .string m.fr, .int .i64 m.ix, sv], .agg #[.string a.r, .bool a.rc, .string a.p, .string a.l]] w fun e w' => e = .returned (.bool true) ∧ Below w.heap.size w w' := by
  by_cases h : m.wt ≤ 1048576
  · by_cases h2 : m.wt + a.wt ≤ 1048576
    · exact ob_small w m a sv hs hf ha T1 T2 v1 v2 he1 he2 h2
    · exact ob_big2 w m a sv hs hf ha h (by omega)
  · exact ob_big w m a sv hs hf (by omega)
end Go.Proofs.YtgcefippeokmcabGreatDoor.Lo

/- What a law's call owes, once it is known that it returns true and has written to no old block. -/
namespace Go.Proofs.YtgcefippeokmcabGreatDoor
open Go.ChangeShapes Go.WideShapes Go.ChangeAt Go.RowKit

theorem Tryz.own : ownKnob Tryz.prog.godebug = none := by kernel_rfl
theorem Tryz.laidOut : laidOutB Tryz.prog = true := by kernel_rfl

section
variable {H : Type} {enc : TypeId × Value → H} {P : Program}

theorem trodAll_below (hl : laidOutB P = true) {W W' : World} (hb : Below W.heap.size W W') : ∀ (ts : List TypeId) (vs : List Value) (ds : List (DataW H)) (ps : List MemPlace),
    (ts.all fun t => P.readableRec t && decide (t < P.types.size)) = true → DataW.TrodAll enc P W 0 (fun _ => true) true ts vs ds ps → (∀ x ∈ ps, x.block < W.heap.size) →
    DataW.TrodAll enc P W' 0 (fun b => decide (b < W.heap.size)) true ts vs ds ps := by
  intro ts
  induction ts with
  | nil =>
    intro vs ds ps _ h _
    cases vs <;> cases ds <;> first | exact h | exact h.elim
  | cons t ts ih =>
    intro vs ds ps ht h hlt
    cases vs with
    | nil => cases ds <;> exact h.elim
    | cons v vs =>
      cases ds with
      | nil => exact h.elim
      | cons d ds =>
        obtain ⟨p, q, h1, h2, rfl⟩ := h
        simp only [List.all_cons, Bool.and_eq_true, decide_eq_true_eq] at ht
        exact ⟨p, q, Below.trod hl ht.1.1 ht.1.2 h1 hb (fun x hx => hlt x (List.mem_append_left _ hx)), ih vs ds q ht.2 h2 (fun x hx => hlt x (List.mem_append_right _ hx)), rfl⟩

/-- A law that returned true, and below the old heap's size nothing has turned. -/
theorem law_post {f : Func} {s : ChangeSpec} {W W' : World} {args : Array Value} {ds gs : List (DataW H)} {before : List MemPlace} {tb : TypeId} (hl : laidOutB P = true)
    (hp : (f.params.toList.all fun t => P.readableRec t && decide (t < P.types.size)) = true) (hrt : f.resultTypes = #[tb]) (htb : P.underlying tb = some .bool) (hvars : s.vars = [])
    (hfn : s.fn H (ds ++ gs) = { results := [.lit (.bool true)], args := ds }) (hW : DataW.Whole enc P f.params.toList s.vars false W args.toList ds gs before) (hb : Below W.heap.size W W') :
    s.post enc P f false true false false W args (.bool true) W' := by
  have hlt : ∀ p ∈ before, p.block < W.heap.size := fun p hp => hW.lt p hp
  have hW2 := hW
  obtain ⟨p, q, hA, hV, rfl, _, _⟩ := hW2
  rw [hvars] at hV
  obtain ⟨rfl, rfl⟩ := trodVars_none hV
  refine ⟨ds, [], p ++ [], [], p, [], hW, ?_, ?_, ?_, hb.frame _, fun h => by cases h⟩
  · rw [hfn, hrt]
    exact trodAll_mk1 (shut_bool htb true)
  · rw [hfn]
    exact trodAll_below hl hb _ _ _ _ hp hA (fun x hx => hlt x (List.mem_append_left _ hx))
  · rw [hfn, hvars]
    rfl
end
end Go.Proofs.YtgcefippeokmcabGreatDoor

/- An argument of the law's own type Local, opened: it reads as a tree. -/
namespace Go.Proofs.YtgcefippeokmcabGreatDoor.Lo
open Go.ChangeShapes Go.WideShapes Go.RowKit

theorem Tryz.cells24 : Tryz.prog.cellsOf ( /- t -/ 24) = 4 := by kernel_rfl
theorem Tryz.cells76 : Tryz.prog.cellsOf ( /- t -/ 76) = 5 := by kernel_rfl
theorem Tryz.cells9 : Tryz.prog.cellsOf ( /- t -/ 9) = 1 := by kernel_rfl
theorem Tryz.cells3 : Tryz.prog.cellsOf ( /- t -/ 3) = 1 := by kernel_rfl
theorem Tryz.cells22 : Tryz.prog.cellsOf ( /- t -/ 22) = 1 := by kernel_rfl

section
variable {H : Type} {enc : TypeId × Value → H} {W : World} {sp : Nat → Bool}

set_option maxRecDepth 100000 in
theorem open_node {fuel : Nat} {cs : List Value} {x : DataW H × List MemPlace} (h : DataW.trod enc Tryz.prog W 0 sp true fuel ( /- t -/ 24) cs = some x) :
    ∃ (k : Int) (fr : ByteArray) (ix : Int) (sv : Value) (n : Nat) (y : DataW H × List MemPlace), fuel = n + 1 ∧ cs = [.int .i64 k, .string fr, .int .i64 ix, sv] ∧ fr.size ≤ maxLen ∧
      (Lit.int .i64 k).wf = true ∧ (Lit.int .i64 ix).wf = true ∧ DataW.trod enc Tryz.prog W 0 sp true n ( /- t -/ 22) [sv] = some y := by
  obtain ⟨xs, n, rfl, -, hlen, hxl, hf⟩ := DataW.trod_struct Tryz.underlying24 h
  rw [Tryz.cells24] at hlen
  match cs, hlen, xs, hxl with
  | [c0, c1, c2, c3], _, [x0, x1, x2, x3], _ =>
    have g0 : DataW.trod enc Tryz.prog W 0 sp true n ( /- t -/ 3) (([c0, c1, c2, c3].drop 0).take (Tryz.prog.cellsOf ( /- t -/ 3))) = some x0 := hf 0 _ rfl
    have g1 : DataW.trod enc Tryz.prog W 0 sp true n ( /- t -/ 9) (([c0, c1, c2, c3].drop 1).take (Tryz.prog.cellsOf ( /- t -/ 9))) = some x1 := hf 1 _ rfl
    have g3 : DataW.trod enc Tryz.prog W 0 sp true n ( /- t -/ 3) (([c0, c1, c2, c3].drop 2).take (Tryz.prog.cellsOf ( /- t -/ 3))) = some x2 := hf 2 _ rfl
    have g4 : DataW.trod enc Tryz.prog W 0 sp true n ( /- t -/ 22) (([c0, c1, c2, c3].drop 3).take (Tryz.prog.cellsOf ( /- t -/ 22))) = some x3 := hf 3 _ rfl
    simp only [Tryz.cells3, Tryz.cells9, Tryz.cells22] at g0 g1 g3 g4
    obtain ⟨k, e0, -, w0⟩ := DataW.trod_int Tryz.underlying3 g0
    obtain ⟨fr, e1, -, w1⟩ := DataW.trod_string Tryz.underlying9 g1
    obtain ⟨ix, e3, -, w3⟩ := DataW.trod_int Tryz.underlying3 g3
    simp at e0 e1 e3
    subst e0 e1 e3
    exact ⟨k, fr, ix, c3, n, x3, rfl, rfl, w1, w0, w3, g4⟩

set_option maxRecDepth 100000 in
theorem open_branch {fuel : Nat} {cs : List Value} {x : DataW H × List MemPlace} (h : DataW.trod enc Tryz.prog W 0 sp true fuel ( /- t -/ 76) cs = some x) :
    ∃ (lab : ByteArray) (k : Int) (fr : ByteArray) (ix : Int) (sv : Value) (n : Nat) (y : DataW H × List MemPlace), n < fuel ∧ cs = [.string lab, .int .i64 k, .string fr, .int .i64 ix, sv] ∧ lab.size ≤ maxLen ∧ fr.size ≤ maxLen ∧
      (Lit.int .i64 k).wf = true ∧ (Lit.int .i64 ix).wf = true ∧ DataW.trod enc Tryz.prog W 0 sp true n ( /- t -/ 22) [sv] = some y := by
  obtain ⟨xs, n, rfl, -, hlen, hxl, hf⟩ := DataW.trod_struct Tryz.underlying76 h
  rw [Tryz.cells76] at hlen
  match cs, hlen, xs, hxl with
  | [c0, c1, c2, c3, c4], _, [x0, x1], _ =>
    have g0 : DataW.trod enc Tryz.prog W 0 sp true n ( /- t -/ 9) (([c0, c1, c2, c3, c4].drop 0).take (Tryz.prog.cellsOf ( /- t -/ 9))) = some x0 := hf 0 _ rfl
    have g1 : DataW.trod enc Tryz.prog W 0 sp true n ( /- t -/ 24) (([c0, c1, c2, c3, c4].drop 1).take (Tryz.prog.cellsOf ( /- t -/ 24))) = some x1 := hf 1 _ rfl
    simp only [Tryz.cells9, Tryz.cells24] at g0 g1
    obtain ⟨lab, e0, -, w0⟩ := DataW.trod_string Tryz.underlying9 g0
    obtain ⟨k, fr, ix, sv, m, y, rfl, e1, w1, w3, w4, g4⟩ := open_node g1
    simp at e0 e1
    obtain ⟨rfl, rfl, rfl, rfl⟩ := e1
    subst e0
    exact ⟨lab, k, fr, ix, c4, m, y, by omega, rfl, w0, w1, w3, w4, g4⟩

theorem add_spot (a : Addr) (i : Nat) (v : Value) (h : W.cell? (a.add i) = some v) : (a.add i) = ⟨a.block, a.off + i, none⟩ := by
  obtain ⟨b, o, s⟩ := a
  by_cases hi : i = 0
  · subst hi
    simp only [Addr.add, if_pos] at h ⊢
    cases s with
    | none => rfl
    | some t =>
      exfalso
      simp only [World.cell?] at h
      split at h <;> simp at h
  · simp [Addr.add, hi]

theorem open_tree : ∀ (fuel : Nat) (sv : Value) (x : DataW H × List MemPlace), DataW.trod enc Tryz.prog W 0 sp true fuel ( /- t -/ 22) [sv] = some x → ∃ f, Sl W sv f := by
  intro fuel
  induction fuel using Nat.strongRecOn with
  | ind fuel ih =>
    intro sv x h
    rcases DataW.trod_slice Tryz.underlying22 h with ⟨h0, -⟩ | ⟨a, len, cap, elems, rest, n, rfl, h0, -, -, hl, hm, hlen, hel, -, -⟩
    · simp only [List.cons.injEq, and_true] at h0
      exact ⟨.nil, h0 ▸ Sl.nil⟩
    · simp only [List.cons.injEq, and_true] at h0
      subst h0
      rw [Tryz.cells76] at hel
      have one : ∀ i, i < len → ∃ (lab : ByteArray) (k : Int) (fr : ByteArray) (ix : Int) (kids : F) (b5 : Option Addr) (cap5 : Nat), ∃ b o, a.block = b ∧ a.off = o ∧ (i = 0 → a = ⟨b, o, none⟩) ∧ lab.size ≤ maxLen ∧ fr.size ≤ maxLen ∧ (Lit.int .i64 k).wf = true ∧ (Lit.int .i64 ix).wf = true ∧
          W.cell? ⟨b, o + i * 5, none⟩ = some (.string lab) ∧ W.cell? ⟨b, o + i * 5 + 1, none⟩ = some (.int .i64 k) ∧ W.cell? ⟨b, o + i * 5 + 2, none⟩ = some (.string fr) ∧
          W.cell? ⟨b, o + i * 5 + 3, none⟩ = some (.int .i64 ix) ∧ W.cell? ⟨b, o + i * 5 + 4, none⟩ = some (.slice b5 kids.len cap5) ∧ kids.len ≤ cap5 ∧ cap5 ≤ maxLen ∧ (kids = .nil ∨ ∃ b' o', b5 = some ⟨b', o', none⟩ ∧ Row W b' o' kids) := by
        intro i hi
        have key := hel i hi
        rw [List.getElem?_eq_getElem (by omega)] at key
        obtain ⟨cs', h1, h2⟩ := Option.bind_eq_some_iff.1 key
        obtain ⟨-, hl6, hat⟩ := World.cells?_some h1
        obtain ⟨lab, k, fr, ix, sv', m, y, hmn, rfl, w0, w1, w3, w4, g⟩ := open_branch h2
        obtain ⟨kids, b5, cap5, rfl, q1, q2, q3⟩ := ih m (by omega) sv' y g
        have a0 : W.cell? ((a.add (i * 5)).add 0) = some (.string lab) := hat 0 (by omega)
        have a1 : W.cell? ((a.add (i * 5)).add 1) = some (.int .i64 k) := hat 1 (by omega)
        have a2 : W.cell? ((a.add (i * 5)).add 2) = some (.string fr) := hat 2 (by omega)
        have a3 : W.cell? ((a.add (i * 5)).add 3) = some (.int .i64 ix) := hat 3 (by omega)
        have a4 : W.cell? ((a.add (i * 5)).add 4) = some (.slice b5 kids.len cap5) := hat 4 (by omega)
        have a0' : W.cell? (a.add (i * 5)) = some (.string lab) := a0
        have e := add_spot a (i * 5) _ a0'
        rw [e] at a0' a1 a2 a3 a4
        refine ⟨lab, k, fr, ix, kids, b5, cap5, a.block, a.off, rfl, rfl, ?_, w0, w1, w3, w4, a0', ?_, ?_, ?_, ?_, q1, q2, q3⟩
        · rintro rfl
          simpa [Addr.add] using e
        · simpa [Addr.add] using a1
        · simpa [Addr.add] using a2
        · simpa [Addr.add] using a3
        · simpa [Addr.add] using a4
      have down : ∀ j, j ≤ len → ∃ g : F, g.len = j ∧ Row W a.block (a.off + (len - j) * 5) g := by
        intro j
        induction j with
        | zero => intro _; exact ⟨.nil, rfl, trivial⟩
        | succ j ihj =>
          intro hj
          obtain ⟨g, hg, hr⟩ := ihj (by omega)
          obtain ⟨lab, k, fr, ix, kids, b5, cap5, b, o, rfl, rfl, -, w0, w1, w3, w4, a0, a1, a2, a3, a4, q1, q2, q3⟩ := one (len - (j + 1)) (by omega)
          refine ⟨.cons lab k fr ix kids g, by simp only [F.len]; omega, w0, w1, w3, w4, a0, a1, a2, a3, ⟨b5, cap5, a4, q1, q2, q3⟩, ?_⟩
          rw [show a.off + (len - (j + 1)) * 5 + 5 = a.off + (len - j) * 5 by omega]
          exact hr
      obtain ⟨f, hf, hr⟩ := down len (Nat.le_refl _)
      refine ⟨f, some a, cap, by rw [hf], by omega, hm, ?_⟩
      cases f with
      | nil => exact Or.inl rfl
      | cons lab k fr ix kids rest' =>
        right
        simp only [F.len] at hf
        obtain ⟨_, _, _, _, _, _, _, b, o, rfl, rfl, ha, -⟩ := one 0 (by omega)
        refine ⟨a.block, a.off, by rw [← ha rfl], ?_⟩
        simpa using hr

set_option maxRecDepth 100000 in
/-- An argument of the type laws.Local. -/
theorem open_local {b0 : Nat} {v : Value} {d : DataW H} {p : List MemPlace} (hv : Value.okWide Tryz.prog W .any b0 ( /- t -/ 24) v) (h : DataW.Trod enc Tryz.prog W 0 sp true ( /- t -/ 24) v d p) :
    ∃ (k : Int) (fr : ByteArray) (ix : Int) (sv : Value) (kids : F), v = .agg #[.int .i64 k, .string fr, .int .i64 ix, sv] ∧ fr.size ≤ maxLen ∧ (Lit.int .i64 k).wf = true ∧ (Lit.int .i64 ix).wf = true ∧ Sl W sv kids := by
  obtain ⟨cs, rfl, hsz⟩ := okWide_struct Tryz.underlying24 hv
  obtain ⟨fuel, hf⟩ := h
  obtain ⟨k, fr, ix, sv, n, y, -, hcs, w1, w3, w4, g⟩ := open_node hf
  obtain ⟨kids, hk⟩ := open_tree n sv y g
  refine ⟨k, fr, ix, sv, kids, ?_, w1, w3, w4, hk⟩
  obtain ⟨l⟩ := cs
  simp only [Value.cells] at hcs
  rw [hcs]
end
end Go.Proofs.YtgcefippeokmcabGreatDoor.Lo

/- An argument that is a monitor, opened. -/
namespace Go.Proofs.YtgcefippeokmcabGreatDoor.Lo.Ne
open Go.ChangeShapes Go.WideShapes Go.RowKit

section
variable {H : Type} {enc : TypeId × Value → H} {W : World} {sp : Nat → Bool}
theorem Tryz.cells26 : Tryz.prog.cellsOf ( /- t -/ 26) = 5 := by kernel_rfl

set_option maxRecDepth 100000 in
/-- An argument of the type laws.Monitor. -/
theorem open_monitor {b0 : Nat} {v : Value} {d : DataW H} {p : List MemPlace} (hv : Value.okWide Tryz.prog W .any b0 ( /- t -/ 26) v) (h : DataW.Trod enc Tryz.prog W 0 sp true ( /- t -/ 26) v d p) :
    ∃ (m : Mon) (sv : Value), v = .agg #[.string m.ro, .int .i64 m.k, .string m.fr, .int .i64 m.ix, sv] ∧ Sl W sv m.kids ∧ m.Fit := by
  obtain ⟨cs, rfl, hsz⟩ := okWide_struct Tryz.underlying26 hv
  obtain ⟨fuel, hf⟩ := h
  obtain ⟨xs, n, rfl, -, hlen, hxl, hf⟩ := DataW.trod_struct Tryz.underlying26 hf
  rw [Tryz.cells26] at hlen
  obtain ⟨l⟩ := cs
  simp only [Value.cells] at hlen hf
  match l, hlen, xs, hxl with
  | [c0, c1, c2, c3, c4], _, [x0, x1], _ =>
    have g0 : DataW.trod enc Tryz.prog W 0 sp true n ( /- t -/ 9) (([c0, c1, c2, c3, c4].drop 0).take (Tryz.prog.cellsOf ( /- t -/ 9))) = some x0 := hf 0 _ rfl
    have g1 : DataW.trod enc Tryz.prog W 0 sp true n ( /- t -/ 24) (([c0, c1, c2, c3, c4].drop 1).take (Tryz.prog.cellsOf ( /- t -/ 24))) = some x1 := hf 1 _ rfl
    simp only [Tryz.cells9, Tryz.cells24] at g0 g1
    obtain ⟨ro, e0, -, w0⟩ := DataW.trod_string Tryz.underlying9 g0
    obtain ⟨k, fr, ix, sv, m, y, rfl, e1, w1, w3, w4, g4⟩ := open_node g1
    simp at e0 e1
    obtain ⟨rfl, rfl, rfl, rfl⟩ := e1
    subst e0
    obtain ⟨kids, hk⟩ := open_tree m c4 y g4
    exact ⟨⟨ro, k, fr, ix, kids⟩, c4, rfl, hk, w0, w1, w3, w4⟩
end
end Go.Proofs.YtgcefippeokmcabGreatDoor.Lo.Ne

/- An action of an argument, opened. -/
namespace Go.Proofs.YtgcefippeokmcabGreatDoor.Lo.Ne
open Go.ChangeShapes Go.WideShapes Go.RowKit

section
variable {H : Type} {enc : TypeId × Value → H} {W : World} {sp : Nat → Bool}

theorem Tryz.cells_act : Tryz.prog.cellsOf ( /- t -/ 28) = 4 := by kernel_rfl
theorem Tryz.cells_str : Tryz.prog.cellsOf ( /- t -/ 9) = 1 := by kernel_rfl
theorem Tryz.cells_bool : Tryz.prog.cellsOf ( /- t -/ 4) = 1 := by kernel_rfl

set_option maxRecDepth 100000 in
theorem open_action {fuel : Nat} {cs : List Value} {x : DataW H × List MemPlace} (h : DataW.trod enc Tryz.prog W 0 sp true fuel ( /- t -/ 28) cs = some x) :
    ∃ (r p l : ByteArray) (rc : Bool), cs = [.string r, .bool rc, .string p, .string l] ∧ r.size ≤ maxLen ∧ p.size ≤ maxLen ∧ l.size ≤ maxLen := by
  obtain ⟨xs, n, rfl, -, hlen, hxl, hf⟩ := DataW.trod_struct Tryz.underlying28 h
  rw [Tryz.cells_act] at hlen
  match cs, hlen, xs, hxl with
  | [c0, c1, c2, c3], _, [x0, x1, x2, x3], _ =>
    have g0 : DataW.trod enc Tryz.prog W 0 sp true n ( /- t -/ 9) (([c0, c1, c2, c3].drop 0).take (Tryz.prog.cellsOf ( /- t -/ 9))) = some x0 := hf 0 _ rfl
    have g1 : DataW.trod enc Tryz.prog W 0 sp true n ( /- t -/ 4) (([c0, c1, c2, c3].drop 1).take (Tryz.prog.cellsOf ( /- t -/ 4))) = some x1 := hf 1 _ rfl
    have g2 : DataW.trod enc Tryz.prog W 0 sp true n ( /- t -/ 9) (([c0, c1, c2, c3].drop 2).take (Tryz.prog.cellsOf ( /- t -/ 9))) = some x2 := hf 2 _ rfl
    have g3 : DataW.trod enc Tryz.prog W 0 sp true n ( /- t -/ 9) (([c0, c1, c2, c3].drop 3).take (Tryz.prog.cellsOf ( /- t -/ 9))) = some x3 := hf 3 _ rfl
    simp only [Tryz.cells_str, Tryz.cells_bool] at g0 g1 g2 g3
    obtain ⟨r, e0, -, w0⟩ := DataW.trod_string Tryz.underlying9 g0
    obtain ⟨rc, e1, -⟩ := DataW.trod_bool Tryz.underlying4 g1
    obtain ⟨p, e2, -, w2⟩ := DataW.trod_string Tryz.underlying9 g2
    obtain ⟨l, e3, -, w3⟩ := DataW.trod_string Tryz.underlying9 g3
    simp at e0 e1 e2 e3
    subst e0 e1 e2 e3
    exact ⟨r, p, l, rc, rfl, w0, w2, w3⟩

end
end Go.Proofs.YtgcefippeokmcabGreatDoor.Lo.Ne
