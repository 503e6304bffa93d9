/- l1Copy, l1Unfold and UnfoldGlobal of the model. -/
import Derived.Test.YtgcefippeokmcaaUs
import Derived.Test.YtgcefippeokmcaaCg
import Derived.Deep.LoopGhost
namespace Go.Proofs.Ytgcefippeokmcaa
open Go.RowKit

theorem Box5.setAll {w : World} {b : Nat} {v0 v1 v2 v3 v4 : Value} (h : Box5 w b v0 v1 v2 v3 v4) (u0 u1 u2 u3 u4 : Value) :
    Box5 (((((w.setCell ⟨b, 0, none⟩ u0).setCell ⟨b, 1, none⟩ u1).setCell ⟨b, 2, none⟩ u2).setCell ⟨b, 3, none⟩ u3).setCell ⟨b, 4, none⟩ u4) b u0 u1 u2 u3 u4 := by
  obtain ⟨t, h⟩ := h
  exact ⟨t, by simp [World.setCell, Array.getElem?_modify, h]⟩

theorem kept_none (j m : Nat) : ((kept j)[m]?).join = none := by
  unfold kept
  rw [List.getElem?_replicate]
  split <;> rfl
theorem cp_kept : ∀ (f : F) (j : Nat), cpF (kept j) f = f := by
  intro f
  induction f with
  | nil => intro j; rw [cpF]
  | cons lab k fr tg ix kids rest ihk ihr =>
    intro j
    unfold cpF
    by_cases h4 : k = 4
    · simp only [if_pos h4, kept_none, ihk j, ihr j]
    · simp only [if_neg h4, ihr j]
      by_cases h3 : k = 3
      · rw [if_pos h3, show none :: kept j = kept (j + 1) from rfl, ihk]
      · rw [if_neg h3, ihk]
theorem cpN_nil (g : Nd) : cpN [] g = g := by
  obtain ⟨k, fr, tg, ix, kids⟩ := g
  have := cp_kept (.cons ⟨#[]⟩ k fr tg ix kids .nil) 0
  rw [show kept 0 = ([] : List (Option Nd)) from rfl, cpF_cons] at this
  simp only [F.cons.injEq] at this
  obtain ⟨_, h1, h2, h3, h4, h5, _⟩ := this
  cases hc : cpN [] ⟨k, fr, tg, ix, kids⟩
  rw [hc] at h1 h2 h3 h4 h5
  simp only at h1 h2 h3 h4 h5
  rw [h1, h2, h3, h4, h5]

theorem cpN_fit {s : List (Option Nd)} {g : Nd} (hs : ∀ U, some U ∈ s → Fit U) (hg : Fit g) : Fit (cpN s g) := by
  unfold cpN
  split
  · split
    · rename_i U hU
      exact hs U (mem_of_join hU)
    · exact hg
  · exact hg

/-- A valid node in a place without a guarded recursion is no variable. -/
theorem not_var {g : Nd} {b : Int} (h : wN g b b = true) : g.k ≠ 4 := by
  intro h4
  unfold wN at h
  simp only [Bool.and_eq_true] at h
  have := h.2
  rw [if_pos h4] at this
  simp only [Bool.and_eq_true, decide_eq_true_eq] at this
  omega
theorem cpN_k {s : List (Option Nd)} {g : Nd} (h : g.k ≠ 4) : cpN s g = ⟨g.k, g.fr, g.tg, g.ix, cpF (if g.k = 3 then none :: s else s) g.kids⟩ := by
  unfold cpN
  rw [if_neg h]

/-- A recursion: its one branch. -/
theorem rec_kid {g : Nd} {b u : Int} (h : wN g b u = true) (h3 : g.k = 3) : ∃ lab k fr tg ix kids, g.kids = .cons lab k fr tg ix kids .nil ∧ wN ⟨k, fr, tg, ix, kids⟩ (b + 1) (u + 1) = true := by
  unfold wN at h
  simp only [Bool.and_eq_true] at h
  obtain ⟨h1, h2⟩ := h
  rw [h3] at h1
  obtain ⟨_, _, _, lab, k', fr', tg', ix', kids', e, _⟩ := shape_rec h1
  rw [if_neg (by omega), if_pos h3, e] at h2
  simp only [wF, Bool.and_true] at h2
  exact ⟨lab, k', fr', tg', ix', kids', e, h2⟩

/-- What holds at each head of the unfolding loop. -/
structure UlIs (T : Nd) (n : Nat) (s : List (Option Nd)) (N : Nd) : Prop where
  eq : unfN n s N = T
  sz : N.kids.sz < n
  va : VaS s
  w : wN N (s.length : Int) (s.length : Int) = true
  hs : ∀ U, some U ∈ s → hN U ≤ 41 * s.length
  h : s.length + hN N ≤ 41
  fit : ∀ U, some U ∈ s → Fit U

theorem UlIs.start {g : Nd} (hw : wN g 0 0 = true) (hh : hN g ≤ 40) : UlIs (unf g) (g.kids.sz + 1) [] g :=
  ⟨rfl, Nat.lt_succ_self _, fun x hx => by simp at hx, hw, fun U hU => by simp at hU, by simp; omega, fun U hU => by simp at hU⟩
/-- One recursion more. -/
theorem UlIs.step {T : Nd} {n : Nat} {s : List (Option Nd)} {N : Nd} (h : UlIs T (n + 1) s N) (h3 : N.k = 3) (hf : Fit (cpN s N)) {lab : ByteArray} {k : Int} {fr tg : ByteArray} {ix : Int} {kids : F} (hk : N.kids = .cons lab k fr tg ix kids .nil)
    (hw : wN ⟨k, fr, tg, ix, kids⟩ ((s.length : Int) + 1) ((s.length : Int) + 1) = true) : UlIs T n (some (cpN s N) :: s) ⟨k, fr, tg, ix, kids⟩ := by
  have hc := cpN_w s h.va N (wN_u _ _ _ _ h.w (by omega))
  have hh := cpN_h (41 * s.length) N s h.hs
  have h2 := h.h
  have hkh : hN N = 1 + (1 + hF kids) := by unfold hN; rw [hk]; simp [hF]
  have hsz := h.sz
  rw [hk] at hsz
  simp only [F.sz] at hsz
  refine ⟨?_, by simp only; omega, ?_, ?_, ?_, ?_, ?_⟩
  · have := h.eq
    unfold unfN at this
    rw [if_pos h3, hk] at this
    exact this
  · intro x hx
    rcases List.mem_cons.1 hx with rfl | hx
    · exact ⟨_, rfl, hc⟩
    · exact h.va x hx
  · rw [show (((some (cpN s N) :: s).length : Nat) : Int) = (s.length : Int) + 1 by simp]
    exact hw
  · intro U hU
    simp only [List.length_cons]
    rcases List.mem_cons.1 hU with hU | hU
    · cases hU
      omega
    · have := h.hs U hU
      omega
  · simp only [List.length_cons]
    unfold hN at hkh h2 ⊢
    simp only
    omega
  · intro U hU
    rcases List.mem_cons.1 hU with hU | hU
    · cases hU
      exact hf
    · exact h.fit U hU
theorem UlIs.stop {T : Nd} {n : Nat} {s : List (Option Nd)} {N : Nd} (h : UlIs T n s N) (h3 : N.k ≠ 3) : cpN s N = T := by
  have h1 := h.eq
  have h2 := h.sz
  cases n with
  | zero => omega
  | succ n =>
    unfold unfN at h1
    rw [if_neg h3] at h1
    exact h1

set_option maxHeartbeats 1000000 in
set_option maxRecDepth 100000 in
theorem copy_calls (w : World) (U : Nd) (su : Value) (hsu : Sl w su U.kids) (hc : CopyOk U) :
    Calls Try.prog 40 #[.agg #[.int .i64 U.k, .string U.fr, .string U.tg, .int .i64 U.ix, su]] w (MadeN U.k U.fr U.tg U.ix U.kids w) := by
  have HC := hide hc
  have HS := hide hsu
  clear hc hsu
  go_enter Try.func40, Try.ntmps40
  go_wp2_with fail
  refine (HC.out _ su (HS.out.still (Still.of_below ?_))).mono ?_
  · exact (alloc_below _ _).alloc (by simp) _
  rintro e w1 ⟨u, bs, rfl, how, hge, hnd, hb⟩
  obtain ⟨ua, uc, rfl⟩ := how.val
  have HO := hide how
  have HG := hide hge
  clear how hge
  obtain ⟨hc, hf⟩ := bcell hb
  have hz := hb.size
  simp at hz
  go_wp2_with fail
  refine bodyPost_ret (v := .agg #[.int .i64 U.k, .string U.fr, .string U.tg, .int .i64 U.ix, .slice ua U.kids.len uc]) (by simp [results, Try.results40, go_sem, hc]) rfl ?_
  have hB : Below w.heap.size w w1 := (((alloc_below w _).alloc (by simp) _).trans (hb.mono (by simp; omega)))
  have q : ∀ b, b ∈ bs → w.heap.size + 2 ≤ b := fun b h => by have := HG.out b h; simp at this; omega
  refine ⟨_, bs, rfl, HO.out.same ?_, fun b h => by have := q b h; omega, hnd, ?_⟩
  · repeat (refine Same.setCell ?_ (fun b h => by have := q b h; simp; omega) _)
    exact Same.refl _ _
  · repeat (refine Below.setCell ?_ (by first | (simp; done) | (simp; omega)) _)
    exact hB

/-- The loop's relation in memory. -/
def UlRel (w : World) (T : Nd) (n : Nat) (wr : World) : Prop :=
  ∃ s N sv, UlIs T n s N ∧ Box5 wr w.heap.size (.int .i64 (cpN s N).k) (.string (cpN s N).fr) (.string (cpN s N).tg) (.int .i64 (cpN s N).ix) sv ∧
    Sl wr sv (cpN s N).kids ∧ Fit (cpN s N) ∧ Box5 wr (w.heap.size + 1) (.int .i64 0) (.string ⟨#[]⟩) (.string ⟨#[]⟩) (.int .i64 0) (.slice none 0 0) ∧ Below w.heap.size w wr

set_option maxHeartbeats 2000000 in
set_option maxRecDepth 100000 in
/-- l1Unfold of the model. -/
theorem unf_calls (w : World) (g : Nd) (sv : Value) (hs : Sl w sv g.kids) (hw : wN g 0 0 = true) (hh : hN g ≤ 40) (hf : Fit g) :
    Calls Try.prog 19 #[.agg #[.int .i64 g.k, .string g.fr, .string g.tg, .int .i64 g.ix, sv]] w (MadeN (unf g).k (unf g).fr (unf g).tg (unf g).ix (unf g).kids w) := by
  have HST : Hid (UlRel w (unf g) (g.kids.sz + 1) ((w.alloc (.cells #[.int .i64 g.k, .string g.fr, .string g.tg, .int .i64 g.ix, sv] ( /- t -/ 25))).alloc (.cells #[.int .i64 0, .string ⟨#[]⟩, .string ⟨#[]⟩, .int .i64 0, .slice none 0 0] ( /- t -/ 25)))) := by
    have h1 := (Box5.now w (.int .i64 g.k) (.string g.fr) (.string g.tg) (.int .i64 g.ix) sv ( /- t -/ 25)).below (alloc_below _ (.cells #[.int .i64 0, .string ⟨#[]⟩, .string ⟨#[]⟩, .int .i64 0, .slice none 0 0] ( /- t -/ 25)))
    have h2 := Box5.now (w.alloc (.cells #[.int .i64 g.k, .string g.fr, .string g.tg, .int .i64 g.ix, sv] ( /- t -/ 25))) (.int .i64 0) (.string ⟨#[]⟩) (.string ⟨#[]⟩) (.int .i64 0) (.slice none 0 0) ( /- t -/ 25)
    rw [show (w.alloc (.cells #[.int .i64 g.k, .string g.fr, .string g.tg, .int .i64 g.ix, sv] ( /- t -/ 25))).heap.size = w.heap.size + 1 from by simp] at h2
    have h3 := (alloc_below w (.cells #[.int .i64 g.k, .string g.fr, .string g.tg, .int .i64 g.ix, sv] ( /- t -/ 25))).alloc (by simp) (.cells #[.int .i64 0, .string ⟨#[]⟩, .string ⟨#[]⟩, .int .i64 0, .slice none 0 0] ( /- t -/ 25))
    refine hide ⟨[], g, sv, UlIs.start hw hh, ?_, ?_, ?_, h2, h3⟩
    · rw [cpN_nil]; exact h1
    · rw [cpN_nil]; exact hs.still (Still.of_below h3)
    · rw [cpN_nil]; exact hf
  generalize unf g = T at *
  clear hw hh hf hs
  go_enter Try.func19, Try.ntmps19
  go_wp2_with fail
  go_loopg [3] (g.kids.sz + 1) (fun n v wr => UlRel w T n wr)
  case atStart => exact HST.out
  case round =>
    obtain ⟨s, N, sv', hul, hx, hsl, hft, hz, hb⟩ := hrel
    obtain ⟨x0, x1, x2, x3, x4⟩ := hx.cells
    have fx := hx.frozen
    have hxl := hx.lt
    have hnv := not_var hul.w
    by_cases h3 : N.k = 3
    · have hk : (cpN s N).k = 3 := by rw [cpN_k hnv]; exact h3
      obtain ⟨lab, k', fr', tg', ix', kids', hkid, hw'⟩ := rec_kid hul.w h3
      obtain ⟨C, hC⟩ : ∃ C, C = cpN s N := ⟨_, rfl⟩
      obtain ⟨M, hM⟩ : ∃ M, M = cpN (none :: s) ⟨k', fr', tg', ix', kids'⟩ := ⟨_, rfl⟩
      have hCk : C.kids = .cons lab M.k M.fr M.tg M.ix M.kids .nil := by
        rw [hC, cpN_k hnv, if_pos h3, hkid, cpF_cons, hM]
        simp only [cpF]
      rw [← hC] at x0 x1 x2 x3 hsl hft hx hk
      obtain ⟨a, cap, rfl, hlen, hat⟩ := hsl.at
      rw [hCk] at hat
      obtain ⟨b', o, rfl, l1, l2, l3, l4, l5, c0, c1, c2, c3, c4, ⟨sv2, c5, hsv⟩, -⟩ := hat.head
      simp only [Nat.zero_mul, Nat.add_zero] at c0 c1 c2 c3 c4 c5
      have hl1 : C.kids.len = 1 := by rw [hCk]; rfl
      cases gk with
      | zero => exact absurd hul.sz (by omega)
      | succ n =>
      have hva := cpN_w s hul.va N (wN_u _ _ _ _ hul.w (by omega))
      rw [← hC] at hva
      have hCh : hN C ≤ 2000 := by
        have h1 := cpN_h (41 * s.length) N s hul.hs
        have h2 := hul.h
        rw [hC]
        omega
      have hMw : ∃ b u, 0 ≤ u ∧ wN M b u = true := by
        have h1 := cp_w s hul.va (.cons ⟨#[]⟩ k' fr' tg' ix' kids' .nil) 1 ((s.length : Int) + 1) (by omega) (by
          rw [show ((1 + s.length : Nat) : Int) = (s.length : Int) + 1 by omega]
          simp only [wF, Bool.and_true]
          exact hw')
        rw [show kept 1 ++ s = none :: s from rfl, cpF_cons, ← hM] at h1
        simp only [wF, cpF, Bool.and_true] at h1
        exact ⟨_, _, by omega, h1⟩
      have hMh : hF M.kids ≤ 4000 := by
        have h1 := cpN_h (41 * s.length) ⟨k', fr', tg', ix', kids'⟩ (none :: s) (fun U hU => by
          rcases List.mem_cons.1 hU with h | h
          · cases h
          · exact hul.hs U h)
        have h2 := hul.h
        have h3 : hN N = 1 + (1 + hF kids') := by unfold hN; rw [hkid]; simp [hF]
        rw [← hM] at h1
        unfold hN at h1 h2 h3
        simp only at h1
        omega
      have hstep := hul.step h3 (by rw [← hC]; exact hft) hkid hw'
      rw [← hC] at hstep
      have hsub : subN C M 0 = cpN (some C :: s) ⟨k', fr', tg', ix', kids'⟩ := by
        rw [hM]
        exact sub_cpN C s hul.va.cl _ _ (scN_of_w _ _ _ (by omega) hw')
      have hok : CopyOk C := copy_ok C 0 0 (by omega) (by omega) hva hft (by omega)
      have hdr : Still wr wr.drew := fun _ _ h => h
      have HCALL : Hid (Calls Try.prog 39 #[.agg #[.int .i64 M.k, .string M.fr, .string M.tg, .int .i64 M.ix, sv2], .agg #[.int .i64 C.k, .string C.fr, .string C.tg, .int .i64 C.ix, .slice (some ⟨b', o, none⟩) C.kids.len cap], .int .i64 0] wr.drew (MadeN (subN C M 0).k (subN C M 0).fr (subN C M 0).tg (subN C M 0).ix (subN C M 0).kids wr.drew)) :=
        hide (sub_all (M.kids.sz + 1) wr.drew M.k M.ix 0 M.fr M.tg sv2 M.kids C _ (Nat.lt_succ_self _) (hsv.still hdr) (hsl.still hdr) ⟨l2, l3, l4, l5⟩ hft (by omega) (by omega) hMw (Or.inr hok))
      have HFM : Hid (Fit (cpN (some C :: s) ⟨k', fr', tg', ix', kids'⟩)) := hide (by rw [← hsub]; exact subN_fit ⟨l2, l3, l4, l5⟩ hft)
      rw [hsub] at HCALL
      have HSTEP := hide hstep
      have HB := hide hb
      have HZ := hide hz
      have HX := hide hx
      have hlt : (0 : Int) < (C.kids.len : Int) := by rw [hl1]; decide
      have hlt2 : 0 < C.kids.len := by omega
      have hq : (C.k == 3) = true := beq_iff_eq.2 hk
      clear hl1 hk hul hsl hft hz hb hx hC hM hCk hat hva hCh hMw hMh hstep hsub hok hdr hsv hkid hw' h3 l1 l2 l3 l4 l5 hlen c0 hnv
      go_wp2_with fail
      refine wp_region_T (fun w' => w'.cell? ⟨w.heap.size, 0, none⟩ = some (.int .i64 C.k) ∧ w'.cell? ⟨w.heap.size, 1, none⟩ = some (.string C.fr) ∧ w'.cell? ⟨w.heap.size, 2, none⟩ = some (.string C.tg) ∧ w'.cell? ⟨w.heap.size, 3, none⟩ = some (.int .i64 C.ix) ∧ w'.cell? ⟨w.heap.size, 4, none⟩ = some (.slice (some ⟨b', o, none⟩) C.kids.len cap) ∧
        w'.cell? ⟨b', o + 1, none⟩ = some (.int .i64 M.k) ∧ w'.cell? ⟨b', o + 2, none⟩ = some (.string M.fr) ∧ w'.cell? ⟨b', o + 3, none⟩ = some (.string M.tg) ∧ w'.cell? ⟨b', o + 4, none⟩ = some (.int .i64 M.ix) ∧ w'.cell? ⟨b', o + 5, none⟩ = some sv2) 7 (by kernel_rfl) ⟨x0, x1, x2, x3, x4, c1, c2, c3, c4, c5⟩ (fun hHeld => ?_)
      refine wpAnyT_take (L := 7) (i := 0) (v := ?v0) rfl (by kernel_rfl) (by kernel_rfl) (by kernel_rfl) (by kernel_rfl) (fun _ _ _ h => h) hHeld (Or.inl ⟨by rfl, ?hy0⟩) ?rest0
      case hy0 => ((intro w' hw'); (try dsimp only at hw'); (go_simp); (try with_reducible rfl))
      (try simp only [Act.put]); (try simp only [List.setIfInBounds_toArray]); (try simp only [List.set_cons_zero]); (try simp only [List.set_cons_succ])
      refine wpAnyT_take (L := 7) (i := 1) (v := ?v1) rfl (by kernel_rfl) (by kernel_rfl) (by kernel_rfl) (by kernel_rfl) (fun _ _ _ h => h) hHeld (Or.inl ⟨by rfl, ?hy1⟩) ?rest1
      case hy1 => ((intro w' hw'); (try dsimp only at hw'); (go_simp); (try with_reducible rfl))
      (try simp only [Act.put]); (try simp only [List.setIfInBounds_toArray]); (try simp only [List.set_cons_zero]); (try simp only [List.set_cons_succ])
      refine wpAnyT_take (L := 7) (i := 2) (v := ?v2) rfl (by kernel_rfl) (by kernel_rfl) (by kernel_rfl) (by kernel_rfl) (fun _ _ _ h => h) hHeld (Or.inl ⟨by rfl, ?hy2⟩) ?rest2
      case hy2 => ((intro w' hw'); (try dsimp only at hw'); (go_simp); (try with_reducible rfl))
      (try simp only [Act.put]); (try simp only [List.setIfInBounds_toArray]); (try simp only [List.set_cons_zero]); (try simp only [List.set_cons_succ])
      refine wpAnyT_take (L := 7) (i := 3) (v := ?v3) rfl (by kernel_rfl) (by kernel_rfl) (by kernel_rfl) (by kernel_rfl) (fun _ _ _ h => h) hHeld (Or.inl ⟨by rfl, ?hy3⟩) ?rest3
      case hy3 => ((intro w' hw'); (try dsimp only at hw'); (go_simp); (try with_reducible rfl))
      (try simp only [Act.put]); (try simp only [List.setIfInBounds_toArray]); (try simp only [List.set_cons_zero]); (try simp only [List.set_cons_succ])
      refine wpAnyT_take (L := 7) (i := 4) (v := ?v4) rfl (by kernel_rfl) (by kernel_rfl) (by kernel_rfl) (by kernel_rfl) (fun _ _ _ h => h) hHeld (Or.inl ⟨by rfl, ?hy4⟩) ?rest4
      case hy4 => ((intro w' hw'); (try dsimp only at hw'); (go_simp); (try with_reducible rfl))
      (try simp only [Act.put]); (try simp only [List.setIfInBounds_toArray]); (try simp only [List.set_cons_zero]); (try simp only [List.set_cons_succ])
      refine wpAnyT_take (L := 7) (i := 5) (v := ?v5) rfl (by kernel_rfl) (by kernel_rfl) (by kernel_rfl) (by kernel_rfl) (fun _ _ _ h => h) hHeld (Or.inl ⟨by rfl, ?hy5⟩) ?rest5
      case hy5 => ((intro w' hw'); (try dsimp only at hw'); (go_simp); (try with_reducible rfl))
      (try simp only [Act.put]); (try simp only [List.setIfInBounds_toArray]); (try simp only [List.set_cons_zero]); (try simp only [List.set_cons_succ])
      refine wpAnyT_one (L := 7) (i := 6) (by kernel_rfl) rfl (fun K hK => ?_)
      go_simp
      go_at_call 39
      (with_reducible refine HCALL.out.mono ?_)
      rintro e w5 ⟨u, ks, rfl, how, hks, hknd, hb5⟩
      obtain ⟨ua, uc, rfl⟩ := how.val
      have hst := Still.of_below hb5
      refine hK.out _ _ (fun _ => ⟨hst _ _ x0, hst _ _ x1, hst _ _ x2, hst _ _ x3, hst _ _ x4, hst _ _ c1, hst _ _ c2, hst _ _ c3, hst _ _ c4, hst _ _ c5⟩) ?_
      clear hK K
      (try simp only [Act.put]); (try simp only [List.setIfInBounds_toArray]); (try simp only [List.set_cons_zero]); (try simp only [List.set_cons_succ])
      have hx5 := (HX.out.same (w' := wr.drew) rfl).below hb5
      obtain ⟨e0, e1, e2, e3, e4⟩ := hx5.cells
      have fe := hx5.frozen
      refine wpAnyT_one (L := 7) (i := 7) (by kernel_rfl) rfl (fun K hK => ?_)
      go_simp
      refine hK.out _ _ (fun h => absurd rfl h) ?_
      refine wpAnyT_done (by kernel_rfl) ?_ _
      clear hK K
      have hzz := (HZ.out.same (w' := wr.drew) rfl).below hb5
      have hbb := HB.out.drew.trans (hb5.mono HB.out.drew.size)
      have hxa := hx5.setAll (.int .i64 (cpN (some C :: s) ⟨k', fr', tg', ix', kids'⟩).k) (.string (cpN (some C :: s) ⟨k', fr', tg', ix', kids'⟩).fr) (.string (cpN (some C :: s) ⟨k', fr', tg', ix', kids'⟩).tg) (.int .i64 (cpN (some C :: s) ⟨k', fr', tg', ix', kids'⟩).ix) (.slice ua (cpN (some C :: s) ⟨k', fr', tg', ix', kids'⟩).kids.len uc)
      have HREL : Hid (UlRel w T n (((((w5.setCell ⟨w.heap.size, 0, none⟩ (.int .i64 (cpN (some C :: s) ⟨k', fr', tg', ix', kids'⟩).k)).setCell ⟨w.heap.size, 1, none⟩ (.string (cpN (some C :: s) ⟨k', fr', tg', ix', kids'⟩).fr)).setCell ⟨w.heap.size, 2, none⟩ (.string (cpN (some C :: s) ⟨k', fr', tg', ix', kids'⟩).tg)).setCell ⟨w.heap.size, 3, none⟩ (.int .i64 (cpN (some C :: s) ⟨k', fr', tg', ix', kids'⟩).ix)).setCell ⟨w.heap.size, 4, none⟩ (.slice ua (cpN (some C :: s) ⟨k', fr', tg', ix', kids'⟩).kids.len uc))) := by
        have q : ∀ b, b ∈ ks → w.heap.size < b := fun b hb => by have := hks b hb; simp at this; omega
        refine hide ⟨some C :: s, ⟨k', fr', tg', ix', kids'⟩, _, HSTEP.out, hxa, (how.same ?_).sl, HFM.out, ?_, ?_⟩
        · repeat (refine Same.setCell ?_ (fun b h => by have := q b h; simp; omega) _)
          exact Same.refl _ _
        · exact ((((hzz.setOther (by simp) _).setOther (by simp) _).setOther (by simp) _).setOther (by simp) _).setOther (by simp) _
        · exact ((((hbb.setCell (by simp) _).setCell (by simp) _).setCell (by simp) _).setCell (by simp) _).setCell (by simp) _
      clear hzz hbb hxa how hks hknd hx5 e0 e1 e2 e3 e4 fe
      go_wp2_with fail
      go_roundg n
      case rel => exact HREL.out
      case measure => omega
    · have hT := hul.stop h3
      have hk : (cpN s N).k ≠ 3 := by rw [cpN_k hnv]; exact h3
      have hva := cpN_w s hul.va N (wN_u _ _ _ _ hul.w (by omega))
      have hTh : hN T ≤ 2000 := by
        have h1 := cpN_h (41 * s.length) N s hul.hs
        have h2 := hul.h
        rw [← hT]
        omega
      rw [hT] at x0 x1 x2 x3 hsl hft hx hk hva
      have HOK : Hid (CopyOk T) := hide (copy_ok T 0 0 (by omega) (by omega) hva hft (by omega))
      have hq : (T.k == 3) = false := beq_eq_false_iff_ne.2 hk
      have HB := hide hb
      have HZ := hide hz
      have HS := hide hsl
      clear hul hft hb hz hx hT hk hva hTh hnv hsl
      go_wp2_with fail
      refine (copy_calls _ T sv' HS.out HOK.out).mono ?_
      rintro e w5 ⟨u, ks, rfl, how, hks, hknd, hb5⟩
      obtain ⟨ua, uc, rfl⟩ := how.val
      have hz5 := HZ.out.below hb5
      obtain ⟨z0, z1, z2, z3, z4⟩ := hz5.cells
      have fz := hz5.frozen
      have HO := hide how
      have HG := hide hks
      have HB5 := hide (HB.out.trans (hb5.mono HB.out.size))
      clear how hks hb5 hz5
      go_wp2_with fail
      refine bodyPost_ret (v := .agg #[.int .i64 T.k, .string T.fr, .string T.tg, .int .i64 T.ix, .slice ua T.kids.len uc]) (by simp [results, Try.results19, go_sem, *]) rfl ?_
      have hzl := HZ.out.lt
      have q : ∀ b, b ∈ ks → w.heap.size + 1 < b := fun b h => by have := HG.out b h; omega
      refine ⟨_, ks, rfl, HO.out.same ?_, fun b h => by have := q b h; omega, hknd, ?_⟩
      · repeat (refine Same.setCell ?_ (fun b h => by have := q b h; simp; omega) _)
        exact Same.refl _ _
      · repeat (refine Below.setCell ?_ (by first | (simp; done) | (simp; omega)) _)
        exact HB5.out

end Go.Proofs.Ytgcefippeokmcaa
