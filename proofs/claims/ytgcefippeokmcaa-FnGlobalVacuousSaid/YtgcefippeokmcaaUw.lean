/- UnfoldGlobal of the program. -/
import Derived.Test.YtgcefippeokmcaaUy
import Derived.Test.YtgcefippeokmcaaCh
import Derived.Deep.LoopGhost
namespace Go.Proofs.Ytgcefippeokmcaa
open Go.RowKit

theorem EnvIs.cons {W0 w : World} {c g r o cap : Nat} {s : List (Option Nd)} {N : Nd} {sv ov : Value} (h : EnvIs W0 w c s (.slice (some ⟨g, 0, none⟩) s.length cap)) (h1 : s.length + 1 ≤ cap) (h2 : cap ≤ maxLen) (hy : w.cell? ⟨g, s.length, none⟩ = some (cloV r o c))
    (hr : Cell5 w r N sv) (hs : Sl W0 sv N.kids) (hf : Fit N) (ho : w.cell? ⟨o, 0, none⟩ = some ov) (hov : EnvIs W0 w c s ov) (hcr : c < r) : EnvIs W0 w c (some N :: s) (.slice (some ⟨g, 0, none⟩) (s.length + 1) cap) :=
  ⟨g, cap, rfl, h1, h2, h, r, o, sv, ov, hy, hr, hs, hf, ho, hov, hcr⟩

/-- The environment's slice is the call's own. -/
def EnvOwn (wr : World) (c : Nat) (s : List (Option Nd)) (ev : Value) : Prop :=
  (s = [] ∧ ev = .slice none 0 0) ∨ ∃ b cap cur, s ≠ [] ∧ ev = .slice (some ⟨b, 0, none⟩) s.length cap ∧ wr.heap[b]? = some (.cells cur ( /- t -/ 70) (0, 0)) ∧ cur.size = cap ∧ c < b

/-- What holds at each head of the loop. -/
def UyRel (w : World) (c : Nat) (T : Nd) (n : Nat) (ev : Value) (wr : World) : Prop :=
  ∃ (s : List (Option Nd)) (N : Nd) (sv : Value), UlIs T n (vals s) N ∧ Sl w sv N.kids ∧ Fit N ∧ Box5 wr w.heap.size (.int .i64 N.k) (.string N.fr) (.string N.tg) (.int .i64 N.ix) sv ∧
    Box5 wr (w.heap.size + 1) (.int .i64 0) (.string ⟨#[]⟩) (.string ⟨#[]⟩) (.int .i64 0) (.slice none 0 0) ∧ Ctr wr c 0 ∧ EnvIs w wr c s ev ∧ GoodS s ∧ EnvOwn wr c s ev ∧ Below w.heap.size w wr

/-- One recursion more. -/
theorem UyRel.push {w w6 : World} {c n : Nat} {T N C : Nd} {s : List (Option Nd)} {v' sv svc : Value} (hwc : w.heap.size + 1 < c) (hul : UlIs T n (vals (some N :: s)) C) (hsc : Sl w svc C.kids) (hfc : Fit C) (hsl : Sl w sv N.kids)
    (hx : Box5 w6 w.heap.size (.int .i64 N.k) (.string N.fr) (.string N.tg) (.int .i64 N.ix) sv) (hz : Box5 w6 (w.heap.size + 1) (.int .i64 0) (.string ⟨#[]⟩) (.string ⟨#[]⟩) (.int .i64 0) (.slice none 0 0)) (hc : Ctr w6 c 0)
    (he : EnvIs w w6 c (some N :: s) v') (hg : GoodS (some N :: s)) (ho : EnvOwn w6 c (some N :: s) v') (hb : Below w.heap.size w w6) :
    UyRel w c T n v' (((((w6.setCell ⟨w.heap.size, 0, none⟩ (.int .i64 C.k)).setCell ⟨w.heap.size, 1, none⟩ (.string C.fr)).setCell ⟨w.heap.size, 2, none⟩ (.string C.tg)).setCell ⟨w.heap.size, 3, none⟩ (.int .i64 C.ix)).setCell ⟨w.heap.size, 4, none⟩ svc) := by
  have far : ∀ b, b ≠ w.heap.size → (((((w6.setCell ⟨w.heap.size, 0, none⟩ (.int .i64 C.k)).setCell ⟨w.heap.size, 1, none⟩ (.string C.fr)).setCell ⟨w.heap.size, 2, none⟩ (.string C.tg)).setCell ⟨w.heap.size, 3, none⟩ (.int .i64 C.ix)).setCell ⟨w.heap.size, 4, none⟩ svc).heap[b]? = w6.heap[b]? := fun b hb => by
    rw [Below.heap_setCell _ _ _ _ hb, Below.heap_setCell _ _ _ _ hb, Below.heap_setCell _ _ _ _ hb, Below.heap_setCell _ _ _ _ hb, Below.heap_setCell _ _ _ _ hb]
  have hal := hx.setAll (.int .i64 C.k) (.string C.fr) (.string C.tg) (.int .i64 C.ix) svc
  have hbb : Below w.heap.size w (((((w6.setCell ⟨w.heap.size, 0, none⟩ (.int .i64 C.k)).setCell ⟨w.heap.size, 1, none⟩ (.string C.fr)).setCell ⟨w.heap.size, 2, none⟩ (.string C.tg)).setCell ⟨w.heap.size, 3, none⟩ (.int .i64 C.ix)).setCell ⟨w.heap.size, 4, none⟩ svc) :=
    ((((hb.setCell (by simp) _).setCell (by simp) _).setCell (by simp) _).setCell (by simp) _).setCell (by simp) _
  generalize (((((w6.setCell ⟨w.heap.size, 0, none⟩ (.int .i64 C.k)).setCell ⟨w.heap.size, 1, none⟩ (.string C.fr)).setCell ⟨w.heap.size, 2, none⟩ (.string C.tg)).setCell ⟨w.heap.size, 3, none⟩ (.int .i64 C.ix)).setCell ⟨w.heap.size, 4, none⟩ svc) = w7 at *
  refine ⟨some N :: s, C, svc, hul, hsc, hfc, hal, hz.same (far _ (by omega)), hc.same (far _ (by omega)), ?_, hg, ?_, hbb⟩
  · obtain ⟨x0, x1, x2, x3, x4⟩ := hx.cells
    obtain ⟨ka, kc, rfl, _⟩ := hsl
    refine EnvIs.keep (fun p => p.block = w.heap.size) (s.length + 1) (fun p v e hp => ?_) (fun b j v _ e hv hp => ?_) (fun rb R sv hcr _ j _ hp => ?_) (fun ob a n cap e hp => ?_) _ _ (by simp) he
    · rw [World.cell?_of_block (far _ hp)]
      exact e
    · simp only at hp
      subst hp
      obtain ⟨t, ht⟩ := hx
      have hj : j = 0 ∨ j = 1 ∨ j = 2 ∨ j = 3 ∨ j = 4 ∨ 5 ≤ j := by omega
      rcases hj with rfl | rfl | rfl | rfl | rfl | hj
      · rw [x0] at e; rcases hv with rfl | ⟨_, _, rfl⟩ <;> simp [cloV] at e
      · rw [x1] at e; rcases hv with rfl | ⟨_, _, rfl⟩ <;> simp [cloV] at e
      · rw [x2] at e; rcases hv with rfl | ⟨_, _, rfl⟩ <;> simp [cloV] at e
      · rw [x3] at e; rcases hv with rfl | ⟨_, _, rfl⟩ <;> simp [cloV] at e
      · rw [x4] at e; rcases hv with rfl | ⟨_, _, rfl⟩ <;> simp [cloV] at e
      · rw [cell_of_heap ht, Array.getElem?_eq_none (by simp; omega)] at e
        cases e
    · simp only at hp
      omega
    · simp only at hp
      subst hp
      rw [x0] at e
      simp at e
  · rcases ho with ⟨h, _⟩ | ⟨b, cap, cur, h1, h2, h3, h4, h5⟩
    · cases h
    · exact Or.inr ⟨b, cap, cur, h1, h2, (far b (by omega)).trans h3, h4, h5⟩

/-- What is known in a round once the closure is made. -/
structure UwF (w w6 : World) (C r : Nat) (N : Nd) (sv ev : Value) (b' o : Nat) (M : Nd) (svc : Value) (s : List (Option Nd)) : Prop where
  hx : Box5 w6 w.heap.size (.int .i64 N.k) (.string N.fr) (.string N.tg) (.int .i64 N.ix) sv
  hz : Box5 w6 (w.heap.size + 1) (.int .i64 0) (.string ⟨#[]⟩) (.string ⟨#[]⟩) (.int .i64 0) (.slice none 0 0)
  hc : Ctr w6 C 0
  he : EnvIs w w6 C s ev
  hr : Cell5 w6 r N sv
  ho : w6.cell? ⟨r + 1, 0, none⟩ = some ev
  hk : w6.cell? ⟨b', o + 1, none⟩ = some (.int .i64 M.k) ∧ w6.cell? ⟨b', o + 2, none⟩ = some (.string M.fr) ∧ w6.cell? ⟨b', o + 3, none⟩ = some (.string M.tg) ∧ w6.cell? ⟨b', o + 4, none⟩ = some (.int .i64 M.ix) ∧ w6.cell? ⟨b', o + 5, none⟩ = some svc
  hb : Below w.heap.size w w6

theorem UwF.below {w w6 w7 : World} {C r : Nat} {N : Nd} {sv ev : Value} {b' o : Nat} {M : Nd} {svc : Value} {s : List (Option Nd)} (h : UwF w w6 C r N sv ev b' o M svc s) (hb : Below w6.heap.size w6 w7) : UwF w w7 C r N sv ev b' o M svc s := by
  have st := Still.of_below hb
  obtain ⟨r0, r1, r2, r3, r4⟩ := h.hr
  obtain ⟨k1, k2, k3, k4, k5⟩ := h.hk
  exact ⟨h.hx.below hb, h.hz.below hb, h.hc.below hb, h.he.still st, ⟨st _ _ r0, st _ _ r1, st _ _ r2, st _ _ r3, st _ _ r4⟩, st _ _ h.ho, ⟨st _ _ k1, st _ _ k2, st _ _ k3, st _ _ k4, st _ _ k5⟩, h.hb.trans (hb.mono h.hb.size)⟩
/-- A cell elsewhere is written. -/
theorem UwF.set {w w6 : World} {C r : Nat} {N : Nd} {sv ev : Value} {b' o : Nat} {M : Nd} {svc : Value} {s : List (Option Nd)} (h : UwF w w6 C r N sv ev b' o M svc s) (p : Addr) (y : Value) (h1 : w.heap.size + 1 < p.block) (h2 : p.block ≠ C) (h3 : p.block ≠ r) (h4 : p.block ≠ r + 1) (h5 : b' < w.heap.size)
    (he : EnvIs w (w6.setCell p y) C s ev) : UwF w (w6.setCell p y) C r N sv ev b' o M svc s := by
  have st : ∀ (b o : Nat) (v : Value), b ≠ p.block → w6.cell? ⟨b, o, none⟩ = some v → (w6.setCell p y).cell? ⟨b, o, none⟩ = some v := fun b o v hb hc => by
    rw [World.cell?_of_block (Below.heap_setCell _ _ _ _ hb)]
    exact hc
  obtain ⟨r0, r1, r2, r3, r4⟩ := h.hr
  obtain ⟨k1, k2, k3, k4, k5⟩ := h.hk
  exact ⟨h.hx.setOther (by omega) _, h.hz.setOther (by omega) _, h.hc.setOther (Ne.symm h2) _, he, ⟨st _ _ _ (Ne.symm h3) r0, st _ _ _ (Ne.symm h3) r1, st _ _ _ (Ne.symm h3) r2, st _ _ _ (Ne.symm h3) r3, st _ _ _ (Ne.symm h3) r4⟩,
    st _ _ _ (Ne.symm h4) h.ho, ⟨st _ _ _ (by omega) k1, st _ _ _ (by omega) k2, st _ _ _ (by omega) k3, st _ _ _ (by omega) k4, st _ _ _ (by omega) k5⟩, h.hb.setCell (by omega) _⟩

set_option maxHeartbeats 4000000 in
set_option maxRecDepth 100000 in
theorem implUnf (w : World) (g : Nd) (sv : Value) (hs : Sl w sv g.kids) (hf : Fit g) :
    Calls Try.prog 6 #[.agg #[.int .i64 g.k, .string g.fr, .string g.tg, .int .i64 g.ix, sv]] w (MadeR (unfR g) (unfOk g) w) := by
  have HS := hide hs
  have HF := hide hf
  have hb0 := (alloc_below w (.cells #[.int .i64 g.k, .string g.fr, .string g.tg, .int .i64 g.ix, sv] ( /- t -/ 25))).alloc (by simp) (.cells #[.int .i64 0, .string ⟨#[]⟩, .string ⟨#[]⟩, .int .i64 0, .slice none 0 0] ( /- t -/ 25))
  have hx0 := (Box5.now w (.int .i64 g.k) (.string g.fr) (.string g.tg) (.int .i64 g.ix) sv ( /- t -/ 25)).below (alloc_below _ (.cells #[.int .i64 0, .string ⟨#[]⟩, .string ⟨#[]⟩, .int .i64 0, .slice none 0 0] ( /- t -/ 25)))
  have hz0 := Box5.now (w.alloc (.cells #[.int .i64 g.k, .string g.fr, .string g.tg, .int .i64 g.ix, sv] ( /- t -/ 25))) (.int .i64 0) (.string ⟨#[]⟩) (.string ⟨#[]⟩) (.int .i64 0) (.slice none 0 0) ( /- t -/ 25)
  rw [show (w.alloc (.cells #[.int .i64 g.k, .string g.fr, .string g.tg, .int .i64 g.ix, sv] ( /- t -/ 25))).heap.size = w.heap.size + 1 from by simp] at hz0
  have HB0 := hide hb0
  have HX0 := hide hx0
  have HZ0 := hide hz0
  clear hs hf hb0 hx0 hz0
  go_enter Try.func6, Try.ntmps6
  go_wp2_with fail
  generalize (w.alloc (.cells #[.int .i64 g.k, .string g.fr, .string g.tg, .int .i64 g.ix, sv] ( /- t -/ 25))).alloc (.cells #[.int .i64 0, .string ⟨#[]⟩, .string ⟨#[]⟩, .int .i64 0, .slice none 0 0] ( /- t -/ 25)) = W at *
  refine (implValid W g.k g.ix g.fr g.tg sv g.kids (HS.out.still (Still.of_below HB0.out))).mono ?_
  rintro e w1 ⟨rfl, hb⟩
  have HX1 := hide (HX0.out.below hb)
  have HZ1 := hide (HZ0.out.below hb)
  have HB1 := hide (HB0.out.trans (hb.mono HB0.out.size))
  clear hb HX0 HZ0 HB0
  cases hok : okN g.k g.fr g.tg g.ix g.kids with
  | false =>
    have hr : unfOk g = false := by unfold unfOk okG; rw [hok]; rfl
    have HR := hide hr
    obtain ⟨z0, z1, z2, z3, z4⟩ := HZ1.out.cells
    have fz := HZ1.out.frozen
    have hzl := HZ1.out.lt
    clear hok hr
    go_wp2_with fail
    refine bodyPost_ret (v := .tuple #[.agg #[.int .i64 0, .string ⟨#[]⟩, .string ⟨#[]⟩, .int .i64 0, .slice none 0 0], .bool false]) (by simp [results, Try.results6, go_sem, *]) rfl ?_
    have e1 : unfR g = zeroNd := by unfold unfR; rw [HR.out]; rfl
    rw [HR.out, e1]
    refine MadeR.zero ?_
    repeat (refine Below.setCell ?_ (by first | (simp; done) | (simp; omega)) _)
    exact HB1.out
  | true =>
    have hg : okG g = true := hok
    obtain ⟨hw, hh, hsz⟩ := okG_w hg
    have hwT : wN (unf g) 0 0 = true := unfN_w _ _ _ (fun x hx => by simp at hx) hw
    have hOK : unfOk g = (decide (hN (unf g) ≤ 40) && decide ((unf g).kids.sz + 1 ≤ 400)) := by unfold unfOk; rw [hg, okG_of_w hwT, Bool.true_and]
    obtain ⟨C, hC⟩ : ∃ C, C = w1.heap.size := ⟨_, rfl⟩
    have hzl := HZ1.out.lt
    have hwc : w.heap.size + 1 < C := by omega
    have HST : Hid (UyRel w C (unf g) (g.kids.sz + 1) (.slice none 0 0) (w1.alloc (.cells #[.int .i64 0] ( /- t -/ 3)))) := by
      have hbA := alloc_below w1 (.cells #[.int .i64 0] ( /- t -/ 3))
      refine hide ⟨[], g, sv, UlIs.start hw hh, HS.out, HF.out, HX1.out.below hbA, HZ1.out.below hbA, ?_, ⟨none, 0, rfl, Nat.zero_le _, fun _ => rfl⟩, trivial, Or.inl ⟨rfl, rfl⟩, HB1.out.trans (hbA.mono HB1.out.size)⟩
      rw [hC]
      exact ⟨_, alloc_last w1 _ _⟩
    have HOK := hide hOK
    clear hok hg hw hh hsz hwT hOK hzl HX1 HZ1 HB1
    obtain ⟨T, hT⟩ : ∃ T, T = unf g := ⟨_, rfl⟩
    have HT := hide hT
    rw [← hT] at HST
    clear hT
    obtain ⟨i0, hi, hz0, hz1, hz2⟩ := info_parts copierInfo
    have HI := hide (And.intro hi (And.intro hz0 (And.intro hz1 hz2)))
    clear hi hz0 hz1 hz2
    go_wp2_with fail
    rw [← hC]
    clear hC
    go_loopg [5] (g.kids.sz + 1) (fun n v wr => UyRel w C T n v wr)
    case atStart => exact HST.out
    case round =>
      obtain ⟨s, N, sv', hul, hsl, hfN, hx, hz, hc, he, hgs, hown, hb⟩ := hrel
      have hlw := hul.w
      rw [vals_len] at hlw
      have hlh := hul.h
      rw [vals_len] at hlh
      by_cases h3 : N.k = 3
      · obtain ⟨lab, k', fr', tg', ix', kids', hkid, hw'⟩ := rec_kid hul.w h3
        obtain ⟨ka, kcap, rfl, klen, kat⟩ := hsl.at
        rw [hkid] at kat
        obtain ⟨b', o, rfl, l1, l2, l3, l4, l5, c0, c1, c2, c3, c4, ⟨svc, c5, hsvc⟩, -⟩ := kat.head
        obtain ⟨sa, scap, rfl, -⟩ := id hsvc
        simp only [Nat.zero_mul, Nat.add_zero] at c1 c2 c3 c4 c5
        have hbw := World.block_lt_of_cell? _ _ c1
        cases gk with
        | zero => exact absurd hul.sz (by omega)
        | succ n =>
        have hstep := hul.step h3 (cpN_fit (EnvIs.fits s _ he) hfN) hkid hw'
        have hgood : GoodS (some N :: s) := ⟨h3, wN_u _ _ _ _ hlw (by omega), by unfold hN at hlh; omega, hgs⟩
        have hl1 : N.kids.len = 1 := by rw [hkid]; rfl
        have hlt : (0 : Int) < (N.kids.len : Int) := by rw [hl1]; decide
        have hlt2 : 0 < N.kids.len := by omega
        have hq : (N.k == 3) = true := beq_iff_eq.2 h3
        have hCl := hc.lt
        have hsl5 : s.length ≤ 41 := by omega
        have HP := hide (And.intro hstep (And.intro hgood (And.intro hsl (And.intro hsvc (And.intro hfN (And.intro (show Fit ⟨k', fr', tg', ix', kids'⟩ from ⟨l2, l3, l4, l5⟩) (And.intro he hb)))))))
        have HX := hide hx
        have HZ := hide hz
        have HC := hide hc
        obtain ⟨x0, x1, x2, x3, x4⟩ := hx.cells
        have fx := hx.frozen
        have hxl := hx.lt
        have HCC := hide (And.intro c1 (And.intro c2 (And.intro c3 (And.intro c4 c5))))
        clear hul hsl hfN hx hz hc hgs hlw hlh h3 hkid hw' klen kat l1 l2 l3 l4 l5 c0 c1 c2 c3 c4 c5 hsvc hstep hgood hl1
        rcases hown with ⟨rfl, rfl⟩ | ⟨b, cap, cur, hne, rfl, hheap, hcs, hcb⟩
        · clear he hb
          have hA1 := alloc_below wr (.cells #[.int .i64 N.k, .string N.fr, .string N.tg, .int .i64 N.ix, .slice (some ⟨b', o, none⟩) N.kids.len kcap] ( /- t -/ 25))
          have hA2 := hA1.alloc (by simp) (.cells #[.slice none 0 0] ( /- t -/ 37))
          have hA := hA2.alloc (by simp; omega) (.cells #[(.func (.func ( /- f -/ 17)) #[] #[.pointer (some ⟨wr.heap.size, 0, none⟩), .pointer (some ⟨wr.heap.size + 1, 0, none⟩), .pointer (some ⟨C, 0, none⟩)])] ( /- t -/ 70))
          have hr1 := Box5.now wr (.int .i64 N.k) (.string N.fr) (.string N.tg) (.int .i64 N.ix) (.slice (some ⟨b', o, none⟩) N.kids.len kcap) ( /- t -/ 25)
          have hr2 := (hr1.below (alloc_below _ (.cells #[.slice none 0 0] ( /- t -/ 37)))).below (alloc_below _ (.cells #[(.func (.func ( /- f -/ 17)) #[] #[.pointer (some ⟨wr.heap.size, 0, none⟩), .pointer (some ⟨wr.heap.size + 1, 0, none⟩), .pointer (some ⟨C, 0, none⟩)])] ( /- t -/ 70)))
          have hout : (((wr.alloc (.cells #[.int .i64 N.k, .string N.fr, .string N.tg, .int .i64 N.ix, .slice (some ⟨b', o, none⟩) N.kids.len kcap] ( /- t -/ 25))).alloc (.cells #[.slice none 0 0] ( /- t -/ 37))).alloc (.cells #[(.func (.func ( /- f -/ 17)) #[] #[.pointer (some ⟨wr.heap.size, 0, none⟩), .pointer (some ⟨wr.heap.size + 1, 0, none⟩), .pointer (some ⟨C, 0, none⟩)])] ( /- t -/ 70))).cell? ⟨wr.heap.size + 1, 0, none⟩ = some (.slice none 0 0) := by
            have h := cell_of_heap (o := 0) (alloc_last (wr.alloc (.cells #[.int .i64 N.k, .string N.fr, .string N.tg, .int .i64 N.ix, .slice (some ⟨b', o, none⟩) N.kids.len kcap] ( /- t -/ 25))) #[.slice none 0 0] ( /- t -/ 37))
            rw [show (wr.alloc (.cells #[.int .i64 N.k, .string N.fr, .string N.tg, .int .i64 N.ix, .slice (some ⟨b', o, none⟩) N.kids.len kcap] ( /- t -/ 25))).heap.size = wr.heap.size + 1 by simp] at h
            exact Still.of_below (alloc_below _ (.cells #[(.func (.func ( /- f -/ 17)) #[] #[.pointer (some ⟨wr.heap.size, 0, none⟩), .pointer (some ⟨wr.heap.size + 1, 0, none⟩), .pointer (some ⟨C, 0, none⟩)])] ( /- t -/ 70))) _ _ (h.trans rfl)
          have hstA := Still.of_below hA
          have hnew : (((wr.alloc (.cells #[.int .i64 N.k, .string N.fr, .string N.tg, .int .i64 N.ix, .slice (some ⟨b', o, none⟩) N.kids.len kcap] ( /- t -/ 25))).alloc (.cells #[.slice none 0 0] ( /- t -/ 37))).alloc (.cells #[(.func (.func ( /- f -/ 17)) #[] #[.pointer (some ⟨wr.heap.size, 0, none⟩), .pointer (some ⟨wr.heap.size + 1, 0, none⟩), .pointer (some ⟨C, 0, none⟩)])] ( /- t -/ 70))).heap[wr.heap.size + 2]? = some (.cells #[(.func (.func ( /- f -/ 17)) #[] #[.pointer (some ⟨wr.heap.size, 0, none⟩), .pointer (some ⟨wr.heap.size + 1, 0, none⟩), .pointer (some ⟨C, 0, none⟩)])] ( /- t -/ 70) (0, 0)) := by
            have h := alloc_last ((wr.alloc (.cells #[.int .i64 N.k, .string N.fr, .string N.tg, .int .i64 N.ix, .slice (some ⟨b', o, none⟩) N.kids.len kcap] ( /- t -/ 25))).alloc (.cells #[.slice none 0 0] ( /- t -/ 37))) #[(.func (.func ( /- f -/ 17)) #[] #[.pointer (some ⟨wr.heap.size, 0, none⟩), .pointer (some ⟨wr.heap.size + 1, 0, none⟩), .pointer (some ⟨C, 0, none⟩)])] ( /- t -/ 70)
            rw [show ((wr.alloc (.cells #[.int .i64 N.k, .string N.fr, .string N.tg, .int .i64 N.ix, .slice (some ⟨b', o, none⟩) N.kids.len kcap] ( /- t -/ 25))).alloc (.cells #[.slice none 0 0] ( /- t -/ 37))).heap.size = wr.heap.size + 2 by simp] at h
            exact h
          have HNEW := hide hnew
          have hF : UwF w (((wr.alloc (.cells #[.int .i64 N.k, .string N.fr, .string N.tg, .int .i64 N.ix, .slice (some ⟨b', o, none⟩) N.kids.len kcap] ( /- t -/ 25))).alloc (.cells #[.slice none 0 0] ( /- t -/ 37))).alloc (.cells #[(.func (.func ( /- f -/ 17)) #[] #[.pointer (some ⟨wr.heap.size, 0, none⟩), .pointer (some ⟨wr.heap.size + 1, 0, none⟩), .pointer (some ⟨C, 0, none⟩)])] ( /- t -/ 70))) C wr.heap.size N (.slice (some ⟨b', o, none⟩) N.kids.len kcap) (.slice none 0 0) b' o ⟨k', fr', tg', ix', kids'⟩ (.slice sa kids'.len scap) [] := by
            obtain ⟨-, -, -, -, -, -, he, hb⟩ := HP.out
            obtain ⟨d1, d2, d3, d4, d5⟩ := HCC.out
            have hbA := hb.trans (hA.mono hb.size)
            have st := Still.of_below hbA
            exact ⟨HX.out.below hA, HZ.out.below hA, HC.out.below hA, he.still hstA, hr2.cells, hout, ⟨st _ _ d1, st _ _ d2, st _ _ d3, st _ _ d4, st _ _ d5⟩, hbA⟩
          have HFA := hide hF
          clear hA1 hA2 hr1 hr2 hout hF hstA hA hnew
          go_wp2_with (first | (at_builtin; go_loud (refine wpList_append_grows _ rfl _ _ ( /- t -/ 37) rfl ( /- t -/ 70) i0 .nilFunc 1 8 Try.underlying37 HI.out.1 HI.out.2.1 HI.out.2.2.1 HI.out.2.2.2 rfl (by omega) none 0 0 [] rfl (fun _ => ⟨rfl, rfl⟩) rfl (fun b hb => by cases hb) ⟨wr.heap.size + 2, 0, none⟩ 1 1 [(.func (.func ( /- f -/ 17)) #[] #[.pointer (some ⟨wr.heap.size, 0, none⟩), .pointer (some ⟨wr.heap.size + 1, 0, none⟩), .pointer (some ⟨C, 0, none⟩)])] rfl rfl (World.news_of_block (cs := #[(.func (.func ( /- f -/ 17)) #[] #[.pointer (some ⟨wr.heap.size, 0, none⟩), .pointer (some ⟨wr.heap.size + 1, 0, none⟩), .pointer (some ⟨C, 0, none⟩)])]) (t := ( /- t -/ 70)) (fr := (0, 0)) HNEW.out) (by simp [Value.oneCell']) (by omega) (by unfold maxLen; omega) (by omega) ?_; intro v' w6 hown6 hgr6; (have hF6 := HFA.out.below (grown_below hgr6)); (obtain ⟨x0, x1, x2, x3, x4⟩ := hF6.hx.cells); (have fx := hF6.hx.frozen); (have hxl := hF6.hx.lt); (obtain ⟨c1, c2, c3, c4, c5⟩ := hF6.hk); (have r4 := hF6.hr.2.2.2.2))) | fail)
          go_roundg n
          case rel =>
            obtain ⟨g2, cap2, rfl, e1, e2, e3, e4, e5, cur2, e6, e7⟩ := HFA.out.he.grow (olds := []) rfl (fun b hb => by cases hb) hown6 hgr6
            have hsz6 := hgr6.size
            obtain ⟨hstep, hgood, hsl, hsvc, hfN, hfc, -, -⟩ := HP.out
            simp at hsz6
            have hge : C < g2 := by simp at e3; omega
            have hstep2 : UlIs T n (vals (some N :: [])) ⟨k', fr', tg', ix', kids'⟩ := hstep
            have henv := EnvIs.cons e4 e1 e2 e5 hF6.hr hsl hfN hF6.ho hF6.he hCl
            have hown2 : EnvOwn w6 C (some N :: []) (.slice (some ⟨g2, 0, none⟩) ([].length + 1) cap2) := Or.inr ⟨g2, cap2, cur2, by simp, rfl, e6, e7, hge⟩
            have hres := UyRel.push (w := w) (w6 := w6) (c := C) (n := n) (T := T) (N := N) (C := ⟨k', fr', tg', ix', kids'⟩) (s := []) (svc := .slice sa kids'.len scap) hwc hstep2 hsvc hfc hsl hF6.hx hF6.hz hF6.hc henv hgood hown2 hF6.hb
            exact hres
          case measure => omega
        · clear he hb
          have hbl : b < wr.heap.size := (Array.getElem?_eq_some_iff.1 hheap).1
          have HHEAP := hide (And.intro hheap (And.intro hcs hne))
          clear hheap hcs hne
          by_cases hroom : s.length + 1 ≤ cap
          · have hA1 := alloc_below wr (.cells #[.int .i64 N.k, .string N.fr, .string N.tg, .int .i64 N.ix, .slice (some ⟨b', o, none⟩) N.kids.len kcap] ( /- t -/ 25))
            have hA2 := hA1.alloc (by simp) (.cells #[.slice (some ⟨b, 0, none⟩) s.length cap] ( /- t -/ 37))
            have hA := hA2.alloc (by simp; omega) (.cells #[(.func (.func ( /- f -/ 17)) #[] #[.pointer (some ⟨wr.heap.size, 0, none⟩), .pointer (some ⟨wr.heap.size + 1, 0, none⟩), .pointer (some ⟨C, 0, none⟩)])] ( /- t -/ 70))
            have hr1 := Box5.now wr (.int .i64 N.k) (.string N.fr) (.string N.tg) (.int .i64 N.ix) (.slice (some ⟨b', o, none⟩) N.kids.len kcap) ( /- t -/ 25)
            have hr2 := (hr1.below (alloc_below _ (.cells #[.slice (some ⟨b, 0, none⟩) s.length cap] ( /- t -/ 37)))).below (alloc_below _ (.cells #[(.func (.func ( /- f -/ 17)) #[] #[.pointer (some ⟨wr.heap.size, 0, none⟩), .pointer (some ⟨wr.heap.size + 1, 0, none⟩), .pointer (some ⟨C, 0, none⟩)])] ( /- t -/ 70)))
            have hout : (((wr.alloc (.cells #[.int .i64 N.k, .string N.fr, .string N.tg, .int .i64 N.ix, .slice (some ⟨b', o, none⟩) N.kids.len kcap] ( /- t -/ 25))).alloc (.cells #[.slice (some ⟨b, 0, none⟩) s.length cap] ( /- t -/ 37))).alloc (.cells #[(.func (.func ( /- f -/ 17)) #[] #[.pointer (some ⟨wr.heap.size, 0, none⟩), .pointer (some ⟨wr.heap.size + 1, 0, none⟩), .pointer (some ⟨C, 0, none⟩)])] ( /- t -/ 70))).cell? ⟨wr.heap.size + 1, 0, none⟩ = some (.slice (some ⟨b, 0, none⟩) s.length cap) := by
              have h := cell_of_heap (o := 0) (alloc_last (wr.alloc (.cells #[.int .i64 N.k, .string N.fr, .string N.tg, .int .i64 N.ix, .slice (some ⟨b', o, none⟩) N.kids.len kcap] ( /- t -/ 25))) #[.slice (some ⟨b, 0, none⟩) s.length cap] ( /- t -/ 37))
              rw [show (wr.alloc (.cells #[.int .i64 N.k, .string N.fr, .string N.tg, .int .i64 N.ix, .slice (some ⟨b', o, none⟩) N.kids.len kcap] ( /- t -/ 25))).heap.size = wr.heap.size + 1 by simp] at h
              exact Still.of_below (alloc_below _ (.cells #[(.func (.func ( /- f -/ 17)) #[] #[.pointer (some ⟨wr.heap.size, 0, none⟩), .pointer (some ⟨wr.heap.size + 1, 0, none⟩), .pointer (some ⟨C, 0, none⟩)])] ( /- t -/ 70))) _ _ (h.trans rfl)
            have hstA := Still.of_below hA
            have hnew : (((wr.alloc (.cells #[.int .i64 N.k, .string N.fr, .string N.tg, .int .i64 N.ix, .slice (some ⟨b', o, none⟩) N.kids.len kcap] ( /- t -/ 25))).alloc (.cells #[.slice (some ⟨b, 0, none⟩) s.length cap] ( /- t -/ 37))).alloc (.cells #[(.func (.func ( /- f -/ 17)) #[] #[.pointer (some ⟨wr.heap.size, 0, none⟩), .pointer (some ⟨wr.heap.size + 1, 0, none⟩), .pointer (some ⟨C, 0, none⟩)])] ( /- t -/ 70))).heap[wr.heap.size + 2]? = some (.cells #[(.func (.func ( /- f -/ 17)) #[] #[.pointer (some ⟨wr.heap.size, 0, none⟩), .pointer (some ⟨wr.heap.size + 1, 0, none⟩), .pointer (some ⟨C, 0, none⟩)])] ( /- t -/ 70) (0, 0)) := by
              have h := alloc_last ((wr.alloc (.cells #[.int .i64 N.k, .string N.fr, .string N.tg, .int .i64 N.ix, .slice (some ⟨b', o, none⟩) N.kids.len kcap] ( /- t -/ 25))).alloc (.cells #[.slice (some ⟨b, 0, none⟩) s.length cap] ( /- t -/ 37))) #[(.func (.func ( /- f -/ 17)) #[] #[.pointer (some ⟨wr.heap.size, 0, none⟩), .pointer (some ⟨wr.heap.size + 1, 0, none⟩), .pointer (some ⟨C, 0, none⟩)])] ( /- t -/ 70)
              rw [show ((wr.alloc (.cells #[.int .i64 N.k, .string N.fr, .string N.tg, .int .i64 N.ix, .slice (some ⟨b', o, none⟩) N.kids.len kcap] ( /- t -/ 25))).alloc (.cells #[.slice (some ⟨b, 0, none⟩) s.length cap] ( /- t -/ 37))).heap.size = wr.heap.size + 2 by simp] at h
              exact h
            have HNEW := hide hnew
            have hF : UwF w (((wr.alloc (.cells #[.int .i64 N.k, .string N.fr, .string N.tg, .int .i64 N.ix, .slice (some ⟨b', o, none⟩) N.kids.len kcap] ( /- t -/ 25))).alloc (.cells #[.slice (some ⟨b, 0, none⟩) s.length cap] ( /- t -/ 37))).alloc (.cells #[(.func (.func ( /- f -/ 17)) #[] #[.pointer (some ⟨wr.heap.size, 0, none⟩), .pointer (some ⟨wr.heap.size + 1, 0, none⟩), .pointer (some ⟨C, 0, none⟩)])] ( /- t -/ 70))) C wr.heap.size N (.slice (some ⟨b', o, none⟩) N.kids.len kcap) (.slice (some ⟨b, 0, none⟩) s.length cap) b' o ⟨k', fr', tg', ix', kids'⟩ (.slice sa kids'.len scap) s := by
              obtain ⟨-, -, -, -, -, -, he, hb⟩ := HP.out
              obtain ⟨d1, d2, d3, d4, d5⟩ := HCC.out
              have hbA := hb.trans (hA.mono hb.size)
              have st := Still.of_below hbA
              exact ⟨HX.out.below hA, HZ.out.below hA, HC.out.below hA, he.still hstA, hr2.cells, hout, ⟨st _ _ d1, st _ _ d2, st _ _ d3, st _ _ d4, st _ _ d5⟩, hbA⟩
            have HFA := hide hF
            clear hA1 hA2 hr1 hr2 hout hF hstA hA hnew
            obtain ⟨olds, hol1, hol2⟩ := HFA.out.he.olds
            have hol3 : ∀ j u, olds[j]? = some u → (((wr.alloc (.cells #[.int .i64 N.k, .string N.fr, .string N.tg, .int .i64 N.ix, .slice (some ⟨b', o, none⟩) N.kids.len kcap] ( /- t -/ 25))).alloc (.cells #[.slice (some ⟨b, 0, none⟩) s.length cap] ( /- t -/ 37))).alloc (.cells #[(.func (.func ( /- f -/ 17)) #[] #[.pointer (some ⟨wr.heap.size, 0, none⟩), .pointer (some ⟨wr.heap.size + 1, 0, none⟩), .pointer (some ⟨C, 0, none⟩)])] ( /- t -/ 70))).cell? ⟨b, 0 + j, none⟩ = some u := fun j u hu => by
              have := hol2 _ rfl j u hu
              rw [Addr.add_lit] at this
              exact this
            have HFO := hide hol3
            clear hol2 hol3
            have hhA : (((wr.alloc (.cells #[.int .i64 N.k, .string N.fr, .string N.tg, .int .i64 N.ix, .slice (some ⟨b', o, none⟩) N.kids.len kcap] ( /- t -/ 25))).alloc (.cells #[.slice (some ⟨b, 0, none⟩) s.length cap] ( /- t -/ 37))).alloc (.cells #[(.func (.func ( /- f -/ 17)) #[] #[.pointer (some ⟨wr.heap.size, 0, none⟩), .pointer (some ⟨wr.heap.size + 1, 0, none⟩), .pointer (some ⟨C, 0, none⟩)])] ( /- t -/ 70))).heap[b]? = some (.cells cur ( /- t -/ 70) (0, 0)) := by
              rw [Below.heap_alloc _ _ _ (by simp; omega), Below.heap_alloc _ _ _ (by simp; omega), Below.heap_alloc _ _ _ hbl]
              exact HHEAP.out.1
            have HHA := hide hhA
            clear hhA
            have hspare : Hid (∀ j, j < 1 → ((((wr.alloc (.cells #[.int .i64 N.k, .string N.fr, .string N.tg, .int .i64 N.ix, .slice (some ⟨b', o, none⟩) N.kids.len kcap] ( /- t -/ 25))).alloc (.cells #[.slice (some ⟨b, 0, none⟩) s.length cap] ( /- t -/ 37))).alloc (.cells #[(.func (.func ( /- f -/ 17)) #[] #[.pointer (some ⟨wr.heap.size, 0, none⟩), .pointer (some ⟨wr.heap.size + 1, 0, none⟩), .pointer (some ⟨C, 0, none⟩)])] ( /- t -/ 70))).cell? ⟨b, 0 + s.length * 1 + j, none⟩).isSome = true ∧ (((wr.alloc (.cells #[.int .i64 N.k, .string N.fr, .string N.tg, .int .i64 N.ix, .slice (some ⟨b', o, none⟩) N.kids.len kcap] ( /- t -/ 25))).alloc (.cells #[.slice (some ⟨b, 0, none⟩) s.length cap] ( /- t -/ 37))).alloc (.cells #[(.func (.func ( /- f -/ 17)) #[] #[.pointer (some ⟨wr.heap.size, 0, none⟩), .pointer (some ⟨wr.heap.size + 1, 0, none⟩), .pointer (some ⟨C, 0, none⟩)])] ( /- t -/ 70))).frozen? ⟨b, 0 + s.length * 1 + j, none⟩ = false) := hide (fun j hj => by
              have hj0 : j = 0 := by omega
              subst hj0
              have hlt : s.length < cur.size := by rw [HHEAP.out.2.1]; omega
              constructor
              · rw [cell_of_heap HHA.out]
                simp [hlt]
              · simp [World.frozen?, HHA.out])
            go_wp2_with (first | (at_builtin; go_loud (refine wpList_append_arg _ rfl _ _ ( /- t -/ 37) rfl ( /- t -/ 70) i0 .nilFunc 1 8 Try.underlying37 HI.out.1 HI.out.2.1 HI.out.2.2.1 HI.out.2.2.2 rfl (by omega) b 0 s.length cap olds rfl (by omega) HFO.out ⟨wr.heap.size + 2, 0, none⟩ 1 1 [(.func (.func ( /- f -/ 17)) #[] #[.pointer (some ⟨wr.heap.size, 0, none⟩), .pointer (some ⟨wr.heap.size + 1, 0, none⟩), .pointer (some ⟨C, 0, none⟩)])] rfl rfl (World.news_of_block (cs := #[(.func (.func ( /- f -/ 17)) #[] #[.pointer (some ⟨wr.heap.size, 0, none⟩), .pointer (some ⟨wr.heap.size + 1, 0, none⟩), .pointer (some ⟨C, 0, none⟩)])]) (t := ( /- t -/ 70)) (fr := (0, 0)) HNEW.out) (by simp [Value.oneCell']) (fun _ => hspare.out) (by unfold maxLen; omega) (by omega) ?_ (fun h => absurd h (by omega)); intro _; (obtain ⟨w6, hw6⟩ : ∃ w6, w6 = World.setCells (((wr.alloc (.cells #[.int .i64 N.k, .string N.fr, .string N.tg, .int .i64 N.ix, .slice (some ⟨b', o, none⟩) N.kids.len kcap] ( /- t -/ 25))).alloc (.cells #[.slice (some ⟨b, 0, none⟩) s.length cap] ( /- t -/ 37))).alloc (.cells #[(.func (.func ( /- f -/ 17)) #[] #[.pointer (some ⟨wr.heap.size, 0, none⟩), .pointer (some ⟨wr.heap.size + 1, 0, none⟩), .pointer (some ⟨C, 0, none⟩)])] ( /- t -/ 70))) b (0 + s.length * 1) [(.func (.func ( /- f -/ 17)) #[] #[.pointer (some ⟨wr.heap.size, 0, none⟩), .pointer (some ⟨wr.heap.size + 1, 0, none⟩), .pointer (some ⟨C, 0, none⟩)])] := ⟨_, rfl⟩); (rw [← hw6]); (have hw7 : w6 = (((wr.alloc (.cells #[.int .i64 N.k, .string N.fr, .string N.tg, .int .i64 N.ix, .slice (some ⟨b', o, none⟩) N.kids.len kcap] ( /- t -/ 25))).alloc (.cells #[.slice (some ⟨b, 0, none⟩) s.length cap] ( /- t -/ 37))).alloc (.cells #[(.func (.func ( /- f -/ 17)) #[] #[.pointer (some ⟨wr.heap.size, 0, none⟩), .pointer (some ⟨wr.heap.size + 1, 0, none⟩), .pointer (some ⟨C, 0, none⟩)])] ( /- t -/ 70))).setCell ⟨b, s.length, none⟩ (.func (.func ( /- f -/ 17)) #[] #[.pointer (some ⟨wr.heap.size, 0, none⟩), .pointer (some ⟨wr.heap.size + 1, 0, none⟩), .pointer (some ⟨C, 0, none⟩)]) := by rw [hw6, Nat.mul_one, Nat.zero_add]; rfl); (have hF6 := HFA.out.set ⟨b, s.length, none⟩ (.func (.func ( /- f -/ 17)) #[] #[.pointer (some ⟨wr.heap.size, 0, none⟩), .pointer (some ⟨wr.heap.size + 1, 0, none⟩), .pointer (some ⟨C, 0, none⟩)]) (by show w.heap.size + 1 < b; omega) (by show b ≠ C; omega) (by show b ≠ wr.heap.size; omega) (by show b ≠ wr.heap.size + 1; omega) hbw (EnvIs.room HFA.out.he _)); (rw [← hw7] at hF6); (have HW7 := hide hw7); (clear hw6 hw7); (obtain ⟨x0, x1, x2, x3, x4⟩ := hF6.hx.cells); (have fx := hF6.hx.frozen); (have hxl := hF6.hx.lt); (obtain ⟨c1, c2, c3, c4, c5⟩ := hF6.hk); (have r4 := hF6.hr.2.2.2.2))) | fail)
            go_roundg n
            case rel =>
              have e4 := EnvIs.room HFA.out.he (.func (.func ( /- f -/ 17)) #[] #[.pointer (some ⟨wr.heap.size, 0, none⟩), .pointer (some ⟨wr.heap.size + 1, 0, none⟩), .pointer (some ⟨C, 0, none⟩)])
              have e5 : ((((wr.alloc (.cells #[.int .i64 N.k, .string N.fr, .string N.tg, .int .i64 N.ix, .slice (some ⟨b', o, none⟩) N.kids.len kcap] ( /- t -/ 25))).alloc (.cells #[.slice (some ⟨b, 0, none⟩) s.length cap] ( /- t -/ 37))).alloc (.cells #[(.func (.func ( /- f -/ 17)) #[] #[.pointer (some ⟨wr.heap.size, 0, none⟩), .pointer (some ⟨wr.heap.size + 1, 0, none⟩), .pointer (some ⟨C, 0, none⟩)])] ( /- t -/ 70))).setCell ⟨b, s.length, none⟩ (.func (.func ( /- f -/ 17)) #[] #[.pointer (some ⟨wr.heap.size, 0, none⟩), .pointer (some ⟨wr.heap.size + 1, 0, none⟩), .pointer (some ⟨C, 0, none⟩)])).cell? ⟨b, s.length, none⟩ = some (.func (.func ( /- f -/ 17)) #[] #[.pointer (some ⟨wr.heap.size, 0, none⟩), .pointer (some ⟨wr.heap.size + 1, 0, none⟩), .pointer (some ⟨C, 0, none⟩)]) := by
                have hlt : s.length < cur.size := by rw [HHEAP.out.2.1]; omega
                have h8 := cell_of_heap (o := s.length) HHA.out
                rw [Array.getElem?_eq_getElem hlt] at h8
                exact World.cell?_setCell_same _ _ _ h8
              have e6 : ((((wr.alloc (.cells #[.int .i64 N.k, .string N.fr, .string N.tg, .int .i64 N.ix, .slice (some ⟨b', o, none⟩) N.kids.len kcap] ( /- t -/ 25))).alloc (.cells #[.slice (some ⟨b, 0, none⟩) s.length cap] ( /- t -/ 37))).alloc (.cells #[(.func (.func ( /- f -/ 17)) #[] #[.pointer (some ⟨wr.heap.size, 0, none⟩), .pointer (some ⟨wr.heap.size + 1, 0, none⟩), .pointer (some ⟨C, 0, none⟩)])] ( /- t -/ 70))).setCell ⟨b, s.length, none⟩ (.func (.func ( /- f -/ 17)) #[] #[.pointer (some ⟨wr.heap.size, 0, none⟩), .pointer (some ⟨wr.heap.size + 1, 0, none⟩), .pointer (some ⟨C, 0, none⟩)])).heap[b]? = some (.cells (cur.setIfInBounds s.length (.func (.func ( /- f -/ 17)) #[] #[.pointer (some ⟨wr.heap.size, 0, none⟩), .pointer (some ⟨wr.heap.size + 1, 0, none⟩), .pointer (some ⟨C, 0, none⟩)])) ( /- t -/ 70) (0, 0)) := by
                have h8 := HHA.out
                simp [World.setCell, Array.getElem?_modify, h8]
              rw [← HW7.out] at e4 e5 e6
              have hcm := HFA.out.he.form
              obtain ⟨_, _, hfe, _, hcm, _⟩ := hcm
              simp only [Value.slice.injEq, true_and] at hfe
              obtain ⟨rfl, rfl⟩ := hfe
              obtain ⟨hstep, hgood, hsl, hsvc, hfN, hfc, -, -⟩ := HP.out
              have hstep2 : UlIs T n (vals (some N :: s)) ⟨k', fr', tg', ix', kids'⟩ := hstep
              have henv := EnvIs.cons e4 hroom hcm e5 hF6.hr hsl hfN hF6.ho hF6.he hCl
              have hown2 : EnvOwn w6 C (some N :: s) (.slice (some ⟨b, 0, none⟩) (s.length + 1) cap) := Or.inr ⟨b, cap, _, by simp, rfl, e6, by rw [Array.size_setIfInBounds]; exact HHEAP.out.2.1, hcb⟩
              have hres := UyRel.push (w := w) (w6 := w6) (c := C) (n := n) (T := T) (N := N) (C := ⟨k', fr', tg', ix', kids'⟩) (s := s) (svc := .slice sa kids'.len scap) hwc hstep2 hsvc hfc hsl hF6.hx hF6.hz hF6.hc henv hgood hown2 hF6.hb
              exact hres
            case measure => omega
          · have hA1 := alloc_below wr (.cells #[.int .i64 N.k, .string N.fr, .string N.tg, .int .i64 N.ix, .slice (some ⟨b', o, none⟩) N.kids.len kcap] ( /- t -/ 25))
            have hA2 := hA1.alloc (by simp) (.cells #[.slice (some ⟨b, 0, none⟩) s.length cap] ( /- t -/ 37))
            have hA := hA2.alloc (by simp; omega) (.cells #[(.func (.func ( /- f -/ 17)) #[] #[.pointer (some ⟨wr.heap.size, 0, none⟩), .pointer (some ⟨wr.heap.size + 1, 0, none⟩), .pointer (some ⟨C, 0, none⟩)])] ( /- t -/ 70))
            have hr1 := Box5.now wr (.int .i64 N.k) (.string N.fr) (.string N.tg) (.int .i64 N.ix) (.slice (some ⟨b', o, none⟩) N.kids.len kcap) ( /- t -/ 25)
            have hr2 := (hr1.below (alloc_below _ (.cells #[.slice (some ⟨b, 0, none⟩) s.length cap] ( /- t -/ 37)))).below (alloc_below _ (.cells #[(.func (.func ( /- f -/ 17)) #[] #[.pointer (some ⟨wr.heap.size, 0, none⟩), .pointer (some ⟨wr.heap.size + 1, 0, none⟩), .pointer (some ⟨C, 0, none⟩)])] ( /- t -/ 70)))
            have hout : (((wr.alloc (.cells #[.int .i64 N.k, .string N.fr, .string N.tg, .int .i64 N.ix, .slice (some ⟨b', o, none⟩) N.kids.len kcap] ( /- t -/ 25))).alloc (.cells #[.slice (some ⟨b, 0, none⟩) s.length cap] ( /- t -/ 37))).alloc (.cells #[(.func (.func ( /- f -/ 17)) #[] #[.pointer (some ⟨wr.heap.size, 0, none⟩), .pointer (some ⟨wr.heap.size + 1, 0, none⟩), .pointer (some ⟨C, 0, none⟩)])] ( /- t -/ 70))).cell? ⟨wr.heap.size + 1, 0, none⟩ = some (.slice (some ⟨b, 0, none⟩) s.length cap) := by
              have h := cell_of_heap (o := 0) (alloc_last (wr.alloc (.cells #[.int .i64 N.k, .string N.fr, .string N.tg, .int .i64 N.ix, .slice (some ⟨b', o, none⟩) N.kids.len kcap] ( /- t -/ 25))) #[.slice (some ⟨b, 0, none⟩) s.length cap] ( /- t -/ 37))
              rw [show (wr.alloc (.cells #[.int .i64 N.k, .string N.fr, .string N.tg, .int .i64 N.ix, .slice (some ⟨b', o, none⟩) N.kids.len kcap] ( /- t -/ 25))).heap.size = wr.heap.size + 1 by simp] at h
              exact Still.of_below (alloc_below _ (.cells #[(.func (.func ( /- f -/ 17)) #[] #[.pointer (some ⟨wr.heap.size, 0, none⟩), .pointer (some ⟨wr.heap.size + 1, 0, none⟩), .pointer (some ⟨C, 0, none⟩)])] ( /- t -/ 70))) _ _ (h.trans rfl)
            have hstA := Still.of_below hA
            have hnew : (((wr.alloc (.cells #[.int .i64 N.k, .string N.fr, .string N.tg, .int .i64 N.ix, .slice (some ⟨b', o, none⟩) N.kids.len kcap] ( /- t -/ 25))).alloc (.cells #[.slice (some ⟨b, 0, none⟩) s.length cap] ( /- t -/ 37))).alloc (.cells #[(.func (.func ( /- f -/ 17)) #[] #[.pointer (some ⟨wr.heap.size, 0, none⟩), .pointer (some ⟨wr.heap.size + 1, 0, none⟩), .pointer (some ⟨C, 0, none⟩)])] ( /- t -/ 70))).heap[wr.heap.size + 2]? = some (.cells #[(.func (.func ( /- f -/ 17)) #[] #[.pointer (some ⟨wr.heap.size, 0, none⟩), .pointer (some ⟨wr.heap.size + 1, 0, none⟩), .pointer (some ⟨C, 0, none⟩)])] ( /- t -/ 70) (0, 0)) := by
              have h := alloc_last ((wr.alloc (.cells #[.int .i64 N.k, .string N.fr, .string N.tg, .int .i64 N.ix, .slice (some ⟨b', o, none⟩) N.kids.len kcap] ( /- t -/ 25))).alloc (.cells #[.slice (some ⟨b, 0, none⟩) s.length cap] ( /- t -/ 37))) #[(.func (.func ( /- f -/ 17)) #[] #[.pointer (some ⟨wr.heap.size, 0, none⟩), .pointer (some ⟨wr.heap.size + 1, 0, none⟩), .pointer (some ⟨C, 0, none⟩)])] ( /- t -/ 70)
              rw [show ((wr.alloc (.cells #[.int .i64 N.k, .string N.fr, .string N.tg, .int .i64 N.ix, .slice (some ⟨b', o, none⟩) N.kids.len kcap] ( /- t -/ 25))).alloc (.cells #[.slice (some ⟨b, 0, none⟩) s.length cap] ( /- t -/ 37))).heap.size = wr.heap.size + 2 by simp] at h
              exact h
            have HNEW := hide hnew
            have hF : UwF w (((wr.alloc (.cells #[.int .i64 N.k, .string N.fr, .string N.tg, .int .i64 N.ix, .slice (some ⟨b', o, none⟩) N.kids.len kcap] ( /- t -/ 25))).alloc (.cells #[.slice (some ⟨b, 0, none⟩) s.length cap] ( /- t -/ 37))).alloc (.cells #[(.func (.func ( /- f -/ 17)) #[] #[.pointer (some ⟨wr.heap.size, 0, none⟩), .pointer (some ⟨wr.heap.size + 1, 0, none⟩), .pointer (some ⟨C, 0, none⟩)])] ( /- t -/ 70))) C wr.heap.size N (.slice (some ⟨b', o, none⟩) N.kids.len kcap) (.slice (some ⟨b, 0, none⟩) s.length cap) b' o ⟨k', fr', tg', ix', kids'⟩ (.slice sa kids'.len scap) s := by
              obtain ⟨-, -, -, -, -, -, he, hb⟩ := HP.out
              obtain ⟨d1, d2, d3, d4, d5⟩ := HCC.out
              have hbA := hb.trans (hA.mono hb.size)
              have st := Still.of_below hbA
              exact ⟨HX.out.below hA, HZ.out.below hA, HC.out.below hA, he.still hstA, hr2.cells, hout, ⟨st _ _ d1, st _ _ d2, st _ _ d3, st _ _ d4, st _ _ d5⟩, hbA⟩
            have HFA := hide hF
            clear hA1 hA2 hr1 hr2 hout hF hstA hA hnew
            obtain ⟨olds, hol1, hol2⟩ := HFA.out.he.olds
            have HFO := hide hol2
            clear hol2
            go_wp2_with (first | (at_builtin; go_loud (refine wpList_append_grows _ rfl _ _ ( /- t -/ 37) rfl ( /- t -/ 70) i0 .nilFunc 1 8 Try.underlying37 HI.out.1 HI.out.2.1 HI.out.2.2.1 HI.out.2.2.2 rfl (by omega) (some ⟨b, 0, none⟩) s.length cap olds rfl (fun e => by cases e) (by omega) (fun b hb j u hu => HFO.out b hb j u hu) ⟨wr.heap.size + 2, 0, none⟩ 1 1 [(.func (.func ( /- f -/ 17)) #[] #[.pointer (some ⟨wr.heap.size, 0, none⟩), .pointer (some ⟨wr.heap.size + 1, 0, none⟩), .pointer (some ⟨C, 0, none⟩)])] rfl rfl (World.news_of_block (cs := #[(.func (.func ( /- f -/ 17)) #[] #[.pointer (some ⟨wr.heap.size, 0, none⟩), .pointer (some ⟨wr.heap.size + 1, 0, none⟩), .pointer (some ⟨C, 0, none⟩)])]) (t := ( /- t -/ 70)) (fr := (0, 0)) HNEW.out) (by simp [Value.oneCell']) (by omega) (by unfold maxLen; omega) (by omega) ?_; intro v' w6 hown6 hgr6; (have hF6 := HFA.out.below (grown_below hgr6)); (obtain ⟨x0, x1, x2, x3, x4⟩ := hF6.hx.cells); (have fx := hF6.hx.frozen); (have hxl := hF6.hx.lt); (obtain ⟨c1, c2, c3, c4, c5⟩ := hF6.hk); (have r4 := hF6.hr.2.2.2.2))) | fail)
            go_roundg n
            case rel =>
              obtain ⟨g2, cap2, rfl, e1, e2, e3, e4, e5, cur2, e6, e7⟩ := HFA.out.he.grow hol1 HFO.out hown6 hgr6
              have hsz6 := hgr6.size
              obtain ⟨hstep, hgood, hsl, hsvc, hfN, hfc, -, -⟩ := HP.out
              simp at hsz6
              have hge : C < g2 := by simp at e3; omega
              have hstep2 : UlIs T n (vals (some N :: s)) ⟨k', fr', tg', ix', kids'⟩ := hstep
              have henv := EnvIs.cons e4 e1 e2 e5 hF6.hr hsl hfN hF6.ho hF6.he hCl
              have hown2 : EnvOwn w6 C (some N :: s) (.slice (some ⟨g2, 0, none⟩) (s.length + 1) cap2) := Or.inr ⟨g2, cap2, cur2, by simp, rfl, e6, e7, hge⟩
              have hres := UyRel.push (w := w) (w6 := w6) (c := C) (n := n) (T := T) (N := N) (C := ⟨k', fr', tg', ix', kids'⟩) (s := s) (svc := .slice sa kids'.len scap) hwc hstep2 hsvc hfc hsl hF6.hx hF6.hz hF6.hc henv hgood hown2 hF6.hb
              exact hres
            case measure => omega
      · have hT2 : cpN (vals s) N = T := hul.stop h3
        have hq : (N.k == 3) = false := beq_eq_false_iff_ne.2 h3
        have hcall := cp_all (puts s) (N.kids.sz + 1) w wr C 0 1 N.k N.ix N.fr N.tg sv' u5 N.kids s (Nat.lt_succ_self _) rfl hb (by omega) (by simpa using hc) (by omega) (by omega) (by omega) he hgs (by unfold hN at hlh; omega) (wN_u _ _ _ _ hlw (by omega)) hfN hsl
        rw [show (⟨N.k, N.fr, N.tg, N.ix, N.kids⟩ : Nd) = N from rfl, hT2] at hcall
        have HCALL := hide hcall
        obtain ⟨x0, x1, x2, x3, x4⟩ := hx.cells
        have hxl := hx.lt
        have hCl := hc.lt
        have HZ := hide hz
        have HB := hide hb
        clear hul hsl hfN hx hz hc he hgs hown hb hlw hlh h3 hT2 hcall
        go_wp2_with fail
        refine HCALL.out.mono ?_
        rintro e w3 ⟨m3, ho3, hc3, hcase⟩
        have hz3 := HZ.out.only ho3 (by omega)
        obtain ⟨z0, z1, z2, z3, z4⟩ := hz3.cells
        have fz := hz3.frozen
        have hzl := hz3.lt
        have hz0 := HZ.out.lt
        have HB3 := hide (HB.out.trans (ho3.to_below (by omega) HB.out.size))
        clear ho3 hc3 hz3
        rcases hcase with ⟨h1, h2, h3, u, ks, rfl, how, hks, hknd⟩ | ⟨h1, rfl⟩
        · obtain ⟨ua, uc, rfl⟩ := how.val
          have HW := hide how
          have HK := hide hks
          have hok : unfOk g = true := by
            rw [HOK.out, ← HT.out, decide_eq_true (by unfold hN; omega), decide_eq_true (by omega)]
            rfl
          have HR := hide hok
          clear how hks h1 h2 h3 hok
          go_wp2_with fail
          refine bodyPost_ret (v := .tuple #[.agg #[.int .i64 T.k, .string T.fr, .string T.tg, .int .i64 T.ix, .slice ua T.kids.len uc], .bool true]) (by simp [results, Try.results6, go_sem, *]) rfl ?_
          have e1 : unfR g = T := by unfold unfR; rw [HR.out, HT.out]; rfl
          rw [HR.out, e1]
          have q : ∀ b, b ∈ ks → w.heap.size + 1 < b := fun b h => by have := HK.out b h; omega
          refine ⟨_, ks, rfl, HW.out.same ?_, fun b h => by have := q b h; omega, hknd, ?_⟩
          · repeat (refine Same.setCell ?_ (fun b h => by have := q b h; simp; omega) _)
            exact Same.refl _ _
          · repeat (refine Below.setCell ?_ (by first | (simp; done) | (simp; omega)) _)
            exact HB3.out
        · have hok : unfOk g = false := by
            rw [HOK.out, ← HT.out]
            by_cases ha : hN T ≤ 40
            · rw [decide_eq_true ha, Bool.true_and]
              refine decide_eq_false (fun hc => h1 ⟨by omega, ?_⟩)
              unfold hN at ha
              omega
            · rw [decide_eq_false ha, Bool.false_and]
          have HR := hide hok
          clear h1 hok
          go_wp2_with fail
          refine bodyPost_ret (v := .tuple #[.agg #[.int .i64 0, .string ⟨#[]⟩, .string ⟨#[]⟩, .int .i64 0, .slice none 0 0], .bool false]) (by simp [results, Try.results6, go_sem, *]) rfl ?_
          have e1 : unfR g = zeroNd := by unfold unfR; rw [HR.out]; rfl
          rw [HR.out, e1]
          refine MadeR.zero ?_
          repeat (refine Below.setCell ?_ (by first | (simp; done) | (simp; omega)) _)
          exact HB3.out

end Go.Proofs.Ytgcefippeokmcaa
