/- The law on StepLocal: the walks. -/
import Derived.Test.YtkepinjpihmjkabLUa
import Derived.Test.YtkepinjpihmjkabLVt
import Derived.Test.YtkepinjpihmjkabLVi
namespace Go.Proofs.Ytkepinjpihmjkab.Lo
open Go.RowKit

theorem findF_sz : ∀ (f : F) (s : ByteArray) (N : Nd), findF f s = some N → N.kids.sz + 1 ≤ f.sz
  | .nil, _, _, h => by simp [findF] at h
  | .cons lab k fr ix kids rest, s, N, h => by
    unfold findF at h
    split at h
    · simp only [Option.some.injEq] at h
      subst h
      simp only [F.sz]
      omega
    · have := findF_sz rest s N h
      simp only [F.sz]
      omega
theorem stepR_sz (g : Nd) (s : ByteArray) : (stepR g s).kids.sz ≤ 400 := by
  unfold stepR stepO
  cases h : unfOk g with
  | false => exact Nat.zero_le _
  | true =>
    unfold unfOk at h
    simp only [Bool.and_eq_true] at h
    have h1 := (okG_w h.2).2.2
    simp only [if_true]
    cases h2 : findF (unf g).kids s with
    | none => exact Nat.zero_le _
    | some N =>
      have := findF_sz _ _ _ h2
      simp only [Option.getD_some]
      omega

set_option maxRecDepth 100000 in
theorem step_long (w : World) (g : Nd) (sv : Value) (s : ByteArray) (hsl : 1048576 < s.size) :
    Calls Try.prog 4 #[.agg #[.int .i64 g.k, .string g.fr, .int .i64 g.ix, sv], .string s] w fun e w' => e = .returned (.bool true) ∧ Below w.heap.size w w' := by
  go_enter Try.func4, Try.ntmps4
  go_wp2_with fail
  go_ret
  exact ⟨rfl, alloc_below _ _⟩

set_option maxHeartbeats 400000 in
set_option maxRecDepth 100000 in
theorem step_big (w : World) (g : Nd) (sv : Value) (s : ByteArray) (hsl : s.size ≤ 1048576) (hs : Sl w sv g.kids) (hf : Fit g) (hbig : 1048576 < g.fr.size + (g.kids.len + g.kids.wt)) :
    Calls Try.prog 4 #[.agg #[.int .i64 g.k, .string g.fr, .int .i64 g.ix, sv], .string s] w fun e w' => e = .returned (.bool true) ∧ Below w.heap.size w w' := by
  have HS := hide hs
  have HF := hide hf
  have H3 := hide hbig
  clear hs hf hbig
  go_enter Try.func4, Try.ntmps4
  go_wp2_with fail
  refine (sz_calls g.kids _ g.k g.ix g.fr sv 1048576 (HS.out.still (Still.of_below (alloc_below _ _))) (by omega) (by omega) HF.out.1).mono ?_
  rintro e w1 ⟨rfl, hb⟩
  have hb2 := alloc_then hb
  clear hb
  have hl : left0 1048576 (g.fr.size + (g.kids.len + g.kids.wt)) = -1 := by unfold left0; rw [if_pos (by have := H3.out; omega)]
  rw [hl]
  clear hl
  go_wp2_with fail
  go_ret
  exact ⟨rfl, hb2⟩
set_option maxHeartbeats 4000000 in
set_option maxRecDepth 100000 in
theorem step_small (w : World) (g : Nd) (sv : Value) (s : ByteArray) (hsl : s.size ≤ 1048576) (hs : Sl w sv g.kids) (hf : Fit g) (hsm : g.fr.size + (g.kids.len + g.kids.wt) ≤ 1048576) :
    Calls Try.prog 4 #[.agg #[.int .i64 g.k, .string g.fr, .int .i64 g.ix, sv], .string s] w fun e w' => e = .returned (.bool true) ∧ Below w.heap.size w w' := by
  have hkw : g.kids.len + g.kids.wt ≤ 1048576 := by omega
  have hksz : g.kids.sz ≤ 1048576 := by have := F.sz_le g.kids; omega
  have HH := hide (And.intro hs (And.intro hf (And.intro hsm (And.intro hkw (And.intro hksz (stepR_sz g s))))))
  have hA0 := alloc_below w (.cells #[.int .i64 g.k, .string g.fr, .int .i64 g.ix, sv] ( /- t -/ 24))
  have HW0 : Hid (LwS w (w.alloc (.cells #[.int .i64 g.k, .string g.fr, .int .i64 g.ix, sv] ( /- t -/ 24))) g sv) := hide ⟨hA0, Box4.now w _ _ _ _ _⟩
  clear hs hf hsm hkw hksz hA0
  obtain ⟨R, hR⟩ : ∃ R, R = stepR g s := ⟨_, rfl⟩
  obtain ⟨ok, hok⟩ : ∃ ok, ok = stepOk g s := ⟨_, rfl⟩
  have HR := hide hR
  have HOK := hide hok
  clear hR hok
  go_enter Try.func4, Try.ntmps4
  go_wp2_with fail
  refine (sz_calls g.kids _ g.k g.ix g.fr sv 1048576 (HH.out.1.still (Still.of_below HW0.out.hb)) (by omega) (by omega) HH.out.2.1.1).mono ?_
  rintro e w1 ⟨rfl, hb⟩
  obtain ⟨r, hr, hr0⟩ : ∃ r, r = left0 1048576 (g.fr.size + (g.kids.len + g.kids.wt)) ∧ 0 ≤ r := by
    refine ⟨_, rfl, ?_⟩
    have := HH.out.2.2.1
    unfold left0
    rw [if_neg (by omega)]
    omega
  rw [← hr]
  have HW1 := hide (HW0.out.below hb)
  clear hr hb HW0
  obtain ⟨x0, x1, x2, x3⟩ := HW1.out.hx.cells
  have hxl := HW1.out.hx.lt
  go_wp2_with fail
  refine (to_calls g.kids w1 g.k g.ix g.fr sv (HH.out.1.still (Still.of_below HW1.out.hb)) HH.out.2.2.2.1).mono ?_
  rintro e w2 ⟨u, bs, rfl, how, -, -, hb⟩
  obtain ⟨ua, uc, rfl⟩ := how.val
  have HU := hide how.sl
  have HW2 := hide (HW1.out.below hb)
  clear hb how HW1 x0 x1 x2 x3 hxl
  go_wp2_with fail
  refine (specStep w2 g _ s HU.out HH.out.2.1 (by have := HH.out.2.2.2.2.1; omega)).mono ?_
  rw [← HR.out, ← HOK.out]
  rintro e w3 ⟨wu, wbs, rfl, how, hge, hnd, hb⟩
  obtain ⟨wa, wc, rfl⟩ := how.val
  have hbA := alloc_below w3 (.cells #[.int .i64 R.k, .string R.fr, .int .i64 R.ix, .slice wa R.kids.len wc] ( /- t -/ 28))
  have HW3 := hide ((HW2.out.below hb).below hbA)
  have hw2s := HW2.out.hx.lt
  have HT4 := hide (LtS.now (t := ( /- t -/ 28)) how (lo := w2.heap.size) hge hnd hb.size)
  have h32 := hb.size
  clear hb hbA how hge hnd HW2 HU
  obtain ⟨x0, x1, x2, x3⟩ := HW3.out.hx.cells
  have hxl := HW3.out.hx.lt
  obtain ⟨N4, hN4⟩ : ∃ N4, N4 = w3.heap.size := ⟨_, rfl⟩
  obtain ⟨L4, hL4⟩ : ∃ L4, L4 = w2.heap.size := ⟨_, rfl⟩
  go_wp2_with fail
  rw [← hN4] at HT4 ⊢
  rw [← hL4] at HT4
  clear x0 x1 x2 x3 hxl
  generalize hV3 : w3.alloc (.cells #[.int .i64 R.k, .string R.fr, .int .i64 R.ix, .slice wa R.kids.len wc] ( /- t -/ 28)) = V3 at *
  have hs3 : V3.heap.size = N4 + 1 := by rw [← hV3, hN4]; simp
  have hN4L : L4 ≤ N4 := by omega
  have hL4w : w.heap.size < L4 := by omega
  clear hV3 hN4 hL4 h32 hw2s
  refine (to_calls g.kids V3 g.k g.ix g.fr sv (HH.out.1.still (Still.of_below HW3.out.hb)) HH.out.2.2.2.1).mono ?_
  rintro e w4 ⟨xu, xbs, rfl, how, hge, hnd, hb⟩
  obtain ⟨xa, xc, rfl⟩ := how.val
  have HW3 := hide (HW3.out.below hb)
  have HT4 := hide (HT4.out.below hb)
  have hbA := alloc_below w4 (.cells #[.int .i64 g.k, .string g.fr, .int .i64 g.ix, .slice xa g.kids.len xc] ( /- t -/ 28))
  have HW3 := hide (HW3.out.below hbA)
  have HT4 := hide (HT4.out.below hbA)
  have HT6 := hide (LtS.now (t := ( /- t -/ 28)) how (lo := V3.heap.size) hge hnd hb.size)
  have h43 := hb.size
  obtain ⟨N6, hN6⟩ : ∃ N6, N6 = w4.heap.size := ⟨_, rfl⟩
  clear hb hbA how hge hnd
  obtain ⟨x0, x1, x2, x3⟩ := HW3.out.hx.cells
  have xl := HW3.out.hx.lt
  obtain ⟨z0, z1, z2, z3⟩ := HT6.out.hx.cells
  have zl := HT6.out.hx.lt
  go_wp2_with fail
  rw [← hN6] at HT6 ⊢
  clear x0 x1 x2 x3 xl z0 z1 z2 z3 zl
  rw [hs3] at HT6
  generalize hV5 : w4.alloc (.cells #[.int .i64 g.k, .string g.fr, .int .i64 g.ix, .slice xa g.kids.len xc] ( /- t -/ 28)) = V5 at *
  have hs5 : V5.heap.size = N6 + 1 := by rw [← hV5, hN6]; simp
  have hN46 : N4 < N6 := by omega
  clear hV5 hN6 hs3 h43
  refine (implStep V5 g _ s HT6.out.ho.sl).mono ?_
  rw [← HR.out, ← HOK.out]
  rintro e w6 ⟨gu, gbs, rfl, how, hge, hnd, hb⟩
  obtain ⟨ga, gc, rfl⟩ := how.val
  have HW3 := hide (HW3.out.below hb)
  have HT4 := hide (HT4.out.below hb)
  have HT6 := hide (HT6.out.below hb)
  have hbA := alloc_below w6 (.cells #[.int .i64 R.k, .string R.fr, .int .i64 R.ix, .slice ga R.kids.len gc] ( /- t -/ 28))
  have HW3 := hide (HW3.out.below hbA)
  have HT4 := hide (HT4.out.below hbA)
  have HT6 := hide (HT6.out.below hbA)
  have HT7 := hide (LtS.now (t := ( /- t -/ 28)) how (lo := V5.heap.size) hge hnd hb.size)
  have h65 := hb.size
  obtain ⟨N7, hN7⟩ : ∃ N7, N7 = w6.heap.size := ⟨_, rfl⟩
  clear hb hbA how hge hnd
  obtain ⟨y0, y1, y2, y3⟩ := HT4.out.hx.cells
  have yl := HT4.out.hx.lt
  obtain ⟨v0, v1, v2, v3⟩ := HT7.out.hx.cells
  have vl := HT7.out.hx.lt
  go_wp2_with fail
  rw [← hN7] at HT7 ⊢
  clear y0 y1 y2 y3 yl v0 v1 v2 v3 vl
  rw [hs5] at HT7
  generalize hV7 : w6.alloc (.cells #[.int .i64 R.k, .string R.fr, .int .i64 R.ix, .slice ga R.kids.len gc] ( /- t -/ 28)) = V7 at *
  have hN67 : N6 < N7 := by omega
  clear hV7 hN7 hs5 h65
  refine (eq_calls R.kids V7 R.k R.ix R.fr _ _ HT7.out.ho.sl HT4.out.ho.sl).mono ?_
  rintro e w8 ⟨rfl, hb⟩
  have HW3 := hide (HW3.out.below hb)
  have HT4 := hide (HT4.out.below hb)
  have HT6 := hide (HT6.out.below hb)
  have HT7 := hide (HT7.out.below hb)
  clear hb
  obtain ⟨x0, x1, x2, x3⟩ := HW3.out.hx.cells
  have xl := HW3.out.hx.lt
  obtain ⟨y0, y1, y2, y3⟩ := HT4.out.hx.cells
  have yl := HT4.out.hx.lt
  obtain ⟨z0, z1, z2, z3⟩ := HT6.out.hx.cells
  have zl := HT6.out.hx.lt
  obtain ⟨v0, v1, v2, v3⟩ := HT7.out.hx.cells
  have vl := HT7.out.hx.lt
  go_wp2_with fail
  have hdr : Still w8 w8.drew := fun _ _ h => h
  have HSR := hide ((HH.out.1.still (Still.of_below HW3.out.hb)).still hdr)
  clear hdr
  have HW3 := hide (HW3.out.below (wj := w8.drew) (Below.refl _ _).drew)
  have HT4 := hide (HT4.out.below (wj := w8.drew) (Below.refl _ _).drew)
  have HT6 := hide (HT6.out.below (wj := w8.drew) (Below.refl _ _).drew)
  have HT7 := hide (HT7.out.below (wj := w8.drew) (Below.refl _ _).drew)
  go_region_held3 (fun w' => w'.cell? ⟨N6, 0, none⟩ = some (.int .i64 g.k) ∧ w'.cell? ⟨N6, 1, none⟩ = some (.string g.fr) ∧ w'.cell? ⟨N6, 2, none⟩ = some (.int .i64 g.ix) ∧ w'.cell? ⟨N6, 3, none⟩ = some (.slice xa g.kids.len xc) ∧
      w'.cell? ⟨w.heap.size, 0, none⟩ = some (.int .i64 g.k) ∧ w'.cell? ⟨w.heap.size, 1, none⟩ = some (.string g.fr) ∧ w'.cell? ⟨w.heap.size, 2, none⟩ = some (.int .i64 g.ix) ∧ w'.cell? ⟨w.heap.size, 3, none⟩ = some sv)
    (first | exact ⟨z0, z1, z2, z3, x0, x1, x2, x3⟩)
    ((first
      | (go_at_call 7; refine (to_calls g.kids _ g.k g.ix g.fr sv ?_ HH.out.2.2.2.1).mono ?_; (exact HSR.out); rintro e wA ⟨u3, bs3, rfl, how3, -, -, hbA⟩; (have HW3 := hide (HW3.out.below hbA)); (have HT4 := hide (HT4.out.below hbA)); (have HT6 := hide (HT6.out.below hbA)); (have HT7 := hide (HT7.out.below hbA)); (obtain ⟨z0, z1, z2, z3⟩ := HT6.out.hx.cells); (obtain ⟨x0, x1, x2, x3⟩ := HW3.out.hx.cells); (have H3 := hide how3.sl))
      | (go_at_call 9; refine (eq_calls g.kids _ g.k g.ix g.fr _ _ ?_ ?_).mono ?_; (exact HT6.out.ho.sl); (exact H3.out); rintro e wD ⟨rfl, hbD⟩; (have HW3 := hide (HW3.out.below hbD)); (have HT4 := hide (HT4.out.below hbD)); (have HT6 := hide (HT6.out.below hbD)); (have HT7 := hide (HT7.out.below hbD)); (obtain ⟨z0, z1, z2, z3⟩ := HT6.out.hx.cells); (obtain ⟨x0, x1, x2, x3⟩ := HW3.out.hx.cells))))
  clear hbA hbD H3 how3 z0 z1 z2 z3 x0 x1 x2 x3 HSR xl yl zl vl y0 y1 y2 y3 v0 v1 v2 v3
  obtain ⟨z0, z1, z2, z3⟩ := HT6.out.hx.cells
  have zl := HT6.out.hx.lt
  go_wp2_with fail
  clear z0 z1 z2 z3 zl
  have hsz1 : 1 + 4 * g.kids.sz ≤ 16777216 := by have := HH.out.2.2.2.2.1; omega
  refine (mark_calls g.kids wD _ xbs g.k g.ix g.fr 1 HT6.out.ho HT6.out.hn (Nat.le_refl _) hsz1).mono ?_
  rintro e w9 ⟨rfl, -, hwr⟩
  have h6l := HT6.out.hl
  have h6lo := HT6.out.hlo
  have HW3 := hide (HW3.out.wr hwr (fun x hx => by have := h6l x hx; omega))
  have HT4 := hide (HT4.out.wr hwr (fun x hx => by have := h6l x hx; omega))
  have HT7 := hide (HT7.out.wr hwr (fun x hx => by have := h6l x hx; omega))
  clear hwr h6l HT6
  have hkk : ((((1 + 4 * g.kids.sz : Nat) : Int)) < 0) = False := by simp; omega
  obtain ⟨K, hK⟩ : ∃ K : Int, K = ((1 + 4 * g.kids.sz : Nat) : Int) := ⟨_, rfl⟩
  have hK0 : 0 ≤ K := by omega
  rw [← hK]
  clear hK hkk
  obtain ⟨x0, x1, x2, x3⟩ := HW3.out.hx.cells
  have xl := HW3.out.hx.lt
  obtain ⟨y0, y1, y2, y3⟩ := HT4.out.hx.cells
  have yl := HT4.out.hx.lt
  obtain ⟨v0, v1, v2, v3⟩ := HT7.out.hx.cells
  have vl := HT7.out.hx.lt
  go_wp2_with fail
  refine (eq_calls R.kids _ R.k R.ix R.fr _ _ HT7.out.ho.sl HT4.out.ho.sl).mono ?_
  rintro e w10 ⟨rfl, hb⟩
  clear x0 x1 x2 x3 xl y0 y1 y2 y3 yl v0 v1 v2 v3 vl
  have HW3 := hide (HW3.out.below hb)
  have HT4 := hide (HT4.out.below hb)
  have HT7 := hide (HT7.out.below hb)
  clear hb
  obtain ⟨x0, x1, x2, x3⟩ := HW3.out.hx.cells
  have xl := HW3.out.hx.lt
  obtain ⟨y0, y1, y2, y3⟩ := HT4.out.hx.cells
  have yl := HT4.out.hx.lt
  obtain ⟨v0, v1, v2, v3⟩ := HT7.out.hx.cells
  have vl := HT7.out.hx.lt
  go_wp2_with fail
  clear x0 x1 x2 x3 xl y0 y1 y2 y3 yl v0 v1 v2 v3 vl
  have hszR : R.kids.sz ≤ 400 := by rw [HR.out]; exact HH.out.2.2.2.2.2
  have hsz2 : 1 + 4 * R.kids.sz ≤ 16777216 := by omega
  refine (mark_calls R.kids w10 _ gbs R.k R.ix R.fr 1 HT7.out.ho HT7.out.hn (Nat.le_refl _) hsz2).mono ?_
  rintro e w11 ⟨rfl, hog, hwr⟩
  have h7l := HT7.out.hl
  have HW3 := hide (HW3.out.wr hwr (fun x hx => by have := h7l x hx; omega))
  have HT4 := hide (HT4.out.wr hwr (fun x hx => by have := h7l x hx; omega))
  have HT7 := hide (HT7.out.marked hwr hog)
  clear hwr h7l hog
  obtain ⟨M, hM⟩ : ∃ M : Int, M = ((1 + 4 * R.kids.sz : Nat) : Int) := ⟨_, rfl⟩
  have hM0 : 0 ≤ M := by omega
  have HM := hide hM
  rw [← hM]
  clear hM
  obtain ⟨x0, x1, x2, x3⟩ := HW3.out.hx.cells
  have xl := HW3.out.hx.lt
  obtain ⟨y0, y1, y2, y3⟩ := HT4.out.hx.cells
  have yl := HT4.out.hx.lt
  obtain ⟨v0, v1, v2, v3⟩ := HT7.out.hx.cells
  have vl := HT7.out.hx.lt
  go_wp2_with fail
  refine (held_calls R.kids w11 _ R.k R.ix R.fr 1 HT7.out.ho.sl (Nat.le_refl _) hsz2).mono ?_
  rw [← HM.out]
  rintro e w12 ⟨rfl, hb⟩
  clear x0 x1 x2 x3 xl y0 y1 y2 y3 yl v0 v1 v2 v3 vl
  have HW3 := hide (HW3.out.below hb)
  have HT4 := hide (HT4.out.below hb)
  have HT7 := hide (HT7.out.below hb)
  clear hb
  obtain ⟨x0, x1, x2, x3⟩ := HW3.out.hx.cells
  have xl := HW3.out.hx.lt
  obtain ⟨y0, y1, y2, y3⟩ := HT4.out.hx.cells
  have yl := HT4.out.hx.lt
  obtain ⟨v0, v1, v2, v3⟩ := HT7.out.hx.cells
  have vl := HT7.out.hx.lt
  go_wp2_with fail
  clear x0 x1 x2 x3 xl y0 y1 y2 y3 yl v0 v1 v2 v3 vl
  refine (to_calls g.kids w12 g.k g.ix g.fr sv (HH.out.1.still (Still.of_below HW3.out.hb)) HH.out.2.2.2.1).mono ?_
  rintro e w13 ⟨u5, bs5, rfl, how, -, -, hb⟩
  obtain ⟨ua5, uc5, rfl⟩ := how.val
  have HU5 := hide how.sl
  have HW3 := hide (HW3.out.below hb)
  have HT4 := hide (HT4.out.below hb)
  have HT7 := hide (HT7.out.below hb)
  clear hb how
  go_wp2_with fail
  refine (implStep w13 g _ s HU5.out).mono ?_
  rw [← HR.out, ← HOK.out]
  rintro e w14 ⟨hu, hbs, rfl, how, hge, hnd, hb⟩
  obtain ⟨ha, hc, rfl⟩ := how.val
  have HW3 := hide (HW3.out.below hb)
  have HT4 := hide (HT4.out.below hb)
  have HT7 := hide (HT7.out.below hb)
  have hbA := alloc_below w14 (.cells #[.int .i64 R.k, .string R.fr, .int .i64 R.ix, .slice ha R.kids.len hc] ( /- t -/ 28))
  have HW3 := hide (HW3.out.below hbA)
  have HT4 := hide (HT4.out.below hbA)
  have HT7 := hide (HT7.out.below hbA)
  have HT8 := hide (LtS.now (t := ( /- t -/ 28)) how (lo := w13.heap.size) hge hnd hb.size)
  clear hb hbA how hge hnd HU5
  obtain ⟨s0, s1, s2, s3⟩ := HT8.out.hx.cells
  have sl := HT8.out.hx.lt
  obtain ⟨x0, x1, x2, x3⟩ := HW3.out.hx.cells
  have xl := HW3.out.hx.lt
  obtain ⟨y0, y1, y2, y3⟩ := HT4.out.hx.cells
  have yl := HT4.out.hx.lt
  obtain ⟨v0, v1, v2, v3⟩ := HT7.out.hx.cells
  have vl := HT7.out.hx.lt
  go_wp2_with fail
  clear x0 x1 x2 x3 xl y0 y1 y2 y3 yl v0 v1 v2 v3 vl
  clear s0 s1 s2 s3 sl
  refine (eq_calls R.kids _ R.k R.ix R.fr _ _ HT8.out.ho.sl HT4.out.ho.sl).mono ?_
  rintro e w15 ⟨rfl, hb⟩
  have HW3 := hide (HW3.out.below hb)
  have HT4 := hide (HT4.out.below hb)
  have HT7 := hide (HT7.out.below hb)
  clear hb HT8
  obtain ⟨x0, x1, x2, x3⟩ := HW3.out.hx.cells
  have xl := HW3.out.hx.lt
  obtain ⟨y0, y1, y2, y3⟩ := HT4.out.hx.cells
  have yl := HT4.out.hx.lt
  obtain ⟨v0, v1, v2, v3⟩ := HT7.out.hx.cells
  have vl := HT7.out.hx.lt
  go_wp2_with fail
  clear x0 x1 x2 x3 xl y0 y1 y2 y3 yl v0 v1 v2 v3 vl
  refine (held_calls R.kids w15 _ R.k R.ix R.fr 1 HT7.out.ho.sl (Nat.le_refl _) hsz2).mono ?_
  rw [← HM.out]
  rintro e w16 ⟨rfl, hb⟩
  have HW3 := hide (HW3.out.below hb)
  have HT4 := hide (HT4.out.below hb)
  have HT7 := hide (HT7.out.below hb)
  clear hb
  obtain ⟨x0, x1, x2, x3⟩ := HW3.out.hx.cells
  have xl := HW3.out.hx.lt
  obtain ⟨y0, y1, y2, y3⟩ := HT4.out.hx.cells
  have yl := HT4.out.hx.lt
  obtain ⟨v0, v1, v2, v3⟩ := HT7.out.hx.cells
  have vl := HT7.out.hx.lt
  go_wp2_with fail
  go_ret
  exact ⟨rfl, HW3.out.hb⟩

end Go.Proofs.Ytkepinjpihmjkab.Lo
