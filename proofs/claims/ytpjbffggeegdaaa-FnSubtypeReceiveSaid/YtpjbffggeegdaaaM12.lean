/- LKa -/
import Derived.Test.YtpjbffggeegdaaaM10
import Derived.Deep.LoopGhost
/- unlinkNode of the program: an action. -/
namespace Go.Proofs.Ytpjbffggeegdaaa.Lo
open Go.RowKit

/-- What holds at each head of the loop over the branches. -/
def ActRel (w0 w : World) (c a : Nat) (dp un k : Int) (fr : ByteArray) (kids : F) (es : List (Nat × Nd)) (S : List (Option Nd)) (xs : List Value) (sv : Value) (X n : Nat) (iv : Value) (wr : World) : Prop :=
  ∃ (p g : F) (u : Value) (bs : List Nat) (a' : Nat) (ys : List Value) (rs : List Nat), kids = p.app g ∧ n = g.len ∧ iv = .int .i64 (p.len : Nat) ∧ Lk w0 g (blks es) ys rs ∧ xs.drop (p.len * 2) = ys ∧ UnSt w wr c a' dp un sv ∧ Box4 wr X (.int .i64 k) (.string fr) (.int .i64 0) u ∧ Gr wr (X + 1) u (cpF S p) bs ∧
    a' = a + 1 + (cpF S p).sz ∧ a' ≤ 400 ∧ dp + (hF (cpF S p) : Int) ≤ 40

/-- What a child's writing leaves: its box, its flag, all its memory from a number on. -/
def KidB (w w4 : World) (c a : Nat) (dp un : Int) (sv : Value) (N : Nd) (d : Int) (base : Nat) (xv okv : Value) : Prop :=
  ∃ (X : Nat) (k ix : Int) (fr : ByteArray) (ua : Option Addr) (ul uc : Nat) (ok : Bool) (a' : Nat), xv = .pointer (some ⟨X, 0, none⟩) ∧ okv = .bool ok ∧ Box4 w4 X (.int .i64 k) (.string fr) (.int .i64 ix) (.slice ua ul uc) ∧ base ≤ X ∧ UnSt w w4 c a' dp un sv ∧
    ((ok = true ∧ k = N.k ∧ fr = N.fr ∧ ix = N.ix ∧ a + (N.kids.sz + 1) ≤ 400 ∧ d + (hF N.kids : Int) ≤ 40 ∧ a' = a + (N.kids.sz + 1) ∧ ∃ bs, Ow w4 (.slice ua ul uc) N.kids bs ∧ (∀ b, b ∈ bs → base ≤ b) ∧ bs.Nodup) ∨
     (ok = false ∧ ¬ (a + (N.kids.sz + 1) ≤ 400 ∧ d + (hF N.kids : Int) ≤ 40)))

theorem KidB.mk {w W3 wY w6 w4 : World} {c a1 a' X : Nat} {dp un : Int} {sv : Value} {N : Nd} {d : Int} (hst : UnSt w W3 c a1 dp un sv) (hcl : c < w.heap.size) (h35 : Below W3.heap.size W3 wY) (ho6 : Only c wY w6) (hc6 : Ctr w6 c a')
    (hX : W3.heap.size ≤ X) (h64 : Only X w6 w4) {k ix : Int} {fr : ByteArray} {ua : Option Addr} {ul uc : Nat} {ok : Bool} (hbox : Box4 w4 X (.int .i64 k) (.string fr) (.int .i64 ix) (.slice ua ul uc)) (hXb : X < wY.heap.size ∨ w6.heap.size ≤ X)
    (hcase : (ok = true ∧ k = N.k ∧ fr = N.fr ∧ ix = N.ix ∧ a1 + (N.kids.sz + 1) ≤ 400 ∧ d + (hF N.kids : Int) ≤ 40 ∧ a' = a1 + (N.kids.sz + 1) ∧ ∃ bs, Ow w6 (.slice ua ul uc) N.kids bs ∧ (∀ b, b ∈ bs → wY.heap.size ≤ b) ∧ bs.Nodup) ∨
       (ok = false ∧ ¬ (a1 + (N.kids.sz + 1) ≤ 400 ∧ d + (hF N.kids : Int) ≤ 40))) : KidB w w4 c a1 dp un sv N d W3.heap.size (.pointer (some ⟨X, 0, none⟩)) (.bool ok) ∧ Only c W3 w4 := by
  have h1 := hst.hz.lt
  have h2 := h35.size
  have h3 := hst.below h35
  have h4 := h3.only hcl ho6 hc6
  have hne : ∀ b, b < W3.heap.size → b ≠ X := fun b hb e => by omega
  have hz4 := h4.hz.lt
  have h5 : UnSt w w4 c a' dp un sv := by
    refine ⟨h4.hs.same (h64.block _ (by omega) (hne _ (by omega))), h4.hz.same (h64.block _ (by omega) (hne _ (by omega))), h4.hc.same (h64.block _ h4.hc.lt (hne _ (by omega))), ?_⟩
    refine ⟨h64.os.trans h4.ho.os, h64.tape.trans h4.ho.tape, h64.output.trans h4.ho.output, Nat.le_trans h4.ho.size h64.size, fun b hb hc => ?_⟩
    exact (h64.block b (Nat.lt_of_lt_of_le hb h4.ho.size) (hne b (by omega))).trans (h4.ho.block b hb hc)
  have h7 := ((Only.refl c W3).below h35).trans ho6
  refine ⟨⟨X, k, ix, fr, ua, ul, uc, ok, a', rfl, rfl, hbox, hX, h5, ?_⟩, ⟨h64.os.trans h7.os, h64.tape.trans h7.tape, h64.output.trans h7.output, Nat.le_trans h7.size h64.size, fun b hb hc => (h64.block b (Nat.lt_of_lt_of_le hb h7.size) (hne b hb)).trans (h7.block b hb hc)⟩⟩
  rcases hcase with ⟨q1, q2, q3, q4, q5, q6, q7, bs, how, hge, hnd⟩ | h
  · refine Or.inl ⟨q1, q2, q3, q4, q5, q6, q7, bs, how.same (fun b hb => h64.block b (how.lt b hb) ?_), fun b hb => Nat.le_trans h2 (hge b hb), hnd⟩
    have := hge b hb
    have := how.lt b hb
    omega
  · exact Or.inr h

set_option maxHeartbeats 4000000 in
set_option maxRecDepth 100000 in
theorem un_act (q n : Nat) (ih : UnAt q n) (w0 w : World) (c a : Nat) (dp un k ix : Int) (fr : ByteArray) (v lv : Value) (kids : F) (es : List (Nat × Nd)) (m : Nat) (ks : List Nat) (hkk : k = 2 ∨ k = 3) (hn : kids.sz < n + 1) (hq : es.length = q + m)
    (hk : LkN w0 k fr ix kids (blks es) v ks) (he : EnvL w0 es) (hw : wN ⟨k, fr, ix, kids⟩ (es.length : Int) 0 = true) (hB : Below w0.heap.size w0 w) (hc0 : w0.heap.size ≤ c) (hc : Ctr w c a) (ha : a ≤ 400) (hd1 : 1 ≤ dp) (hd2 : dp ≤ 41)
    (hmd : (m : Int) + 1 ≤ dp) (hq2 : q ≤ 1000) (hp : Pt w lv (blks (es.take m))) :
    Calls Try.prog 24 #[v, .agg #[.int .i64 dp, lv, .int .i64 un], .pointer (some ⟨c, 0, none⟩)] w (CpPost c (cpN (lenv m es) ⟨k, fr, ix, kids⟩) dp a w) := by
  have hcl := hc.lt
  have hsh : shapeB k fr ix kids = true := by
    have h9 := hw
    unfold wN at h9
    simp only [Bool.and_eq_true] at h9
    exact h9.1
  obtain ⟨hf1, rfl, hbr⟩ := shape_act hkk hsh
  have hlen4 := shape_len4 hsh
  obtain ⟨A, r, bc, cs, xs, ks', rfl, hbA, hnc, hcm, hbr2, hxs, hlk⟩ := linked_act hkk hk
  obtain ⟨S, hS⟩ : ∃ S, S = lenv m es := ⟨_, rfl⟩
  have hR : cpN (lenv m es) ⟨k, fr, 0, kids⟩ = ⟨k, fr, 0, cpF S kids⟩ := by
    rw [cpN_k (show k ≠ 5 by omega), hS]
    simp only [if_neg (show ¬ k = 4 by omega)]
  rw [hR]
  have hfS : ∀ U, some U ∈ S → Fit U := by
    rw [hS]
    exact EnvL.fitsM m es he (by omega)
  have hml : (blks (es.take m)).length = m := scope_len es m (by omega)
  -- a branch, by the hypothesis of the induction
  have HUN : Hid (∀ (p rest : F) (lab : ByteArray) (kd ix' : Int) (fr' : ByteArray) (kids' : F) (wY : World) (sv vv : Value) (k1 : List Nat) (aa : Nat), kids = p.app (.cons lab kd fr' ix' kids' rest) → LkN w0 kd fr' ix' kids' (blks es) vv k1 → aa ≤ 400 → dp ≤ 40 → Below w0.heap.size w0 wY → Ctr wY c (aa : Int) → Pt wY sv (blks (es.take m)) →
      Calls Try.prog 24 #[vv, .agg #[.int .i64 (dp + 1), sv, .int .i64 0], .pointer (some ⟨c, 0, none⟩)] wY (CpPost c (cpN S ⟨kd, fr', ix', kids'⟩) (dp + 1) aa wY)) := hide (by
    intro p rest lab kd ix' fr' kids' wY sv vv k1 aa hke hln haa hd4 hbY hcY hpY
    rw [hS]
    refine ih w0 wY c aa (dp + 1) 0 kd ix' fr' vv sv kids' es m k1 ?_ hq hln he (kid_act hw hkk hke) hbY hc0 hcY haa (by omega) (by omega) (by omega) (by omega) (by omega) hq2 hpY
    rw [hke, F.sz_app] at hn
    simp only [F.sz] at hn
    omega)
  have HFIT : Hid (∀ (p rest : F) (lab : ByteArray) (kd ix' : Int) (fr' : ByteArray) (kids' : F), kids = p.app (.cons lab kd fr' ix' kids' rest) → Fit (cpN S ⟨kd, fr', ix', kids'⟩) ∧ lab.size = 1) :=
    hide (fun p rest lab kd ix' fr' kids' hke => ⟨cpN_fit hfS (fit_of_w (kid_act hw hkk hke) (by omega) (by omega)), lab_act hw hkk hke⟩)
  obtain ⟨la, lcap, e9, -, -⟩ := hp.ps.val
  rw [hml] at e9
  subst e9
  have hb3 := ((alloc_below w (.cells #[.int .i64 dp, .slice la m lcap, .int .i64 un] ( /- t -/ 53))).alloc (by simp) (.cells #[.int .i64 0, .string ⟨#[]⟩, .int .i64 0, .slice none 0 0] ( /- t -/ 25))).alloc (by simp; omega) (.cells #[.pointer none] ( /- t -/ 60))
  have HST := hide ((UnSt.start hc dp un (.slice la m lcap) ( /- t -/ 53) ( /- t -/ 25)).below (alloc_below _ (.cells #[.pointer none] ( /- t -/ 60))))
  have HP0 := hide hp
  have HC0 := hide hc
  have HB0 := hide hB
  have HB := hide (hB.trans (hb3.mono hB.size))
  have HBA := hide hbA
  have HBR := hide hbr2
  have HXS := hide hxs
  have HLK := hide hlk
  have HML := hide hml
  have hkl : kids.len ≤ 9223372036854775807 := by unfold maxLen at hcm; omega
  clear hp hB hbA hbr2 hxs hlk hml hb3 hk he hw hn hq ih hS hR hfS hsh hbr hf1 hc hcm
  have n1 := taActVar
  have n2 := taActLoop
  have n3 := taActAct
  go_enter Try.func24, Try.ntmps24
  go_upto_region 4 with fail
  generalize ((w.alloc (.cells #[.int .i64 dp, .slice la m lcap, .int .i64 un] ( /- t -/ 53))).alloc (.cells #[.int .i64 0, .string ⟨#[]⟩, .int .i64 0, .slice none 0 0] ( /- t -/ 25))).alloc (.cells #[.pointer none] ( /- t -/ 60)) = W at *
  have cc := HST.out.hc.cell
  have cf := HST.out.hc.frozen
  have cl := HST.out.hc.lt
  have s0 : W.cell? ⟨w.heap.size, 0, none⟩ = some (.int .i64 dp) := HST.out.hs.cell 0
  have sl := HST.out.hs.lt
  obtain ⟨z0, z1, z2, z3⟩ := HST.out.hz.cells
  have fz := HST.out.hz.frozen
  have hzl := HST.out.hz.lt
  by_cases hm4 : 400 ≤ a
  · go_wp2_with fail
    refine bodyPost_ret (v := .tuple #[.agg #[.int .i64 0, .string ⟨#[]⟩, .int .i64 0, .slice none 0 0], .bool false]) (by simp [results, Try.results24, go_sem, *]) rfl ?_
    exact UnSt.no (HST.out.count hcl) hcl (fun h => by have := h.1; omega) _ _ _ _
  by_cases hd4 : 40 < dp
  · go_wp2_with fail
    refine bodyPost_ret (v := .tuple #[.agg #[.int .i64 0, .string ⟨#[]⟩, .int .i64 0, .slice none 0 0], .bool false]) (by simp [results, Try.results24, go_sem, *]) rfl ?_
    exact UnSt.no (HST.out.count hcl) hcl (fun h => by have := h.2; omega) _ _ _ _
  go_upto_region 19 with fail
  have hst3 := HST.out.count hcl
  have hb03 := HB.out.setCell (p := ⟨c, 0, none⟩) hc0 (.int .i64 ((a : Int) + 1))
  generalize W.setCell ⟨c, 0, none⟩ (.int .i64 ((a : Int) + 1)) = W3 at *
  clear cc cf cl s0 sl z0 z1 z2 z3 fz hzl n1 n2 n3 HST HB
  have hbA3 := HBA.out.below hb03
  have a0 : W3.cell? ⟨A, 0, none⟩ = some (.int .i64 k) := hbA3.cell 0
  have a1 : W3.cell? ⟨A, 1, none⟩ = some (.string fr) := hbA3.cell 1
  have a2 : W3.cell? ⟨A, 2, none⟩ = some (.slice (some ⟨r, 0, none⟩) kids.len bc) := hbA3.cell 2
  have hAl := hbA3.lt
  have HST3 := hide hst3
  have HB03 := hide hb03
  clear hst3 hb03 hbA3
  obtain ⟨XX, hXX⟩ : ∃ XX, XX = W3.heap.size := ⟨_, rfl⟩
  have hXw : w.heap.size + 1 < XX := by rw [hXX]; exact HST3.out.hz.lt
  have HREL : Hid (ActRel w0 w c a dp un k fr kids es S xs (.slice la m lcap) XX kids.len (.int .i64 0) (W3.alloc (.cells #[.int .i64 k, .string fr, .int .i64 0, .slice none 0 0] ( /- t -/ 25))).drew) := by
    have hbD : Below W3.heap.size W3 (W3.alloc (.cells #[.int .i64 k, .string fr, .int .i64 0, .slice none 0 0] ( /- t -/ 25))).drew := (alloc_below _ _).drew
    have hbox : Box4 (W3.alloc (.cells #[.int .i64 k, .string fr, .int .i64 0, .slice none 0 0] ( /- t -/ 25))).drew XX (.int .i64 k) (.string fr) (.int .i64 0) (.slice none 0 0) := by
      rw [hXX]
      exact (Box4.now W3 _ _ _ _ _).drew
    exact hide ⟨.nil, kids, _, [], a + 1, xs, ks', rfl, rfl, rfl, HLK.out, rfl, HST3.out.below hbD, hbox, by rw [cpF]; exact Gr.nil _ _, by rw [cpF]; rfl, by omega, by rw [cpF]; simp only [hF]; omega⟩
  obtain ⟨i0, hi, hz0, hz1, hz2⟩ := info_parts Try.info65
  have HI := hide (And.intro hi (And.intro hz0 (And.intro hz1 hz2)))
  clear hi hz0 hz1 hz2
  go_region
  go_wp2_with fail
  rw [← hXX]
  clear a0 a1 a2 hAl HST3 HB03 HLK hXX
  go_loopg [102] (kids.len) (fun gk iv wr => ActRel w0 w c a dp un k fr kids es S xs (.slice la m lcap) XX gk iv wr)
  case atStart => exact HREL.out
  case round =>
    obtain ⟨p, g, u, bs, a', ys, rs, hke, hgl, rfl, hlg, hdr, hst, hbx, hgr, ha', ha4, hd'⟩ := hrel
    have hbw := HB0.out.trans (hst.ho.to_below hc0 HB0.out.size)
    have hpt := HP0.out.only HC0.out hst.ho
    obtain ⟨va, vc, rfl⟩ := hgr.val
    clear HREL
    cases g with
    | nil =>
      have hge : kids.len ≤ p.len := by rw [hke, F.app_nil]; exact Nat.le_refl _
      rw [F.app_nil] at hke
      obtain ⟨o0, o1, o2, o3⟩ := hbx.cells
      have hol := hbx.lt
      obtain ⟨z0, z1, z2, z3⟩ := hst.hz.cells
      have fz := hst.hz.frozen
      have hzl := hst.hz.lt
      have HS2 := hide hst
      have HG := hide hgr
      have HE := hide (And.intro hke (And.intro ha' hd'))
      clear hst hbx hgr hke ha' hd' hlg hdr hbw hpt hgl
      go_wp2_with fail
      refine bodyPost_ret (v := .tuple #[.agg #[.int .i64 k, .string fr, .int .i64 0, .slice va (cpF S p).len vc], .bool true]) (by simp [results, Try.results24, go_sem, *]) rfl ?_
      rw [HE.out.1]
      have q : ∀ b, b ∈ bs → b ≠ w.heap.size + 1 := fun b hb => by have := HG.out.ge b hb; omega
      exact CpPost.yes (bs := bs) (a' := a') (only_setAll HS2.out.ho (by omega) _ _ _ _) (ctr_setAll HS2.out.hc (by omega) _ _ _ _) (by have := HE.out.2.1; simp only; omega) HE.out.2.2 (by have := HE.out.2.1; simp only; omega) (HG.out.ow.same (same_setAll q _ _ _ _)) (fun b hb => by have := HG.out.ge b hb; omega) HG.out.nodup rfl rfl rfl
    | cons lab kd fr' ix' kids' rest =>
      have hlt : p.len < kids.len := by rw [hke, F.len_app]; simp only [F.len]; omega
      obtain ⟨T, x, ys', k1, r1, q0, q1, hln, hrest, hdrop⟩ := linked_next hlg hdr HBR.out HXS.out
      have c0 := Still.of_below hbw _ _ q0
      have c1 := Still.of_below hbw _ _ q1
      have hrl := World.block_lt_of_cell? _ _ c0
      have HST := hide hst
      have HBX := hide hbx
      have HGR := hide hgr
      have HLN := hide hln
      have HRS := hide (And.intro hrest hdrop)
      have HKE := hide hke
      have HAD := hide (And.intro ha' hd')
      have HBW := hide hbw
      have HPT := hide hpt
      have HGL := hide hgl
      have hXr := hbx.lt
      clear hst hbx hgr hln hrest hdrop hke ha' hd' hbw hpt hgl hlg hdr q0 q1
      go_upto_region 23 with fail
      have hbA := alloc_below wr (.cells #[.string lab, .iface T x] ( /- t -/ 72))
      have hvb := alloc_last wr #[.string lab, .iface T x] ( /- t -/ 72)
      have hst5 := HST.out.below hbA
      have hbx5 := HBX.out.below hbA
      have hgr5 := HGR.out.below hbA
      have hpt5 := HPT.out.below hbA
      have hb05 := HBW.out.trans (hbA.mono HBW.out.size)
      have hv0 : wr.heap.size < (wr.alloc (.cells #[.string lab, .iface T x] ( /- t -/ 72))).heap.size := by simp
      obtain ⟨B17, hB17⟩ : ∃ B17, B17 = wr.heap.size := ⟨_, rfl⟩
      rw [← hB17] at hvb hv0 ⊢
      generalize wr.alloc (.cells #[.string lab, .iface T x] ( /- t -/ 72)) = W5 at *
      clear hbA HST HBX HGR HPT HBW c0 c1 hrl
      have hcb : c ≠ B17 := by omega
      clear hB17
      have y0 : W5.cell? ⟨B17, 0, none⟩ = some (.string lab) := cell_of_heap (o := 0) hvb
      have y1 : W5.cell? ⟨B17, 1, none⟩ = some (.iface T x) := cell_of_heap (o := 1) hvb
      have s0 : W5.cell? ⟨w.heap.size, 0, none⟩ = some (.int .i64 dp) := hst5.hs.cell 0
      have s1 : W5.cell? ⟨w.heap.size, 1, none⟩ = some (.slice la m lcap) := hst5.hs.cell 1
      have s2 : W5.cell? ⟨w.heap.size, 2, none⟩ = some (.int .i64 un) := hst5.hs.cell 2
      have sl := hst5.hs.lt
      have hXX5 := hbx5.lt
      obtain ⟨N, hN⟩ : ∃ N, N = cpN S ⟨kd, fr', ix', kids'⟩ := ⟨_, rfl⟩
      have HBEL : Hid (∀ wX : World, Below W5.heap.size W5 wX → Calls Try.prog 37 #[.agg #[.int .i64 dp, .slice la m lcap, .int .i64 un]] wX fun e w5 =>
          e = .returned (.agg #[.int .i64 (dp + 1), .slice la m lcap, .int .i64 0]) ∧ Below wX.heap.size wX w5) := hide (fun wX hbX => below_calls wX dp un (.slice la m lcap) (blks (es.take m)) ((hpt5.below hbX).ps) (by omega) (by omega))
      have HKID : Hid (∀ wY : World, Below w0.heap.size w0 wY → Ctr wY c (a' : Int) → Pt wY (.slice la m lcap) (blks (es.take m)) → Calls Try.prog 24 #[.iface T x, .agg #[.int .i64 (dp + 1), .slice la m lcap, .int .i64 0], .pointer (some ⟨c, 0, none⟩)] wY (CpPost c N (dp + 1) a' wY)) :=
        hide (fun wY h1 h2 h3 => by rw [hN]; exact HUN.out p rest lab kd ix' fr' kids' wY _ _ k1 a' HKE.out HLN.out ha4 (by omega) h1 h2 h3)
      have HFN : Hid (Fit N ∧ lab.size = 1) := hide (by rw [hN]; exact HFIT.out p rest lab kd ix' fr' kids' HKE.out)
      have HN := hide hN
      have HST := hide hst5
      have HBX := hide hbx5
      have HGR := hide hgr5
      have HPT := hide hpt5
      have HB05 := hide hb05
      have HVB := hide hvb
      clear hst5 hbx5 hgr5 hpt5 hb05 hN hvb
      go_cut [18, 19] from 106 to 127 (fun xv okv w4 => KidB w w4 c a' dp un (.slice la m lcap) N (dp + 1) W5.heap.size xv okv ∧ Only c W5 w4)
      case first =>
        have hWc : c < W5.heap.size := HST.out.hc.lt
        go_region_with (first
          | (go_at_call 37; refine (HBEL.out _ ?_).mono ?_; (first | exact (Below.refl _ _).drew | exact ((Below.refl _ _).drew).alloc (Nat.le_refl _) _);
             rintro e w7 ⟨rfl, hb7⟩;
             (have h57 : Below W5.heap.size W5 w7 := by (first | exact ((Below.refl _ _).drew).trans hb7 | exact (((Below.refl _ _).drew).alloc (Nat.le_refl _) _).trans (hb7.mono (Nat.le_of_lt (by simp))))); have y7 : w7.cell? ⟨B17, 1, none⟩ = some (.iface T x) := Still.of_below h57 _ _ y1; have yl7 : B17 < w7.heap.size := World.block_lt_of_cell? _ _ y7;
             (first | (have hz7 : Box4 w7 W5.heap.size (.int .i64 0) (.string ⟨#[]⟩) (.int .i64 0) (.slice none 0 0) := (Box4.now W5.drew (.int .i64 0) (.string ⟨#[]⟩) (.int .i64 0) (.slice none 0 0) ( /- t -/ 25)).below hb7) | skip))
          | (go_at_call 24; refine (HKID.out _ ?_ ?_ ?_).mono ?_; (first | exact HB05.out.trans (h57.mono HB05.out.size) | exact (HB05.out.trans (h57.mono HB05.out.size)).alloc (Nat.le_trans HB05.out.size h57.size) _); (first | exact HST.out.hc.below h57 | exact (HST.out.hc.below h57).alloc _);
             (first | exact HPT.out.below h57 | exact (HPT.out.below h57).below (alloc_below _ _)); (intro e w6 hpost; obtain ⟨k6, ix6, fr6, ua, ul, uc, ok, a2, rfl, ho6, hc6, hcase⟩ := hpost.form);
             (first | (have hz6 := (Box4.now w7 (.int .i64 0) (.string ⟨#[]⟩) (.int .i64 0) (.slice none 0 0) ( /- t -/ 25)).only ho6 (Nat.ne_of_gt (Nat.lt_of_lt_of_le hWc h57.size)); obtain ⟨z0, z1, z2, z3⟩ := hz6.cells; have fz := hz6.frozen; have zl := hz6.lt)
                    | (have hz6 := hz7.only ho6 (Nat.ne_of_gt hWc); obtain ⟨z0, z1, z2, z3⟩ := hz6.cells; have fz := hz6.frozen; have zl := hz6.lt)
                    | skip)))
        all_goals
          (go_wp2_with fail
           go_meet
           first
             | exact KidB.mk HST.out hcl h57 ho6 hc6 (Nat.le_trans h57.size ho6.size) ((Only.refl _ _).alloc _) (Box4.now w6 _ _ _ _ _) (Or.inr (Nat.le_refl _)) hcase
             | exact KidB.mk HST.out hcl (h57.alloc h57.size _) ho6 hc6 h57.size (only_box _ _ _ _ _ _) (hz6.setAll _ _ _ _) (Or.inl (by simp)) hcase
             | exact KidB.mk HST.out hcl h57 ho6 hc6 (Nat.le_refl _) (only_box _ _ _ _ _ _) (hz6.setAll _ _ _ _) (Or.inl (by have := hb7.size; simp at this; omega)) hcase)
      case rest =>
        obtain ⟨⟨X, k', ix2, fr2, ua, ul, uc, ok, a2, rfl, rfl, hbx2, hXw2, hst4, hcase⟩, ho4⟩ := hcut
        have hbx4 := HBX.out.only ho4 (by omega)
        have hgr4 := HGR.out.only ho4 (by omega)
        have hbl5 := HGR.out.lt
        have hv4 : wc.heap[B17]? = some (.cells #[.string lab, .iface T x] ( /- t -/ 72) (0, 0)) := (ho4.block B17 hv0 (Ne.symm hcb)).trans HVB.out
        have hs4 := ho4.size
        clear HBX HGR HPT HST HB05 HVB ho4 s0 s1 s2 sl y0 y1 HBEL HKID
        obtain ⟨z0, z1, z2, z3⟩ := hst4.hz.cells
        have fz := hst4.hz.frozen
        have hzl := hst4.hz.lt
        have HST4 := hide hst4
        clear hst4
        rcases hcase with ⟨rfl, rfl, rfl, rfl, h1, h2, h3, bs2, how, hge, hnd⟩ | ⟨rfl, hno⟩
        · have hul : ul = N.kids.len := by
            obtain ⟨_, _, e, _⟩ := how
            injection e
          subst hul
          obtain ⟨x0, x1, x2, x3⟩ := hbx2.cells
          have hxl := hbx2.lt
          obtain ⟨o0, o1, o2, o3⟩ := hbx4.cells
          have fo := hbx4.frozen
          have hol := hbx4.lt
          have y0 : wc.cell? ⟨B17, 0, none⟩ = some (.string lab) := cell_of_heap (o := 0) hv4
          have y1 : wc.cell? ⟨B17, 1, none⟩ = some (.iface T x) := cell_of_heap (o := 1) hv4
          have yl := World.block_lt_of_cell? _ _ y0
          have HOW := hide how
          have HGE := hide hge
          have HE := hide (And.intro h1 (And.intro h2 h3))
          have HBX4 := hide hbx4
          have HGR4 := hide hgr4
          have HBL5 := hide hbl5
          have hpl3 : (cpF S p).len ≤ 4 := by rw [cpF_len]; omega
          have HPL := hide hpl3
          clear how hge h1 h2 h3 hbx4 hgr4 hbl5 hv4 hbx2 z0 z1 z2 z3 fz hzl hpl3
          go_wp2_with (first | (at_builtin; go_loud (refine wpList_append_lies _ rfl _ _ ( /- t -/ 23) rfl (XX + 1) ( /- t -/ 65) i0 _ 5 72 Try.underlying23 HI.out.1 HI.out.2.1 HI.out.2.2.1 HI.out.2.2.2 rfl (by omega) (.slice va (cpF S p).len vc) (cpF S p).len (grXs (wc.alloc (.cells #[.string lab, .int .i64 N.k, .string N.fr, .int .i64 N.ix, .slice ua N.kids.len uc] ( /- t -/ 65))) (.slice va (cpF S p).len vc) (cpF S p)) (by rfl) (HGR4.out.below (alloc_below _ _)).owns ⟨wc.heap.size, 0, none⟩ 1 1 [.string lab, .int .i64 N.k, .string N.fr, .int .i64 N.ix, .slice ua N.kids.len uc] (by rfl) (by rfl) (World.news_of_block (cs := #[.string lab, .int .i64 N.k, .string N.fr, .int .i64 N.ix, .slice ua N.kids.len uc]) (t := ( /- t -/ 65)) (fr := (0, 0)) (heap_alloc_new wc (.cells #[.string lab, .int .i64 N.k, .string N.fr, .int .i64 N.ix, .slice ua N.kids.len uc] ( /- t -/ 65)))) (by simp [Value.oneCell']) (by omega) (by have := HPL.out; unfold maxLen; omega) (by have := HPL.out; omega) (by simp; omega) _ rfl ?_; intro gg cp w6 hown6 hgrow6 hat6 hlt6; (have hgr6 := HGR4.out.below (alloc_below wc (.cells #[.string lab, .int .i64 N.k, .string N.fr, .int .i64 N.ix, .slice ua N.kids.len uc] ( /- t -/ 65)))); (have hb6 := (HBX4.out.below (alloc_below wc (.cells #[.string lab, .int .i64 N.k, .string N.fr, .int .i64 N.ix, .slice ua N.kids.len uc] ( /- t -/ 65)))).same (hgrow6.block XX (by simp; omega) (fun e => by have := hgr6.ge _ (hgr6.block _ e.symm); omega))); (have e4 := hb6.cells.2.2.2); (have ef := hb6.frozen); (have el := hb6.lt))) | fail)
          obtain ⟨h1, h2, h3⟩ := HE.out
          obtain ⟨f1, f2, f3⟩ := HFN.out.1
          have hou := HOW.out.same (Same.of_below (alloc_below wc (.cells #[.string lab, .int .i64 N.k, .string N.fr, .int .i64 N.ix, .slice ua N.kids.len uc] ( /- t -/ 65))) HOW.out.lt)
          obtain ⟨bs', hpush, -⟩ := Gr.push hgr6 (k := N.k) (ix := N.ix) hou (fun b hb => by have := HGE.out b hb; omega) hnd
            (fun b hb hb2 => by have h8 := HBL5.out b hb; have h9 := HGE.out b hb2; omega) (by rw [HFN.out.2]; decide) f1 f2 f3 hown6 hgrow6 (by rcases hat6 with h | h; exact Or.inl h; exact Or.inr h)
          have hEQ : (cpF S p).app (.cons lab N.k N.fr N.ix N.kids .nil) = cpF S (p.app (.cons lab kd fr' ix' kids' .nil)) := by
            rw [cpF_app, cpF_cons, ← HN.out, cpF]
          rw [hEQ] at hpush
          have far : ∀ b, b < XX → (w6.setCell ⟨XX, 3, none⟩ (.slice (some ⟨gg, 0, none⟩) ((cpF S p).len + 1) cp)).heap[b]? = wc.heap[b]? := fun b hb => by
            rw [Below.heap_setCell _ _ _ _ (by simp; omega), hgrow6.block b (by simp; omega) (fun e => by have := hgr6.ge b (hgr6.block b e.symm); omega), Below.heap_alloc wc _ _ (by omega)]
          have hs4l := HST4.out.hz.lt
          have hws := HST4.out.ho.size
          have hss : wc.heap.size ≤ (w6.setCell ⟨XX, 3, none⟩ (.slice (some ⟨gg, 0, none⟩) ((cpF S p).len + 1) cp)).heap.size := by have := hgrow6.size; simp at this ⊢; omega
          have hst6 : UnSt w (w6.setCell ⟨XX, 3, none⟩ (.slice (some ⟨gg, 0, none⟩) ((cpF S p).len + 1) cp)) c a2 dp un (.slice la m lcap) := by
            refine ⟨HST4.out.hs.same (far _ (by omega)), HST4.out.hz.same (far _ (by omega)), HST4.out.hc.same (far _ (by omega)), ?_⟩
            have h9 := HST4.out.ho
            exact ⟨hgrow6.os.trans h9.os, hgrow6.tape.trans h9.tape, hgrow6.output.trans h9.output, Nat.le_trans hws hss, fun b hb hne => (far b (by omega)).trans (h9.block b hb hne)⟩
          have e1 := HAD.out.1
          have e2 := HAD.out.2
          go_roundg rest.len
          case measure =>
            have := HGL.out
            simp only [F.len] at this
            omega
          case rel =>
            refine ⟨p.app (.cons lab kd fr' ix' kids' .nil), rest, _, bs', a2, ys', r1, by rw [HKE.out, F.app_assoc]; rfl, rfl, by rw [F.len_app]; rfl, HRS.out.1, by rw [F.len_app]; exact HRS.out.2, hst6, hb6.set3 _,
              hpush.same (fun b hb => Below.heap_setCell _ _ _ _ (by have := hpush.ge b hb; simp; omega)), ?_, by omega, ?_⟩
            · rw [← hEQ, F.sz_app]
              simp only [F.sz]
              omega
            · rw [← hEQ, hF_app]
              simp only [hF]
              omega
        · have HNO := hide hno
          clear hno
          go_wp2_with fail
          refine bodyPost_ret (v := .tuple #[.agg #[.int .i64 0, .string ⟨#[]⟩, .int .i64 0, .slice none 0 0], .bool false]) (by simp [results, Try.results24, go_sem, *]) rfl ?_
          refine UnSt.no HST4.out hcl (fun h => HNO.out ?_) _ _ _ _
          obtain ⟨h1, h2⟩ := h
          have e1 := HAD.out.1
          simp only at h1 h2
          rw [HKE.out, cpF_app, cpF_cons, ← HN.out] at h1 h2
          simp only [F.sz_app, F.sz, hF_app, hF] at h1 h2
          exact ⟨by omega, by omega⟩
end Go.Proofs.Ytpjbffggeegdaaa.Lo
