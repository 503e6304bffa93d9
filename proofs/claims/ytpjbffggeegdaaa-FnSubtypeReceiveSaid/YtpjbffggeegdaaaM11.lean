/- LKl -/
import Derived.Test.YtpjbffggeegdaaaM10
/- unlinkNode of the program: a recursion, also one that a variable jumps to. -/
namespace Go.Proofs.Ytpjbffggeegdaaa.Lo
open Go.RowKit

set_option maxHeartbeats 4000000 in
set_option maxRecDepth 100000 in
theorem un_loop (q n : Nat) (ih : UnAt q n) (w0 w : World) (c a : Nat) (dp un un' : Int) (fr : ByteArray) (ix : Int) (v lv lv' : Value) (kids : F) (t : List (Nat × Nd)) (m L : Nat) (ks : List Nat) (pv : Option Addr) (bb : Bool) (hn : kids.sz < n + 1) (hq : t.length = q + m)
    (hk : LkN w0 4 fr ix kids (blks t) (.iface ( /- t -/ 56) (.pointer (some ⟨L, 0, none⟩))) ks) (he : EnvL w0 t) (hw : wN ⟨4, fr, ix, kids⟩ (t.length : Int) 0 = true) (hB : Below w0.heap.size w0 w) (hc0 : w0.heap.size ≤ c) (hc : Ctr w c a) (ha : a ≤ 400) (hd1 : 1 ≤ dp) (hd2 : dp ≤ 41)
    (hmd : (m : Int) + 1 ≤ dp) (hu1 : 0 ≤ un') (hu2 : un' + 1 ≤ dp) (hq2 : q ≤ 1000) (hp : Pt w lv' (blks (t.take m))) (hlv : ∃ la ln lc, lv = .slice la ln lc) (hat : AtLoop w0 w L v lv lv' un un' m pv bb) :
    Calls Try.prog 24 #[v, .agg #[.int .i64 dp, lv, .int .i64 un], .pointer (some ⟨c, 0, none⟩)] w (CpPost c (cpN (lenv m t) ⟨4, fr, ix, kids⟩) dp a w) := by
  obtain ⟨la, ln, lc, rfl⟩ := hlv
  have hta : ∀ w, (Instr.typeAssert v ( /- t -/ 32) ( /- t -/ 60) true).run Try.prog w = .ok (.tuple #[.agg #[.pointer pv], .bool bb]) w := by
    rcases hat with ⟨rfl, rfl, rfl, -⟩ | ⟨rfl, rfl, rfl, -⟩
    · exact taLoopVar _
    · exact taVarVar _
  have hb3 := ((alloc_below w (.cells #[.int .i64 dp, .slice la ln lc, .int .i64 un] ( /- t -/ 53))).alloc (by simp) (.cells #[.int .i64 0, .string ⟨#[]⟩, .int .i64 0, .slice none 0 0] ( /- t -/ 25))).alloc (by simp; omega) (.cells #[.pointer pv] ( /- t -/ 60))
  have HST := hide ((UnSt.start hc dp un (.slice la ln lc) ( /- t -/ 53) ( /- t -/ 25)).below (alloc_below _ (.cells #[.pointer pv] ( /- t -/ 60))))
  have hvb := alloc_last ((w.alloc (.cells #[.int .i64 dp, .slice la ln lc, .int .i64 un] ( /- t -/ 53))).alloc (.cells #[.int .i64 0, .string ⟨#[]⟩, .int .i64 0, .slice none 0 0] ( /- t -/ 25))) #[.pointer pv] ( /- t -/ 60)
  have hcl := hc.lt
  have hsh : shapeB 4 fr ix kids = true := by
    have h9 := hw
    unfold wN at h9
    simp only [Bool.and_eq_true] at h9
    exact h9.1
  obtain ⟨hf0, rfl, lab, k', fr', ix', kids', rfl, hl0⟩ := shape_rec hsh
  have hf1 := empty_of hf0
  have hl1 := empty_of hl0
  subst hf1 hl1
  have hLB := loop_blk hk
  obtain ⟨L', T, x, ks', hv, hbL, hLp, hln⟩ := linked_rec hk
  have hLL : L = L' := by
    injection hv with _ hv
    injection hv with hv
    injection hv with hv
    injection hv with hv
  subst hLL
  have hwk : wN ⟨k', fr', ix', kids'⟩ ((t.length : Int) + 1) 0 = true := by
    have h9 := hw
    unfold wN at h9
    simp only [Bool.and_eq_true] at h9
    have h2 := h9.2
    simp only [if_neg (show ¬ (4 : Int) = 5 by decide), if_true, wF, Bool.and_eq_true] at h2
    refine wN_u _ _ 1 0 ?_ (by omega)
    unfold wN
    simp only [Bool.and_eq_true]
    exact h2.1
  have henv : EnvL w0 ((L, ⟨4, ⟨#[]⟩, 0, .cons ⟨#[]⟩ k' fr' ix' kids' .nil⟩) :: t) := ⟨rfl, hw, ⟨ks, hk⟩, hLp, he⟩
  obtain ⟨N, hN⟩ : ∃ N, N = cpN (lenv (m + 1) ((L, ⟨4, ⟨#[]⟩, 0, .cons ⟨#[]⟩ k' fr' ix' kids' .nil⟩) :: t)) ⟨k', fr', ix', kids'⟩ := ⟨_, rfl⟩
  have hR : cpN (lenv m t) ⟨4, ⟨#[]⟩, 0, .cons ⟨#[]⟩ k' fr' ix' kids' .nil⟩ = ⟨4, ⟨#[]⟩, 0, .cons ⟨#[]⟩ N.k N.fr N.ix N.kids .nil⟩ := by
    rw [cpN_k (show (4 : Int) ≠ 5 by decide), hN]
    simp only [if_true]
    rw [cpF_cons, cpF]
    rfl
  have hfit : Fit N := by
    rw [hN]
    exact cpN_fit (EnvL.fitsM (m + 1) _ henv (by simp; omega)) (fit_of_w hwk (by omega) (by omega))
  have hml : (blks (t.take m)).length = m := scope_len t m (by omega)
  have HUN : Hid (∀ (wY : World) (v' : Addr) (cap' : Nat), a + 1 ≤ 400 → dp ≤ 40 → Below w0.heap.size w0 wY → Ctr wY c ((a + 1 : Nat) : Int) → Pt wY (.slice (some v') (m + 1) cap') (blks (t.take m) ++ [L]) →
      Calls Try.prog 24 #[.iface T x, .agg #[.int .i64 (dp + 1), .slice (some v') (m + 1) cap', .int .i64 (un' + 1)], .pointer (some ⟨c, 0, none⟩)] wY (CpPost c N (dp + 1) (a + 1) wY)) := hide (by
    intro wY v' cap' ha1 hd4 hbY hcY hpY
    rw [hN]
    refine ih w0 wY c (a + 1) (dp + 1) (un' + 1) k' ix' fr' (.iface T x) _ kids' _ (m + 1) ks' (by simp only [F.sz] at hn; omega) (by simp; omega) ?_ henv ?_ hbY hc0 hcY ha1 (by omega) (by omega) (by omega) (by omega) (by omega) hq2 ?_
    · rw [blks_cons]; exact hln
    · rw [show ((((L, (⟨4, ⟨#[]⟩, 0, .cons ⟨#[]⟩ k' fr' ix' kids' .nil⟩ : Nd)) :: t).length : Nat) : Int) = (t.length : Int) + 1 by simp]; exact hwk
    · rw [List.take_succ_cons, blks_cons]; exact hpY)
  rw [hR]
  have HBL := hide hbL
  have HFIT := hide hfit
  have HLB := hide hLB
  have HP := hide hp
  have HB3 := hide hb3
  have HB0 := hide hB
  clear hwk henv hR hN hfit hLp hln hsh hbL hf0 hl0 hv he hw hk hn hq hLB
  have HAT := hide hat
  have HVB := hide hvb
  clear hp hc hB hat hb3 hvb
  go_enter Try.func24, Try.ntmps24
  go_upto_region 2 with fail
  generalize ((w.alloc (.cells #[.int .i64 dp, .slice la ln lc, .int .i64 un] ( /- t -/ 53))).alloc (.cells #[.int .i64 0, .string ⟨#[]⟩, .int .i64 0, .slice none 0 0] ( /- t -/ 25))).alloc (.cells #[.pointer pv] ( /- t -/ 60)) = W at *
  simp only [World.size_alloc] at HVB
  go_cut [32] from 25 to 31 (fun tv wc => tv = .bool bb ∧ Below W.heap.size W wc)
  case first =>
    rcases HAT.out with ⟨rfl, rfl, rfl, -⟩ | ⟨rfl, rfl, rfl, -, -, -, ps, hps, hL, hlen, hpb⟩
    · go_wp2_with fail
      go_meet
      case rel => exact ⟨rfl, Below.refl _ _⟩
    · have s0 : W.cell? ⟨w.heap.size, 0, none⟩ = some (.int .i64 dp) := HST.out.hs.cell 0
      have s1 : W.cell? ⟨w.heap.size, 1, none⟩ = some (.slice la ln lc) := HST.out.hs.cell 1
      have s2 : W.cell? ⟨w.heap.size, 2, none⟩ = some (.int .i64 un) := HST.out.hs.cell 2
      have sl := HST.out.hs.lt
      have b0 : W.cell? ⟨w.heap.size + 1 + 1, 0, none⟩ = some (.pointer (some ⟨L, 0, none⟩)) := cell_of_heap (o := 0) HVB.out
      have b0l := World.block_lt_of_cell? _ _ b0
      obtain ⟨a2, c2, e, -, -⟩ := hps.ps.val
      injection e with e1 e2 e3
      subst e1 e2 e3
      have HPS := hide (hps.below HB3.out)
      have HX := hide (And.intro hL (And.intro hlen hpb))
      clear hps hL hlen hpb
      go_wp2_with fail
      refine (idx_none W dp un _ ps L HPS.out.ps HX.out.1 HX.out.2.1 (fun x hx => by obtain ⟨cs, h⟩ := HX.out.2.2 x hx; exact ⟨cs, (h.below HB0.out).below HB3.out⟩) ?_).mono ?_
      · obtain ⟨cs, h⟩ := HLB.out
        exact ⟨cs, (h.below HB0.out).below HB3.out⟩
      rintro e w1 ⟨rfl, hb⟩
      go_wp2_with fail
      go_meet
      case rel => exact ⟨rfl, hb⟩
  case rest =>
    obtain ⟨rfl, hb⟩ := hcut
    have HST1 := hide (HST.out.below hb)
    have hvc : wc.cell? ⟨w.heap.size + 1 + 1, 0, none⟩ = some (.pointer pv) := by
      have h9 : W.cell? ⟨w.heap.size + 1 + 1, 0, none⟩ = some (.pointer pv) := cell_of_heap (o := 0) HVB.out
      exact Still.of_below hb _ _ h9
    have HB1 := hide (HB3.out.trans (hb.mono HB3.out.size))
    have HP1 := hide ((HP.out.below HB3.out).below hb)
    clear hb HST HB3 HVB hta HP
    have s0 : wc.cell? ⟨w.heap.size, 0, none⟩ = some (.int .i64 dp) := HST1.out.hs.cell 0
    have s1 : wc.cell? ⟨w.heap.size, 1, none⟩ = some (.slice la ln lc) := HST1.out.hs.cell 1
    have s2 : wc.cell? ⟨w.heap.size, 2, none⟩ = some (.int .i64 un) := HST1.out.hs.cell 2
    have sl := HST1.out.hs.lt
    have sf := HST1.out.hs.frozen
    have hvl := World.block_lt_of_cell? _ _ hvc
    go_upto_if 32 with fail
    go_cut [0] from 33 to 38 (fun v0 w2 => v0 = .iface ( /- t -/ 56) (.pointer (some ⟨L, 0, none⟩)) ∧ UnSt w w2 c a dp un' lv' ∧ Pt w2 lv' (blks (t.take m)) ∧ Below w.heap.size w w2)
    case first =>
      rcases HAT.out with ⟨rfl, rfl, rfl, hlv, rfl⟩ | ⟨rfl, rfl, rfl, hlv, rfl, rfl, -⟩
      · subst hlv
        go_wp2_with fail
        go_meet
        case rel => exact ⟨rfl, HST1.out, HP1.out, HB1.out⟩
      · subst hlv
        go_wp2_with fail
        go_region
        go_wp2_with fail
        go_meet
        case rel =>
          refine ⟨rfl, HST1.out.jump hcl 0 _, ?_, (((HB1.out.setCell (Nat.le_refl _) _).setCell (Nat.le_refl _) _).setCell (Nat.le_refl _) _).drew⟩
          rw [List.take_zero]
          exact Pt.nil _
    case rest =>
      obtain ⟨rfl, hst, hpt, hbw⟩ := hcut
      clear hvc s0 s1 s2 sl sf hvl HAT HP1 HB1 HST1
      have HST := hide hst
      have HPT := hide hpt
      have HBW := hide hbw
      have cc := hst.hc.cell
      have cf := hst.hc.frozen
      have cl := hst.hc.lt
      have s0 : wc.cell? ⟨w.heap.size, 0, none⟩ = some (.int .i64 dp) := hst.hs.cell 0
      have sl := hst.hs.lt
      obtain ⟨z0, z1, z2, z3⟩ := hst.hz.cells
      have fz := hst.hz.frozen
      have hzl := hst.hz.lt
      clear hst hpt hbw
      have n1 := taLoopVar
      have n2 := taLoopLoop
      by_cases hm4 : 400 ≤ a
      · go_wp2_with fail
        refine bodyPost_ret (v := .tuple #[.agg #[.int .i64 0, .string ⟨#[]⟩, .int .i64 0, .slice none 0 0], .bool false]) (by simp [results, Try.results24, go_sem, *]) rfl ?_
        exact UnSt.no (HST.out.count hcl) hcl (fun h => by have := h.1; omega) _ _ _ _
      by_cases hd4 : 40 < dp
      · go_wp2_with fail
        refine bodyPost_ret (v := .tuple #[.agg #[.int .i64 0, .string ⟨#[]⟩, .int .i64 0, .slice none 0 0], .bool false]) (by simp [results, Try.results24, go_sem, *]) rfl ?_
        exact UnSt.no (HST.out.count hcl) hcl (fun h => by have := h.2; omega) _ _ _ _
      go_upto_region 13 with fail
      have hst3 := HST.out.count hcl
      have hpt3 := HPT.out.only HST.out.hc ((Only.refl c wc).setCell (p := ⟨c, 0, none⟩) (Or.inl rfl) (.int .i64 ((a : Int) + 1)))
      generalize wc.setCell ⟨c, 0, none⟩ (.int .i64 ((a : Int) + 1)) = W3 at *
      clear cc cf cl s0 sl z0 z1 z2 z3 fz hzl n1 n2 HST HPT HBW
      have hb03 : Below w0.heap.size w0 W3 := HB0.out.trans (hst3.ho.to_below hc0 HB0.out.size)
      have y0 : W3.cell? ⟨L, 0, none⟩ = some (.iface T x) := (HBL.out.below hb03).cell 0
      have yl := World.block_lt_of_cell? _ _ y0
      obtain ⟨sa, sc, e9, -, -⟩ := hpt3.ps.val
      rw [hml] at e9
      subst e9
      have HINS : Hid (∀ wX : World, Below W3.heap.size W3 wX → Calls Try.prog 36 #[.agg #[.int .i64 dp, .slice sa m sc, .int .i64 un'], .pointer (some ⟨L, 0, none⟩)] wX fun e w5 =>
          ∃ v' cap', e = .returned (.agg #[.int .i64 (dp + 1), .slice (some v') (m + 1) cap', .int .i64 (un' + 1)]) ∧ Pt w5 (.slice (some v') (m + 1) cap') (blks (t.take m) ++ [L]) ∧ Below wX.heap.size wX w5) := hide (fun wX hbX => by
        have h9 := ins_calls wX dp un' (.slice sa m sc) (blks (t.take m)) L ((hpt3.below hbX).ps) (by omega) (by omega) (by omega) (by omega) (by omega)
        rw [hml] at h9
        exact h9)
      have s0 : W3.cell? ⟨w.heap.size, 0, none⟩ = some (.int .i64 dp) := hst3.hs.cell 0
      have s1 : W3.cell? ⟨w.heap.size, 1, none⟩ = some (.slice sa m sc) := hst3.hs.cell 1
      have s2 : W3.cell? ⟨w.heap.size, 2, none⟩ = some (.int .i64 un') := hst3.hs.cell 2
      have sl := hst3.hs.lt
      have HST := hide hst3
      have HPT := hide hpt3
      have HB03 := hide hb03
      clear hst3 hpt3 hb03
      go_cut [12, 13] from 54 to 129 (fun xv okv w4 => KidRel w w4 c (a + 1) dp un' (.slice sa m sc) N (dp + 1) xv okv ∧ Below w0.heap.size w0 w4)
      case first =>
        have hWc : c < W3.heap.size := HST.out.hc.lt
        go_region_with (first
          | (go_at_call 36; refine (HINS.out _ ?_).mono ?_; (first | exact (Below.refl _ _).drew | exact ((Below.refl _ _).drew).alloc (Nat.le_refl _) _);
             rintro e w5 ⟨v', cap', rfl, hp5, hb5⟩;
             (have h35 : Below W3.heap.size W3 w5 := by (first | exact ((Below.refl _ _).drew).trans hb5 | exact (((Below.refl _ _).drew).alloc (Nat.le_refl _) _).trans (hb5.mono (Nat.le_of_lt (by simp))))); have y5 : w5.cell? ⟨L, 0, none⟩ = some (.iface T x) := Still.of_below h35 _ _ y0; have yl5 : L < w5.heap.size := World.block_lt_of_cell? _ _ y5;
             (first | (have hz5 : Box4 w5 W3.heap.size (.int .i64 0) (.string ⟨#[]⟩) (.int .i64 0) (.slice none 0 0) := (Box4.now W3.drew (.int .i64 0) (.string ⟨#[]⟩) (.int .i64 0) (.slice none 0 0) ( /- t -/ 25)).below hb5) | skip))
          | (go_at_call 24; refine (HUN.out _ v' cap' ?_ ?_ ?_ ?_ ?_).mono ?_; omega; omega; (first | exact HB03.out.trans (h35.mono HB03.out.size) | exact (HB03.out.trans (h35.mono HB03.out.size)).alloc (Nat.le_trans HB03.out.size h35.size) _); (first | exact HST.out.hc.below h35 | exact (HST.out.hc.below h35).alloc _);
             (first | exact hp5 | exact hp5.below (alloc_below _ _)); (intro e w6 hpost; obtain ⟨k, ix, fr, ua, ul, uc, ok, a', rfl, ho6, hc6, hcase⟩ := hpost.form);
             (first | (have hz6 := (Box4.now w5 (.int .i64 0) (.string ⟨#[]⟩) (.int .i64 0) (.slice none 0 0) ( /- t -/ 25)).only ho6 (Nat.ne_of_gt (Nat.lt_of_lt_of_le hWc h35.size)); obtain ⟨z0, z1, z2, z3⟩ := hz6.cells; have fz := hz6.frozen; have zl := hz6.lt)
                    | (have hz6 := hz5.only ho6 (Nat.ne_of_gt hWc); obtain ⟨z0, z1, z2, z3⟩ := hz6.cells; have fz := hz6.frozen; have zl := hz6.lt)
                    | skip)))
        all_goals
          (go_wp2_with fail
           go_meet
           first
             | exact KidRel.mk HST.out hcl HB03.out hc0 h35 ho6 hc6 (Nat.le_trans h35.size ho6.size) ((Only.refl _ _).alloc _) (Box4.now w6 _ _ _ _ _) (Or.inr (Nat.le_refl _)) hcase
             | exact KidRel.mk HST.out hcl HB03.out hc0 (h35.alloc h35.size _) ho6 hc6 h35.size (only_box _ _ _ _ _ _) (hz6.setAll _ _ _ _) (Or.inl (by simp)) hcase
             | exact KidRel.mk HST.out hcl HB03.out hc0 h35 ho6 hc6 (Nat.le_refl _) (only_box _ _ _ _ _ _) (hz6.setAll _ _ _ _) (Or.inl (by have := hb5.size; simp at this; omega)) hcase
             | trace_state)
      case rest =>
        obtain ⟨⟨X, k, ix, fr, ua, ul, uc, ok, a', rfl, rfl, hbx, hXw, hst4, hcase⟩, hb4⟩ := hcut
        obtain ⟨z0, z1, z2, z3⟩ := hst4.hz.cells
        have fz := hst4.hz.frozen
        have hzl := hst4.hz.lt
        have HST4 := hide hst4
        clear hst4 HINS HUN HST HPT HB03 s0 s1 s2 sl y0 yl hb4
        rcases hcase with ⟨rfl, rfl, rfl, rfl, h1, h2, h3, bs, how, hge, hnd⟩ | ⟨rfl, hno⟩
        · obtain ⟨x0, x1, x2, x3⟩ := hbx.cells
          have hxl := hbx.lt
          have HOW := hide how
          have HGE := hide hge
          have HE := hide (And.intro h1 (And.intro h2 h3))
          clear how hge h1 h2 h3
          go_wp2_with fail
          refine bodyPost_ret (v := .tuple #[.agg #[.int .i64 4, .string ⟨#[]⟩, .int .i64 0, .slice (some ⟨wc.heap.size, 0, none⟩) 1 1], .bool true]) (by simp [results, Try.results24, go_sem, *]) rfl ?_
          obtain ⟨h1, h2, h3⟩ := HE.out
          have q : ∀ b, b ∈ bs → b ≠ w.heap.size + 1 := fun b hb => Nat.ne_of_gt (HGE.out b hb)
          have hv := HOW.out.same (same_setAll q (.int .i64 4) (.string ⟨#[]⟩) (.int .i64 0) (.slice (some ⟨wc.heap.size, 0, none⟩) 1 1))
          have hoV := only_setAll HST4.out.ho (b0 := w.heap.size + 1) (by omega) (.int .i64 4) (.string ⟨#[]⟩) (.int .i64 0) (.slice (some ⟨wc.heap.size, 0, none⟩) 1 1)
          have hcV := ctr_setAll HST4.out.hc (b0 := w.heap.size + 1) (by omega) (.int .i64 4) (.string ⟨#[]⟩) (.int .i64 0) (.slice (some ⟨wc.heap.size, 0, none⟩) 1 1)
          have hVs : ((((wc.setCell ⟨w.heap.size + 1, 0, none⟩ (.int .i64 4)).setCell ⟨w.heap.size + 1, 1, none⟩ (.string ⟨#[]⟩)).setCell ⟨w.heap.size + 1, 2, none⟩ (.int .i64 0)).setCell ⟨w.heap.size + 1, 3, none⟩ (.slice (some ⟨wc.heap.size, 0, none⟩) 1 1)).heap.size = wc.heap.size := by simp
          generalize ((((wc.setCell ⟨w.heap.size + 1, 0, none⟩ (.int .i64 4)).setCell ⟨w.heap.size + 1, 1, none⟩ (.string ⟨#[]⟩)).setCell ⟨w.heap.size + 1, 2, none⟩ (.int .i64 0)).setCell ⟨w.heap.size + 1, 3, none⟩ (.slice (some ⟨wc.heap.size, 0, none⟩) 1 1)) = V at *
          have hrow := one_row hv (lab := ⟨#[]⟩) (fr := N.fr) (k := N.k) (ix := N.ix) (Nat.zero_le _) HFIT.out.1 HFIT.out.2.1 HFIT.out.2.2 ( /- t -/ 65)
          rw [hVs] at hrow
          have hbl := HOW.out.lt
          have hws := HST4.out.ho.size
          exact CpPost.yes (bs := wc.heap.size :: bs) (a' := a') (hoV.alloc _) (hcV.alloc _) (by simp only [F.sz]; omega) (by simp only [hF]; omega) (by simp only [F.sz]; omega) hrow
            (fun b hb => by
              rcases List.mem_cons.1 hb with rfl | hb
              · exact hws
              · have := HGE.out b hb
                omega) (List.nodup_cons.2 ⟨fun hm => Nat.lt_irrefl _ (hbl _ hm), hnd⟩) rfl rfl rfl
        · have HNO := hide hno
          clear hno
          go_wp2_with fail
          refine bodyPost_ret (v := .tuple #[.agg #[.int .i64 0, .string ⟨#[]⟩, .int .i64 0, .slice none 0 0], .bool false]) (by simp [results, Try.results24, go_sem, *]) rfl ?_
          refine UnSt.no HST4.out hcl (fun h => HNO.out ?_) _ _ _ _
          simp only [F.sz, hF] at h
          exact ⟨by omega, by omega⟩

end Go.Proofs.Ytpjbffggeegdaaa.Lo
