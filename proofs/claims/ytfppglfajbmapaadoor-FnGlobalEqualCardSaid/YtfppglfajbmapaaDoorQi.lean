/- GlobalEqual of the program. -/
import Derived.Test.YtfppglfajbmapaaDoorQj
import Derived.Deep.CutRange
namespace Go.Proofs.YtfppglfajbmapaaDoor
open Go.RowKit

set_option maxHeartbeats 4000000 in
set_option maxRecDepth 100000 in
theorem same_walk (w : World) (k ix k' ix' : Int) (fr tt fr' to' : ByteArray) (a a' : Option Addr) (c c' : Nat) (f f' : F) (hok : (⟨k, fr, tt, ix, .slice a f.len c, f, k', fr', to', ix', .slice a' f'.len c', f'⟩ : Pr).Ok w) (hsz : f.sz ≤ 1048576) :
    Calls Tryd.prog 44 #[.agg #[.int .i64 k, .string fr, .string tt, .int .i64 ix, .slice a f.len c], .agg #[.int .i64 k', .string fr', .string to', .int .i64 ix', .slice a' f'.len c'],
      .func (.func ( /- f -/ 45)) #[] #[], .func (.func ( /- f -/ 46)) #[] #[], .func (.func ( /- f -/ 47)) #[] #[]] w
      fun e w' => e = .returned (.bool (sameN k fr tt ix f k' fr' to' ix' f')) ∧ Below w.heap.size w w' := by
  have HOK := hide hok
  have HSZ := hide hsz
  clear hok hsz
  have hmm := @run_makeMap Tryd.prog
  go_enter Tryd.func44, Tryd.ntmps44
  go_wp2_with fail
  have hst := rel_start w (⟨k, fr, tt, ix, .slice a f.len c, f, k', fr', to', ix', .slice a' f'.len c', f'⟩ : Pr) (.cells #[.int .i64 k, .string fr, .string tt, .int .i64 ix, .slice a f.len c] ( /- t -/ 25)) (.cells #[.int .i64 k', .string fr', .string to', .int .i64 ix', .slice a' f'.len c'] ( /- t -/ 25)) HOK.out HSZ.out
  have HST := hide hst
  clear hst
  obtain ⟨M, hM⟩ : ∃ M, M = w.heap.size + 1 + 1 := ⟨_, rfl⟩
  rw [← hM] at HST ⊢
  clear hM
  go_loopg [12] (f.sz + 1) (fun n v wr => RelS w (sameN k fr tt ix f k' fr' to' ix' f') M n v wr)
  case atStart => exact HST.out
  case round =>
    obtain ⟨L, S, hw, hn, hown, hmap, hinv, hL, hS, hM, hbw⟩ := hrel
    rcases List.eq_nil_or_concat L with rfl | ⟨L0, x, rfl⟩
    · obtain ⟨va, vc, rfl⟩ := row_shape hown
      have HI := hide hinv
      have HB := hide hbw
      clear hinv hL hS hown hmap hw hn hbw
      go_wp2_with fail
      go_ret
      exact ⟨ret_bool HI.out.done.symm, HB.out⟩
    · rw [List.concat_eq_append] at *
      obtain ⟨k1, fr1, to1, ix1, s1, f1, k2, fr2, to2, ix2, s2, f2⟩ := x
      have hxo := hL ⟨k1, fr1, to1, ix1, s1, f1, k2, fr2, to2, ix2, s2, f2⟩ (by simp)
      obtain ⟨⟨bs1, ho1⟩, bs2, ho2⟩ := hxo
      simp only at ho1 ho2
      obtain ⟨a1, c1, rfl⟩ := ho1.val
      obtain ⟨a2, c2, rfl⟩ := ho2.val
      rw [List.length_append, List.length_singleton] at hown
      obtain ⟨g, cap, rfl, hg, hgl⟩ := hown.form (by omega)
      have cell : ∀ j, j < 10 → wr.cell? ⟨g, L0.length * 10 + j, none⟩ = (Pr.cells ⟨k1, fr1, to1, ix1, .slice a1 f1.len c1, f1, k2, fr2, to2, ix2, .slice a2 f2.len c2, f2⟩)[j]? := fun j hj => by
        rw [hown.cellAt _ (by omega), cells_last]
      have d0 := cell 0 (by omega)
      have d1 := cell 1 (by omega)
      have d2 := cell 2 (by omega)
      have d3 := cell 3 (by omega)
      have d4 := cell 4 (by omega)
      have d5 := cell 5 (by omega)
      have d6 := cell 6 (by omega)
      have d7 := cell 7 (by omega)
      have d8 := cell 8 (by omega)
      have d9 := cell 9 (by omega)
      simp only [Pr.cells, List.getElem?_cons_zero, List.getElem?_cons_succ, Nat.add_zero] at d0 d1 d2 d3 d4 d5 d6 d7 d8 d9
      have hlen : L0.length ≤ 1048577 := by
        have h1 := len_wsum (L0 ++ [⟨k1, fr1, to1, ix1, .slice a1 f1.len c1, f1, k2, fr2, to2, ix2, .slice a2 f2.len c2, f2⟩])
        rw [List.length_append] at h1
        omega
      have hcap := (row_cap hown).1
      have hcur := row_cut hown (Nat.le_succ L0.length)
      rw [cells_take] at hcur
      obtain ⟨n0, hn0⟩ : ∃ n0, n0 = L0.length := ⟨_, rfl⟩
      rw [← hn0] at d0 d1 d2 d3 d4 d5 d6 d7 d8 d9 hlen hcur hcap ⊢
      have hcap0 : n0 ≤ cap := by omega
      have HALL := hide (And.intro hw (And.intro hn (And.intro hmap (And.intro hinv (And.intro hL (And.intro hS (And.intro hM (And.intro hbw (And.intro ho1 (And.intro ho2 (And.intro hcur hn0)))))))))))
      clear hw hn hmap hinv hL hS hM hbw ho1 ho2 hcur hn0 cell hown hg
      go_upto_region 5 with fail
      go_cut [14, 15] from 29 to 113 (fun v14 v15 wc => ∃ X Y, v14 = .pointer (some ⟨X, 0, none⟩) ∧ v15 = .pointer (some ⟨Y, 0, none⟩) ∧ Box5 wc X (.int .i64 k1) (.string fr1) (.string to1) (.int .i64 ix1) (.slice a1 f1.len c1) ∧ Box5 wc Y (.int .i64 k2) (.string fr2) (.string to2) (.int .i64 ix2) (.slice a2 f2.len c2) ∧ Below wr.heap.size wr wc)
      case first =>
        as_aux_lemma =>
          go_region
          all_goals (go_wp2_with fail)
          · obtain ⟨h1, h2, h3, -⟩ := two_new wr (.int .i64 k1) (.string fr1) (.string to1) (.int .i64 ix1) (.slice a1 f1.len c1) (.int .i64 k2) (.string fr2) (.string to2) (.int .i64 ix2) (.slice a2 f2.len c2) ( /- t -/ 25)
            go_meet
            case rel => exact ⟨_, _, rfl, rfl, h1, h2, h3⟩
          · obtain ⟨h1, h2, h3, -⟩ := two_new wr (.int .i64 k2) (.string fr2) (.string to2) (.int .i64 ix2) (.slice a2 f2.len c2) (.int .i64 k1) (.string fr1) (.string to1) (.int .i64 ix1) (.slice a1 f1.len c1) ( /- t -/ 25)
            go_meet
            case rel => exact ⟨_, _, rfl, rfl, h2, h1, h3⟩
      case rest =>
        obtain ⟨X, Y, rfl, rfl, hbx, hby, hb5⟩ := hcut
        generalize wc = w5 at *
        go_wp2_with fail
        obtain ⟨x0, x1, x2, x3, x4⟩ := hbx.cells
        obtain ⟨y0, y1, y2, y3, y4⟩ := hby.cells
        have HB5 := hide hb5
        clear hb5
        go_region_held3 (fun w' => w'.cell? ⟨X, 0, none⟩ = some (.int .i64 k1) ∧ w'.cell? ⟨X, 1, none⟩ = some (.string fr1) ∧ w'.cell? ⟨X, 2, none⟩ = some (.string to1) ∧ w'.cell? ⟨X, 3, none⟩ = some (.int .i64 ix1) ∧ w'.cell? ⟨X, 4, none⟩ = some (.slice a1 f1.len c1) ∧
            w'.cell? ⟨Y, 0, none⟩ = some (.int .i64 k2) ∧ w'.cell? ⟨Y, 1, none⟩ = some (.string fr2) ∧ w'.cell? ⟨Y, 2, none⟩ = some (.string to2) ∧ w'.cell? ⟨Y, 3, none⟩ = some (.int .i64 ix2) ∧ w'.cell? ⟨Y, 4, none⟩ = some (.slice a2 f2.len c2))
          (first | exact ⟨x0, x1, x2, x3, x4, y0, y1, y2, y3, y4⟩)
          ((first
            | (go_at_call 46; refine (kids_calls _ _ _ _ _ _ _ _).mono ?_; rintro e w6 ⟨rfl, hb6⟩; (have HB6 := hide hb6); (have hbx := hbx.drew.below hb6); (have hby := hby.drew.below hb6); (obtain ⟨x0, x1, x2, x3, x4⟩ := hbx.cells); (obtain ⟨y0, y1, y2, y3, y4⟩ := hby.cells))
            | (go_at_call 46; refine (kids_calls _ _ _ _ _ _ _ _).mono ?_; rintro e w7 ⟨rfl, hb7⟩; (have hbx := hbx.below hb7); (have hby := hby.below hb7); (obtain ⟨x0, x1, x2, x3, x4⟩ := hbx.cells); (obtain ⟨y0, y1, y2, y3, y4⟩ := hby.cells))))
        have hb8 : Below wr.heap.size wr w7 := (HB5.out.drew.trans (HB6.out.mono HB5.out.drew.size)).trans (hb7.mono (HB5.out.drew.trans (HB6.out.mono HB5.out.drew.size)).size)
        have HB8 := hide hb8
        clear hb7 HB6 HB5 hb8 d0 d1 d2 d3 d4 d5 d6 d7 d8 d9
        go_wp2_with fail
        refine (like_calls _ k1 ix1 k2 ix2 fr1 to1 fr2 to2 a1 a2 f1.len c1 f2.len c2).mono ?_
        rintro e w8 ⟨rfl, hb9⟩
        have hb10 : Below wr.heap.size wr w8 := HB8.out.trans (hb9.mono HB8.out.size)
        obtain ⟨hw, hn, hmap, hinv, hL, hS, hM, hbw, ho1, ho2, hcur, hn0⟩ := HALL.out
        have hbW : Below w.heap.size w w8 := hbw.trans (hb10.mono hbw.size)
        clear hb9 hbx hby x0 x1 x2 x3 x4 y0 y1 y2 y3 y4 HALL HB8
        cases hlk : likeB k1 fr1 to1 ix1 k2 fr2 to2 ix2 with
        | false =>
          have HR := hide (hinv.no (x := ⟨k1, fr1, to1, ix1, .slice a1 f1.len c1, f1, k2, fr2, to2, ix2, .slice a2 f2.len c2, f2⟩) (by show sameN _ _ _ _ _ _ _ _ _ _ = false; simp [sameN, headB_like, hlk]))
          have HBW := hide hbW
          clear hlk hw hn hmap hinv hL hS hM hbw ho1 ho2 hcur hn0 hbW hb10
          go_wp2_with fail
          go_ret
          exact ⟨ret_bool HR.out.symm, HBW.out⟩
        | true =>
          by_cases hln : f1.len = f2.len
          · have hwl : wsum L0 + (f1.sz + 1) ≤ gk := by
              rw [wsum_app] at hw
              simpa [wsum] using hw
            have hhb : headB k1 fr1 to1 ix1 f1.len k2 fr2 to2 ix2 f2.len = true := by rw [headB_like, hlk, hln]; simp
            have hl2 : ((f1.len : Int) != (f2.len : Int)) = false := by rw [hln]; simp
            by_cases h0 : f1.len = 0
            · have hq0 : ((f1.len : Int) == 0) = true := by rw [h0]; rfl
              have hnx := rel_next hcur hn0 hmap hb10 (hinv.leaf (x := ⟨k1, fr1, to1, ix1, .slice a1 f1.len c1, f1, k2, fr2, to2, ix2, .slice a2 f2.len c2, f2⟩) (by
                show sameN _ _ _ _ _ _ _ _ _ _ = true
                have e1 : f1 = .nil := len_zero h0
                have e2 : f2 = .nil := len_zero (by omega)
                subst e1 e2
                simp only [sameN, hhb, sameF, Bool.and_true])) (fun p hp => hL p (by simp [hp])) hS hM hbw (by omega)
              have HNX := hide (And.intro hnx hwl)
              clear hnx hwl hhb hln hlk hw hn hmap hinv hL hS hM hbw ho1 ho2 hcur hn0 hbW hb10
              go_wp2_with fail
              go_roundg (wsum L0)
              case rel => exact HNX.out.1
              case measure => have := HNX.out.2; omega
            · have hq0 : ((f1.len : Int) == 0) = false := beq_eq_false_iff_ne.2 (by omega)
              have hp1 : 0 < f1.len := by omega
              have hp2 : 0 < f2.len := by omega
              obtain ⟨b1, m1, cs1, rfl, hf1, hr1⟩ := ho1.head h0
              obtain ⟨b2, m2, cs2, rfl, hf2, hr2⟩ := ho2.head (by omega)
              have hen : (⟨b1, b2, f1, f2⟩ : En).Ok w := ⟨⟨_, _, hf1, hr1⟩, ⟨_, _, hf2, hr2⟩, hln⟩
              have hmap8 : MapIs w8 M (S.map En.ky) := hmap.same (hb10.block _ hmap.lt)
              have HALL := hide (And.intro hwl (And.intro hn (And.intro hmap8 (And.intro hinv (And.intro hL (And.intro hS (And.intro hM (And.intro hbW (And.intro (row_below hcur hb10) (And.intro hn0 (And.intro hen (And.intro hhb hln))))))))))))
              have HLN := hide hln
              clear hwl hhb hln hlk hw hn hmap hmap8 hinv hL hS hM hbw ho1 ho2 hcur hn0 hbW hb10 hf1 hr1 hf2 hr2 hen h0
              cases hany : (S.map En.ky).any (fun y => (⟨b1, b2, f1.len⟩ : Ky).same y) with
              | true =>
                have HANY := hide hany
                go_wp2_with fail
                go_region
                go_wp2_with (first | (at_lookup; go_loud (obtain ⟨-, -, hmap8, -, -, hS, -, hbW, -, -, hen, -⟩ := HALL.out; refine wpList_seen_look _ rfl _ _ rfl M (S.map En.ky) (hmap8.same ((alloc_below _ _).drew.block _ hmap8.lt)) ⟨b1, b2, f1.len⟩ (hen.good (hbW.trans ((alloc_below _ _).drew.mono hbW.size))) (fun y hy => by obtain ⟨e, he, rfl⟩ := List.mem_map.1 hy; exact (hS e he).good (hbW.trans ((alloc_below _ _).drew.mono hbW.size))) rfl rfl ?_; rw [HANY.out]; clear hmap8 hS hbW hen)) | fail)
                go_roundg (wsum L0)
                case rel =>
                  obtain ⟨hwl, hn, hmap8, hinv, hL, hS, hM, hbW, hcur, hn0, hen, hhb, hln⟩ := HALL.out
                  obtain ⟨y, hy, hsame⟩ := List.any_eq_true.1 HANY.out
                  obtain ⟨e, he, rfl⟩ := List.mem_map.1 hy
                  obtain ⟨h1, h2⟩ := En.one hen (hS e he) hsame
                  exact rel_next hcur hn0 hmap8 ((alloc_below _ _).drew) (hinv.known hhb he h1.symm h2.symm) (fun p hp => hL p (by simp [hp])) hS hM hbW (by omega)
                case measure => have := HALL.out.1; omega
              | false =>
                have HANY := hide hany
                go_wp2_with fail
                go_region
                go_wp2_with (first | (at_lookup; go_loud (obtain ⟨-, -, hmap8, -, -, hS, -, hbW, -, -, hen, -⟩ := HALL.out; refine wpList_seen_look _ rfl _ _ rfl M (S.map En.ky) (hmap8.same ((alloc_below _ _).drew.block _ hmap8.lt)) ⟨b1, b2, f1.len⟩ (hen.good (hbW.trans ((alloc_below _ _).drew.mono hbW.size))) (fun y hy => by obtain ⟨e, he, rfl⟩ := List.mem_map.1 hy; exact (hS e he).good (hbW.trans ((alloc_below _ _).drew.mono hbW.size))) rfl rfl ?_; rw [HANY.out]; clear hmap8 hS hbW hen)) | (at_mapUpdate; go_loud (obtain ⟨-, -, hmap8, -, -, hS, -, hbW, -, -, hen, -⟩ := HALL.out; refine wpList_seen_store _ rfl _ _ _ rfl M (S.map En.ky) (hmap8.same ((alloc_below _ _).drew.block _ hmap8.lt)) ⟨b1, b2, f1.len⟩ (hen.good (hbW.trans ((alloc_below _ _).drew.mono hbW.size))) (fun y hy => by obtain ⟨e, he, rfl⟩ := List.mem_map.1 hy; exact (hS e he).good (hbW.trans ((alloc_below _ _).drew.mono hbW.size))) HANY.out rfl rfl rfl ?_; clear hmap8 hS hbW hen; intro w10 hmap10 hgr10)) | fail)
                have hgen : RelI w M b1 b2 f1 f2 L0 (S ++ [⟨b1, b2, f1, f2⟩]) (.slice (some ⟨g, 0, none⟩) n0 cap) (.int .i64 0) w10 := by
                  obtain ⟨-, -, hmap8, -, -, -, hM, hbW, hcur, hn0, hen, -, hln⟩ := HALL.out
                  obtain ⟨⟨_, _, _, hr1⟩, ⟨_, _, _, hr2⟩, _⟩ := hen
                  have hb9 := (alloc_below w8 (.cells #[.pointer (some ⟨b1, 0, none⟩), .pointer (some ⟨b2, 0, none⟩), .int .i64 f1.len] ( /- t -/ 142))).drew
                  subst hn0
                  refine ⟨f1, f2, 0, [], by omega, rfl, hln, by simp [wsum], ⟨_, by simpa using hr1⟩, ⟨_, by simpa using hr2⟩, by simp, fun p hp => by simp at hp, ?_, ?_, below_grown (Nat.le_refl _) (hbW.trans (hb9.mono hbW.size)) hgr10 hM⟩
                  · rw [List.append_nil]
                    exact row_grown (row_below hcur hb9) (hmap8.same (hb9.block _ hmap8.lt)) hgr10
                  · rw [List.map_append]
                    exact hmap10
                have HGEN := hide hgen
                clear hgen hmap10 hgr10 hany
                go_loopw [12, 83] (fun v iv wr' => RelI w M b1 b2 f1 f2 L0 (S ++ [⟨b1, b2, f1, f2⟩]) v iv wr') (fun _ iv _ => f1.len - (intOf iv).toNat)
                case atStart => exact HGEN.out
                case round =>
                  obtain ⟨h, h', j, P, hj, rfl, hhl, hsz, ⟨cs, hr1⟩, ⟨cs', hr2⟩, hsame, hP, hown, hmap, hbw⟩ := hrel
                  cases h with
                  | nil =>
                    have hg0 : h' = .nil := len_zero (by simpa [F.len] using hhl.symm)
                    have H5 : Hid (j = f1.len) := by unfold Hid; simpa [F.len] using hj
                    have hge : f1.len ≤ j := Nat.le_of_eq H5.out.symm
                    have HX := hide (And.intro hsz (And.intro hsame (And.intro hP (And.intro hown (And.intro hmap (And.intro hbw hg0))))))
                    clear hj hhl hsz hr1 hr2 hsame hP hown hmap hbw hg0
                    go_wp2_with fail
                    obtain ⟨hwl, hn, -, hinv, hL, hS, hM, -, -, -, hen, hhb, -⟩ := HALL.out
                    obtain ⟨hsz, hsame, hP, hown, hmap, hbw, hg0⟩ := HX.out
                    simp only [F.sz, Nat.zero_add] at hsz
                    go_roundg (wsum (L0 ++ P))
                    case rel =>
                      refine ⟨L0 ++ P, S ++ [⟨b1, b2, f1, f2⟩], Nat.le_refl _, by rw [wsum_app]; omega, hown, hmap, hinv.push hhb rfl rfl (by rw [hsame, hg0]; simp [sameF]) (fun p hp => by have := mem_wsum hp; show p.f.sz < f1.sz; omega), fun p hp => ?_, fun e he => ?_, hM, hbw⟩
                      · rcases List.mem_append.1 hp with hp | hp
                        · exact hL p (by simp [hp])
                        · exact hP p hp
                      · rcases List.mem_append.1 he with he | he
                        · exact hS e he
                        · simp at he; rw [he]; exact hen
                    case measure => rw [wsum_app]; omega
                  | cons lab kd fr3 to3 ix3 kids rest =>
                    cases h' with
                    | nil => simp [F.len] at hhl
                    | cons lab' kd' fr4 to4 ix4 kids' rest' =>
                      have HK : Hid (j + 1 + rest.len = f1.len ∧ rest.len = rest'.len) := by unfold Hid; simp only [F.len] at hj hhl; omega
                      have hlt : j < f1.len := by have := HK.out; omega
                      have hlt2 : j < f2.len := by have := HLN.out; omega
                      obtain ⟨v1, c0, c1', c2', c3, c4, c5, hk1, hrr1⟩ := hr1.head
                      obtain ⟨v2, e0, e1, e2, e3, e4, e5, hk2, hrr2⟩ := hr2.head
                      obtain ⟨p1, q1, rfl⟩ := hk1.elim (fun _ h => h.val)
                      obtain ⟨p2, q2, rfl⟩ := hk2.elim (fun _ h => h.val)
                      have c0 := (Still.of_below hbw) _ _ c0
                      have c1' := (Still.of_below hbw) _ _ c1'
                      have c2' := (Still.of_below hbw) _ _ c2'
                      have c3 := (Still.of_below hbw) _ _ c3
                      have c4 := (Still.of_below hbw) _ _ c4
                      have c5 := (Still.of_below hbw) _ _ c5
                      have hbl1 := World.block_lt_of_cell? _ _ c0
                      have HE := hide (And.intro e0 (And.intro e1 (And.intro e2 (And.intro e3 (And.intro e4 e5)))))
                      have HX := hide (And.intro hsz (And.intro hsame (And.intro hP (And.intro hown (And.intro hmap (And.intro hbw (And.intro hk1 (And.intro hk2 (And.intro hrr1 hrr2)))))))))
                      clear hj hhl hsz hr1 hr2 hsame hP hown hmap hbw e0 e1 e2 e3 e4 e5 hk1 hk2 hrr1 hrr2
                      go_wp2_with fail
                      refine (parts_calls _ lab kd ix3 fr3 to3 p1 kids.len q1).mono ?_
                      rintro e w11 ⟨rfl, hb11⟩
                      obtain ⟨e0, e1, e2, e3, e4, e5⟩ := HE.out
                      have hbw := HX.out.2.2.2.2.2.1
                      have hb12 := hbw.trans (hb11.mono hbw.size)
                      have e0 := (Still.of_below hb12) _ _ e0
                      have e1 := (Still.of_below hb12) _ _ e1
                      have e2 := (Still.of_below hb12) _ _ e2
                      have e3 := (Still.of_below hb12) _ _ e3
                      have e4 := (Still.of_below hb12) _ _ e4
                      have e5 := (Still.of_below hb12) _ _ e5
                      have hbl2 := World.block_lt_of_cell? _ _ e0
                      clear hbw hb12
                      have HB11 := hide hb11
                      clear hb11 c0 c1' c2' c3 c4 c5 hbl1
                      go_wp2_with fail
                      refine (parts_calls _ lab' kd' ix4 fr4 to4 p2 kids'.len q2).mono ?_
                      rintro e w12 ⟨rfl, hb13⟩
                      have hx11 := Box5.now w11 (.int .i64 kd) (.string fr3) (.string to3) (.int .i64 ix3) (.slice p1 kids.len q1) ( /- t -/ 25)
                      have hx12 := hx11.below hb13
                      obtain ⟨x0, x1, x2, x3, x4⟩ := hx12.cells
                      have hxl := hx12.lt
                      have hb14 : Below wr.heap.size wr w12 := HB11.out.trans ((alloc_then hb13).mono HB11.out.size)
                      have HB14 := hide hb14
                      clear hb13 hb14 HB11 e0 e1 e2 e3 e4 e5 hbl2 hx11
                      generalize w11.heap.size = X at hx12 hxl x0 x1 x2 x3 x4 ⊢
                      have HX12 := hide hx12
                      clear hx12
                      cases hl : (lab.toList == lab'.toList) with
                      | false =>
                        have hl3 : ¬ lab.toList = lab'.toList := by simpa using hl
                        have HL := hide hl
                        obtain ⟨-, -, -, hinv, -, -, -, -, -, -, -, hhb, -⟩ := HALL.out
                        obtain ⟨-, hsame, -, -, -, hbw, -⟩ := HX.out
                        have HR := hide (hinv.no (x := ⟨k1, fr1, to1, ix1, .slice (some ⟨b1, 0, none⟩) f1.len c1, f1, k2, fr2, to2, ix2, .slice (some ⟨b2, 0, none⟩) f2.len c2, f2⟩) (by show sameN _ _ _ _ _ _ _ _ _ _ = false; simp only [sameN, hhb, hsame, sameF, HL.out, Bool.false_and, Bool.and_false]))
                        have HBW := hide ((hbw.trans (HB14.out.mono hbw.size)).alloc (Nat.le_trans hbw.size HB14.out.size) (.cells #[.int .i64 kd', .string fr4, .string to4, .int .i64 ix4, .slice p2 kids'.len q2] ( /- t -/ 25)))
                        clear hinv hhb hsame hbw
                        go_wp2_with fail
                        go_ret
                        exact ⟨ret_bool HR.out.symm, HBW.out⟩
                      | true =>
                        have hl3 : lab.toList = lab'.toList := by simpa using hl
                        have HL := hide hl
                        obtain ⟨i0, z0, hi, hi0, hi1, hi2, hi3⟩ := pair_info
                        have HI := hide (And.intro hi (And.intro hi0 (And.intro hi1 (And.intro hi2 hi3))))
                        have hbnd : Hid ((L0 ++ P).length ≤ 1048577) := by
                          have h1 := len_wsum (L0 ++ P)
                          rw [wsum_app] at h1
                          have h2 := HX.out.1
                          have h3 := HALL.out.1
                          have h4 := HALL.out.2.1
                          unfold Hid
                          omega
                        clear hi hi0 hi1 hi2 hi3
                        go_wp2_with (first | (at_builtin; go_loud (refine wpList_append_lies _ rfl _ _ ( /- t -/ 139) rfl w.heap.size ( /- t -/ 138) i0 z0 10 144 Tryd.underlying139 HI.out.1 HI.out.2.1 HI.out.2.2.1 HI.out.2.2.2.1 HI.out.2.2.2.2 (by omega) _ (L0 ++ P).length ((L0 ++ P).flatMap Pr.cells) rfl (row_below HX.out.2.2.2.1 ((HB14.out.alloc HB14.out.size _).alloc (Nat.le_trans HB14.out.size (by simp)) _)) ⟨w12.heap.size + 1, 0, none⟩ 1 1 (Pr.cells ⟨kd, fr3, to3, ix3, .slice p1 kids.len q1, kids, kd', fr4, to4, ix4, .slice p2 kids'.len q2, kids'⟩) rfl rfl (World.news_of_block (cs := #[.int .i64 kd, .string fr3, .string to3, .int .i64 ix3, .slice p1 kids.len q1, .int .i64 kd', .string fr4, .string to4, .int .i64 ix4, .slice p2 kids'.len q2]) (t := ( /- t -/ 138)) (fr := (0, 0)) (by have h := heap_alloc_new (w12.alloc (.cells #[.int .i64 kd', .string fr4, .string to4, .int .i64 ix4, .slice p2 kids'.len q2] ( /- t -/ 25))) (.cells #[.int .i64 kd, .string fr3, .string to3, .int .i64 ix3, .slice p1 kids.len q1, .int .i64 kd', .string fr4, .string to4, .int .i64 ix4, .slice p2 kids'.len q2] ( /- t -/ 138)); simpa using h)) (by simp [Pr.cells, Value.oneCell']) (by omega) (by have := hbnd.out; unfold maxLen; omega) (by have := hbnd.out; omega) (Nat.le_trans (Nat.le_trans HX.out.2.2.2.2.2.1.size HB14.out.size) (by simp; omega)) _ rfl ?_; intro gg cp w13 hown13 hgrow13 hat13 hlt13)) | fail)
                        exact rel_step HK.out HL.out HX.out HB14.out hown13 hgrow13 (by have := HALL.out.1; have := HALL.out.2.1; omega)
          · have hl2 : ((f1.len : Int) != (f2.len : Int)) = true := by simp; omega
            have HR := hide (hinv.no (x := ⟨k1, fr1, to1, ix1, .slice a1 f1.len c1, f1, k2, fr2, to2, ix2, .slice a2 f2.len c2, f2⟩) (by show sameN _ _ _ _ _ _ _ _ _ _ = false; simp [sameN, headB_like, hlk, hln]))
            have HBW := hide hbW
            clear hlk hw hn hmap hinv hL hS hM hbw ho1 ho2 hcur hn0 hbW hb10 hln
            go_wp2_with fail
            go_ret
            exact ⟨ret_bool HR.out.symm, HBW.out⟩

end Go.Proofs.YtfppglfajbmapaaDoor
