/- ParseLocal of the model. -/
import Derived.Test.YtbonmdkfmgahbaaPq
import Derived.Test.YtbonmdkfmgahbaaLFm
namespace Go.Proofs.Ytbonmdkfmgahbaa.Lo.Ne
open Go.RowKit

theorem bl_bs (s : List UInt8) : bl (bs s) = s := by simp [bl, bs]
theorem text_iff (N : Nd) {s : List UInt8} (hs0 : s ≠ []) : textN N.k N.fr N.ix N.kids = bs s ↔ (okN N.k N.fr N.ix N.kids = true ∧ bl (txN N.k N.fr N.ix N.kids) = s) := by
  unfold textN
  cases hk : okN N.k N.fr N.ix N.kids with
  | true =>
    rw [if_pos rfl]
    refine ⟨fun h => ⟨rfl, by rw [h, bl_bs]⟩, fun h => bl_inj (by rw [h.2, bl_bs])⟩
  | false =>
    rw [if_neg (by decide)]
    refine ⟨fun h => absurd (congrArg ByteArray.size h) ?_, fun h => by cases h.1⟩
    rw [bs_size]
    intro h0
    exact hs0 (List.length_eq_zero_iff.1 h0.symm)

set_option maxHeartbeats 1600000 in
set_option maxRecDepth 100000 in
/-- ParseLocal of the model. -/
theorem specParseL (w : World) (s : List UInt8) (hs : s.length ≤ 1048576) :
    Calls Try.prog 6 #[.string (bs s)] w (PlPost s w) := by
  have hsz : (bs s).size = s.length := bs_size s
  have HP := hide (fun (W : World) => sp_every 40 (by omega) W s 0 hs (Nat.zero_le _))
  go_enter Try.func6, Try.ntmps6
  go_wp2_with fail
  have hx := Box4.now w (.int .i64 0) (.string ⟨#[]⟩) (.int .i64 0) (.slice none 0 0) ( /- t -/ 24)
  have hb1 := alloc_below w (.cells #[.int .i64 0, .string ⟨#[]⟩, .int .i64 0, .slice none 0 0] ( /- t -/ 24))
  have hw1 : w.heap.size < (w.alloc (.cells #[.int .i64 0, .string ⟨#[]⟩, .int .i64 0, .slice none 0 0] ( /- t -/ 24))).heap.size := by simp
  generalize w.alloc (.cells #[.int .i64 0, .string ⟨#[]⟩, .int .i64 0, .slice none 0 0] ( /- t -/ 24)) = W at *
  refine (HP.out W).mono ?_
  intro e w4 hp4
  rw [List.drop_zero] at hp4
  have HX4 := hide (hx.below hp4.1)
  obtain ⟨y0, y1, y2, y3⟩ := HX4.out.cells
  have hf := box4_frozen HX4.out
  have hl := HX4.out.lt
  have HB4 := hide (hb1.trans (hp4.1.mono hb1.size))
  have hs4 := hp4.1.size
  clear hx hb1
  cases hr : sp 40 s with
  | none =>
    obtain ⟨k, fr, ix, a, m, cp, rfl⟩ := hp4.2.2 hr
    have HN := hide (show resL s = none by rw [resLM, resM, hr])
    have hne : ¬ (-1 : Int) = (s.length : Int) := by omega
    clear hp4 hr
    go_wp2_with fail
    refine bodyPost_ret (v := .tuple #[.agg #[.int .i64 0, .string ⟨#[]⟩, .int .i64 0, .slice none 0 0], .bool false]) (by simp [results, Try.results6, go_sem, *]) rfl ?_
    exact pl_no HN.out ((below_set4 HB4.out (Nat.le_refl _) _ _ _ _).alloc (by simp; omega) _)
  | some qq =>
    obtain ⟨N, t⟩ := qq
    obtain ⟨q, u, bs2, hq, ht, rfl, how, hge, hnd⟩ := hp4.2.1 N t hr
    obtain ⟨ua, uc, rfl⟩ := how.val
    have hks := sp_sz _ _ _ _ hr
    have HOW := hide how
    have HGE := hide hge
    have HND := hide hnd
    by_cases hql : q = s.length
    case neg =>
      have HN := hide (show resL s = none by
        rw [resLM, resM, hr, ht]
        cases h : s.drop q with
        | nil =>
          have := congrArg List.length h
          simp at this
          omega
        | cons a b => rfl)
      have hne : ¬ (q : Int) = (s.length : Int) := by omega
      clear hp4 hr how hge hnd
      go_wp2_with fail
      refine bodyPost_ret (v := .tuple #[.agg #[.int .i64 0, .string ⟨#[]⟩, .int .i64 0, .slice none 0 0], .bool false]) (by simp [results, Try.results6, go_sem, *]) rfl ?_
      exact pl_no HN.out ((below_set4 HB4.out (Nat.le_refl _) _ _ _ _).alloc (by simp; omega) _)
    case pos =>
      have hq2 : (q : Int) = (s.length : Int) := by omega
      have hs0 : s ≠ [] := by
        rintro rfl
        have h0 : sp 40 [] = none := rfl
        rw [h0] at hr
        cases hr
      have he : (bs s).toList.isEmpty = false := by
        cases s with
        | nil => exact absurd rfl hs0
        | cons a b => exact bs_full a b
      have hne1 : ¬ (bs s).toList = [] := by
        cases s with
        | nil => exact absurd rfl hs0
        | cons a b => exact bs_ne a b
      have ht0 : t = [] := by rw [ht, hql, List.drop_length]
      have hks : N.kids.sz ≤ 1048576 := by omega
      have HQ := hide (show sp 40 s = some (N, []) by rw [hr, ht0])
      clear hp4 hr how hge hnd hq ht ht0 hql
      go_wp2_with fail
      refine (specFormat _ N.k N.ix N.fr (.slice ua N.kids.len uc) N.kids (HOW.out.sl.still (Still.of_below (alloc_below w4 _))) hks).mono ?_
      rintro e w2 ⟨rfl, hb⟩
      have hb12 := alloc_then hb
      have hbx := (Box4.now w4 (.int .i64 N.k) (.string N.fr) (.int .i64 N.ix) (.slice ua N.kids.len uc) ( /- t -/ 24)).below hb
      obtain ⟨z0, z1, z2, z3⟩ := hbx.cells
      have zl := hbx.lt
      have hx2 := HX4.out.below hb12
      obtain ⟨x0, x1, x2, x3⟩ := hx2.cells
      have fx := box4_frozen hx2
      have lx := hx2.lt
      have HB2 := hide (HB4.out.trans (hb12.mono (by omega)))
      have HOW2 := hide (HOW.out.same (Same.of_below hb12 HOW.out.lt))
      have hs24 := hb12.size
      clear hb hbx hx2 y0 y1 y2 y3 hf hl
      by_cases heq : textN N.k N.fr N.ix N.kids = bs s
      · have HN := hide (show resL s = some N by
          rw [resLM, resM, HQ.out]
          show (if _ then _ else _) = _
          rw [if_pos ((text_iff N hs0).1 heq)])
        rw [heq]
        clear heq
        go_wp2_with fail
        refine bodyPost_ret (v := .tuple #[.agg #[.int .i64 N.k, .string N.fr, .int .i64 N.ix, .slice ua N.kids.len uc], .bool true]) (by simp [results, Try.results6, go_sem, *]) rfl ?_
        exact pl_yes HN.out (ow_set4 HOW2.out (fun b hb => by have := HGE.out b hb; omega) _ _ _ _) (fun b hb => by have := HGE.out b hb; omega) HND.out (below_set4 HB2.out (Nat.le_refl _) _ _ _ _)
      · have HN := hide (show resL s = none by
          rw [resLM, resM, HQ.out]
          show (if _ then _ else _) = _
          rw [if_neg (fun h => heq ((text_iff N hs0).2 h))])
        have hnb : ((textN N.k N.fr N.ix N.kids).toList == (bs s).toList) = false := beq_eq_false_iff_ne.2 (fun h => heq (by
          rw [ByteArray.toList_eq, ByteArray.toList_eq] at h
          exact ByteArray.ext (Array.toList_inj.1 h)))
        generalize textN N.k N.fr N.ix N.kids = tt at *
        clear heq
        go_wp2_with fail
        refine bodyPost_ret (v := .tuple #[.agg #[.int .i64 0, .string ⟨#[]⟩, .int .i64 0, .slice none 0 0], .bool false]) (by simp [results, Try.results6, go_sem, *]) rfl ?_
        exact pl_no HN.out (below_set4 HB2.out (Nat.le_refl _) _ _ _ _)
end Go.Proofs.Ytbonmdkfmgahbaa.Lo.Ne
