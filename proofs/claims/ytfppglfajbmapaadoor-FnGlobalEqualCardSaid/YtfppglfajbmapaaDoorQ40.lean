/- Ph -/
import Derived.Test.YtfppglfajbmapaaDoorQ39
/- l1ParseMessage and ParseGlobal of the model: some tree in memory of its own. -/
namespace Go.Proofs.YtfppglfajbmapaaDoor
open Go.RowKit

/-- What holds at each round's head. -/
def MsRel (s : ByteArray) (p : Nat) (w : World) (fr tg : ByteArray) (iv : Value) (wr : World) : Prop :=
  ∃ (q : Nat) (acc : F) (v : Value) (bs : List Nat), iv = .int .i64 (q : Nat) ∧ q ≤ s.size ∧ acc.sz + p + 2 ≤ q ∧ acc.len ≤ 4 ∧ Box5 wr (w.heap.size + 1) (.int .i64 2) (.string fr) (.string tg) (.int .i64 0) v ∧ Gr wr (w.heap.size + 2) v acc bs ∧ Below w.heap.size w wr ∧
    Box5 wr w.heap.size (.int .i64 0) (.string ⟨#[]⟩) (.string ⟨#[]⟩) (.int .i64 0) (.slice none 0 0)

set_option maxHeartbeats 6000000 in
set_option maxRecDepth 100000 in
theorem ms_calls (s : ByteArray) (hs : s.size ≤ 1048576) (d : Nat) (hd : d ≤ 40) (ih : WkAt s d) : MsAt s d := by
  intro w p hp
  have hwd : IntKind.i64.wrap (d : Int) = (d : Int) := by simp [IntKind.wrap, IntKind.bits, IntKind.signed]; omega
  have HIH := hide ih
  clear ih
  obtain ⟨i0, hi, hz0, hz1, hz2⟩ := info_parts Tryd.info76
  have HI := hide (And.intro hi (And.intro hz0 (And.intro hz1 hz2)))
  clear hi hz0 hz1 hz2
  have r1 : (0 : Int) ≤ (p : Int) := by omega
  have r2 : (p : Int) ≤ (p : Int) + 1 := by omega
  have r3 : (p : Int) + 1 ≤ (s.size : Int) := by omega
  have r4 : (p : Int) + 1 ≤ (p : Int) + 2 := by omega
  have r5 : (p : Int) + 2 ≤ (s.size : Int) := by omega
  have r10 : (0 : Int) ≤ (p : Int) + 1 := by omega
  have r11 : (0 : Int) ≤ (p : Int) + 2 := by omega
  have r6 : ((p : Int) + 1).toNat = p + 1 := by omega
  have r7 : ((p : Int) + 2).toNat = p + 2 := by omega
  have r8 : IntKind.i64.wrap ((p : Int) + 1) = (p : Int) + 1 := by rw [IntKind.wrap_i64]; omega
  have r9 : IntKind.i64.wrap ((p : Int) + 2) = (p : Int) + 2 := by rw [IntKind.wrap_i64]; omega
  obtain ⟨fr, hfr⟩ : ∃ fr, s.extract p (p + 1) = fr := ⟨_, rfl⟩
  obtain ⟨tg, htg⟩ : ∃ tg, s.extract (p + 1) (p + 2) = tg := ⟨_, rfl⟩
  have HFR : Hid (fr.size ≤ maxLen) := hide (by rw [← hfr]; exact ext_size _ _ _ (by omega))
  have HTG : Hid (tg.size ≤ maxLen) := hide (by rw [← htg]; exact ext_size _ _ _ (by omega))
  go_enter Tryd.func168, Tryd.ntmps168
  go_upto_region 1 with fail
  have hx0 := Box5.now w (.int .i64 0) (.string ⟨#[]⟩) (.string ⟨#[]⟩) (.int .i64 0) (.slice none 0 0) ( /- t -/ 25)
  have hb0 := alloc_below w (.cells #[.int .i64 0, .string ⟨#[]⟩, .string ⟨#[]⟩, .int .i64 0, .slice none 0 0] ( /- t -/ 25))
  have hz0 : (w.alloc (.cells #[.int .i64 0, .string ⟨#[]⟩, .string ⟨#[]⟩, .int .i64 0, .slice none 0 0] ( /- t -/ 25))).heap.size = w.heap.size + 1 := by simp
  generalize w.alloc (.cells #[.int .i64 0, .string ⟨#[]⟩, .string ⟨#[]⟩, .int .i64 0, .slice none 0 0] ( /- t -/ 25)) = W at *
  refine wp_region_T (fun _ => True) 13 (by kernel_rfl) trivial (fun hHeld => ?_)
  refine wpAnyT_take (L := 13) (i := 0) (v := ?v0) rfl (by kernel_rfl) (by kernel_rfl) (by kernel_rfl) (by kernel_rfl) (fun _ _ _ h => h) hHeld (Or.inl ⟨by rfl, ?hy0⟩) ?rest0
  case hy0 => ((intro w' hw'); (try dsimp only at hw'); (go_simp); (try with_reducible rfl))
  (try simp only [Act.put]); (try simp only [List.setIfInBounds_toArray]); (try simp only [List.set_cons_zero]); (try simp only [List.set_cons_succ])
  refine wpAnyT_take (L := 13) (i := 1) (v := ?v1) rfl (by kernel_rfl) (by kernel_rfl) (by kernel_rfl) (by kernel_rfl) (fun _ _ _ h => h) hHeld (Or.inl ⟨by rfl, ?hy1⟩) ?rest1
  case hy1 => ((intro w' hw'); (try dsimp only at hw'); (go_simp); (try with_reducible rfl))
  (try simp only [Act.put]); (try simp only [List.setIfInBounds_toArray]); (try simp only [List.set_cons_zero]); (try simp only [List.set_cons_succ])
  refine wpAnyT_take (L := 13) (i := 2) (v := ?v2) rfl (by kernel_rfl) (by kernel_rfl) (by kernel_rfl) (by kernel_rfl) (fun _ _ _ h => h) hHeld (Or.inl ⟨by rfl, ?hy2⟩) ?rest2
  case hy2 => ((intro w' hw'); (try dsimp only at hw'); (go_simp); (try with_reducible rfl))
  (try simp only [Act.put]); (try simp only [List.setIfInBounds_toArray]); (try simp only [List.set_cons_zero]); (try simp only [List.set_cons_succ])
  refine wpAnyT_take (L := 13) (i := 3) (v := ?v3) rfl (by kernel_rfl) (by kernel_rfl) (by kernel_rfl) (by kernel_rfl) (fun _ _ _ h => h) hHeld (Or.inl ⟨by rfl, ?hy3⟩) ?rest3
  case hy3 => ((intro w' hw'); (try dsimp only at hw'); (go_simp); (try with_reducible rfl))
  (try simp only [Act.put]); (try simp only [List.setIfInBounds_toArray]); (try simp only [List.set_cons_zero]); (try simp only [List.set_cons_succ])
  refine wpAnyT_take (L := 13) (i := 4) (v := ?v4) rfl (by kernel_rfl) (by kernel_rfl) (by kernel_rfl) (by kernel_rfl) (fun _ _ _ h => h) hHeld (Or.inl ⟨by rfl, ?hy4⟩) ?rest4
  case hy4 => ((intro w' hw'); (try dsimp only at hw'); (go_simp); (try with_reducible rfl))
  (try simp only [Act.put]); (try simp only [List.setIfInBounds_toArray]); (try simp only [List.set_cons_zero]); (try simp only [List.set_cons_succ])
  refine wpAnyT_take (L := 13) (i := 5) (v := ?v5) rfl (by kernel_rfl) (by kernel_rfl) (by kernel_rfl) (by kernel_rfl) (fun _ _ _ h => h) hHeld (Or.inl ⟨by rfl, ?hy5⟩) ?rest5
  case hy5 => ((intro w' hw'); (try dsimp only at hw'); (go_simp); (try with_reducible rfl))
  (try simp only [Act.put]); (try simp only [List.setIfInBounds_toArray]); (try simp only [List.set_cons_zero]); (try simp only [List.set_cons_succ])
  refine wpAnyT_take (L := 13) (i := 6) (v := ?v6) rfl (by kernel_rfl) (by kernel_rfl) (by kernel_rfl) (by kernel_rfl) (fun _ _ _ h => h) hHeld (Or.inl ⟨by rfl, ?hy6⟩) ?rest6
  case hy6 => ((intro w' hw'); (try dsimp only at hw'); (go_simp); (try with_reducible rfl))
  (try simp only [Act.put]); (try simp only [List.setIfInBounds_toArray]); (try simp only [List.set_cons_zero]); (try simp only [List.set_cons_succ])
  refine wpAnyT_take (L := 13) (i := 7) (v := ?v7) rfl (by kernel_rfl) (by kernel_rfl) (by kernel_rfl) (by kernel_rfl) (fun _ _ _ h => h) hHeld (Or.inl ⟨by rfl, ?hy7⟩) ?rest7
  case hy7 => ((intro w' hw'); (try dsimp only at hw'); (go_simp); (try with_reducible rfl))
  (try simp only [Act.put]); (try simp only [List.setIfInBounds_toArray]); (try simp only [List.set_cons_zero]); (try simp only [List.set_cons_succ])
  refine wpAnyT_take (L := 13) (i := 8) (v := ?v8) rfl (by kernel_rfl) (by kernel_rfl) (by kernel_rfl) (by kernel_rfl) (fun _ _ _ h => h) hHeld (Or.inl ⟨by rfl, ?hy8⟩) ?rest8
  case hy8 => ((intro w' hw'); (try dsimp only at hw'); (go_simp); (try with_reducible rfl))
  (try simp only [Act.put]); (try simp only [List.setIfInBounds_toArray]); (try simp only [List.set_cons_zero]); (try simp only [List.set_cons_succ])
  refine wpAnyT_take (L := 13) (i := 9) (v := ?v9) rfl (by kernel_rfl) (by kernel_rfl) (by kernel_rfl) (by kernel_rfl) (fun _ _ _ h => h) hHeld (Or.inl ⟨by rfl, ?hy9⟩) ?rest9
  case hy9 => ((intro w' hw'); (try dsimp only at hw'); (go_simp); (try with_reducible rfl))
  (try simp only [Act.put]); (try simp only [List.setIfInBounds_toArray]); (try simp only [List.set_cons_zero]); (try simp only [List.set_cons_succ])
  refine wpAnyT_take (L := 13) (i := 10) (v := ?v10) rfl (by kernel_rfl) (by kernel_rfl) (by kernel_rfl) (by kernel_rfl) (fun _ _ _ h => h) hHeld (Or.inl ⟨by rfl, ?hy10⟩) ?rest10
  case hy10 => ((intro w' hw'); (try dsimp only at hw'); (go_simp); (try with_reducible rfl))
  (try simp only [Act.put]); (try simp only [List.setIfInBounds_toArray]); (try simp only [List.set_cons_zero]); (try simp only [List.set_cons_succ])
  refine wpAnyT_take (L := 13) (i := 11) (v := ?v11) rfl (by kernel_rfl) (by kernel_rfl) (by kernel_rfl) (by kernel_rfl) (fun _ _ _ h => h) hHeld (Or.inl ⟨by rfl, ?hy11⟩) ?rest11
  case hy11 => ((intro w' hw'); (try dsimp only at hw'); (go_simp); (try with_reducible rfl))
  (try simp only [Act.put]); (try simp only [List.setIfInBounds_toArray]); (try simp only [List.set_cons_zero]); (try simp only [List.set_cons_succ])
  refine wpAnyT_one (L := 13) (i := 12) (by kernel_rfl) rfl (fun K hK => ?_)
  go_simp
  refine hK.out _ _ (fun _ => trivial) ?_
  clear hK K
  (try simp only [Act.put]); (try simp only [List.setIfInBounds_toArray]); (try simp only [List.set_cons_zero]); (try simp only [List.set_cons_succ])
  have hg1 := Box5.now W.drew (.int .i64 0) (.string ⟨#[]⟩) (.string ⟨#[]⟩) (.int .i64 0) (.slice none 0 0) ( /- t -/ 25)
  obtain ⟨g0, g1, g2, g3, g4⟩ := hg1.cells
  have fg := hg1.frozen
  have lg := hg1.lt
  refine wpAnyT_one (L := 13) (i := 13) (by kernel_rfl) rfl (fun K hK => ?_)
  go_simp
  refine hK.out _ _ (fun h => absurd rfl h) ?_
  refine wpAnyT_done (by kernel_rfl) ?_ _
  clear hK K
  have HST : Hid (MsRel s p w fr tg (.int .i64 ((p : Int) + 2)) (W.drew.alloc (.cells #[.int .i64 2, .string fr, .string tg, .int .i64 0, .slice none 0 0] ( /- t -/ 25)))) := hide
    ⟨p + 2, .nil, _, [], congrArg (Value.int .i64) (by omega), by omega, by simp only [F.sz]; omega, Nat.zero_le _, by
      have := Box5.now W.drew (.int .i64 2) (.string fr) (.string tg) (.int .i64 0) (.slice none 0 0) ( /- t -/ 25)
      rwa [show W.drew.heap.size = w.heap.size + 1 from hz0] at this, Gr.nil _ _, (hb0.drew).alloc hb0.size _, hx0.drew.below (alloc_below _ _)⟩
  clear hx0 hb0 hg1 g0 g1 g2 g3 g4 fg lg hfr htg
  go_wp2_with fail
  go_loopw [1] (fun iv wr => MsRel s p w fr tg iv wr) (fun iv _ => s.size - (intOf iv).toNat)
  case atStart => exact HST.out
  case round =>
    obtain ⟨q, acc, v, bs, rfl, hqs, hqa, hal, hgx, hgr, hb, hx⟩ := hrel
    obtain ⟨va, vc, rfl⟩ := hgr.val
    have HX := hide hx
    have HA := hide hgx
    have HG := hide hgr
    have HB := hide hb
    clear hgx hgr hb hx HST
    obtain ⟨x0, x1, x2, x3, x4⟩ := HX.out.cells
    have fx := HX.out.frozen
    have lx := HX.out.lt
    obtain ⟨b0, b1, b2, b3, b4⟩ := HA.out.cells
    have fb := HA.out.frozen
    have lb := HA.out.lt
    by_cases h3 : acc.len ≤ 3
    case neg =>
      have h3i : ¬ (acc.len : Int) ≤ 3 := by omega
      by_cases hqe : s.size ≤ q
      · have hqi : (s.size : Int) ≤ (q : Int) := by omega
        go_wp2_with fail
        refine bodyPost_ret (v := .tuple #[.agg #[.int .i64 2, .string fr, .string tg, .int .i64 0, .slice va acc.len vc], .int .i64 (-1)]) (by simp [results, Tryd.results168, go_sem, *]) rfl ?_
        exact wk_fin (N := ⟨2, fr, tg, 0, acc⟩) HG.out.ow (fun x hx => by have := HG.out.ge x hx; omega) HG.out.nodup HB.out ⟨HFR.out, HTG.out, show (Lit.int .i64 2).wf = true by decide, show (Lit.int .i64 0).wf = true by decide⟩ (Or.inl ⟨rfl, show acc.sz + p ≤ s.size by omega⟩) _ _ _ _ _
      · have hinq : q < s.size := by omega
        have hqi : ¬ (s.size : Int) ≤ (q : Int) := by omega
        by_cases c125 : ((s[q]'hinq).toNat : Int) = 125
        · go_wp2_with fail
          refine bodyPost_ret (v := .tuple #[.agg #[.int .i64 2, .string fr, .string tg, .int .i64 0, .slice va acc.len vc], .int .i64 ((q + 1 : Nat) : Int)]) (by simp [results, Tryd.results168, go_sem, *]) rfl ?_
          exact wk_fin (N := ⟨2, fr, tg, 0, acc⟩) HG.out.ow (fun x hx => by have := HG.out.ge x hx; omega) HG.out.nodup HB.out ⟨HFR.out, HTG.out, show (Lit.int .i64 2).wf = true by decide, show (Lit.int .i64 0).wf = true by decide⟩ (Or.inr ⟨q + 1, rfl, by omega, by omega, show acc.sz + p + 1 ≤ q + 1 by omega⟩) _ _ _ _ _
        · have n125 : (((s[q]'hinq).toNat : Int) != 125) = true := by simp [c125]
          go_wp2_with fail
          refine bodyPost_ret (v := .tuple #[.agg #[.int .i64 2, .string fr, .string tg, .int .i64 0, .slice va acc.len vc], .int .i64 (-1)]) (by simp [results, Tryd.results168, go_sem, *]) rfl ?_
          exact wk_fin (N := ⟨2, fr, tg, 0, acc⟩) HG.out.ow (fun x hx => by have := HG.out.ge x hx; omega) HG.out.nodup HB.out ⟨HFR.out, HTG.out, show (Lit.int .i64 2).wf = true by decide, show (Lit.int .i64 0).wf = true by decide⟩ (Or.inl ⟨rfl, show acc.sz + p ≤ s.size by omega⟩) _ _ _ _ _
    case pos =>
      have h3i : (acc.len : Int) ≤ 3 := by omega
      by_cases hq1 : q + 1 < s.size
      case neg =>
        have hq1i : ¬ (q : Int) + 1 < (s.size : Int) := by omega
        by_cases hqe : s.size ≤ q
        · have hqi : (s.size : Int) ≤ (q : Int) := by omega
          go_wp2_with fail
          refine bodyPost_ret (v := .tuple #[.agg #[.int .i64 2, .string fr, .string tg, .int .i64 0, .slice va acc.len vc], .int .i64 (-1)]) (by simp [results, Tryd.results168, go_sem, *]) rfl ?_
          exact wk_fin (N := ⟨2, fr, tg, 0, acc⟩) HG.out.ow (fun x hx => by have := HG.out.ge x hx; omega) HG.out.nodup HB.out ⟨HFR.out, HTG.out, show (Lit.int .i64 2).wf = true by decide, show (Lit.int .i64 0).wf = true by decide⟩ (Or.inl ⟨rfl, show acc.sz + p ≤ s.size by omega⟩) _ _ _ _ _
        · have hinq : q < s.size := by omega
          have hqi : ¬ (s.size : Int) ≤ (q : Int) := by omega
          by_cases c125 : ((s[q]'hinq).toNat : Int) = 125
          · go_wp2_with fail
            refine bodyPost_ret (v := .tuple #[.agg #[.int .i64 2, .string fr, .string tg, .int .i64 0, .slice va acc.len vc], .int .i64 ((q + 1 : Nat) : Int)]) (by simp [results, Tryd.results168, go_sem, *]) rfl ?_
            exact wk_fin (N := ⟨2, fr, tg, 0, acc⟩) HG.out.ow (fun x hx => by have := HG.out.ge x hx; omega) HG.out.nodup HB.out ⟨HFR.out, HTG.out, show (Lit.int .i64 2).wf = true by decide, show (Lit.int .i64 0).wf = true by decide⟩ (Or.inr ⟨q + 1, rfl, by omega, by omega, show acc.sz + p + 1 ≤ q + 1 by omega⟩) _ _ _ _ _
          · have n125 : (((s[q]'hinq).toNat : Int) != 125) = true := by simp [c125]
            go_wp2_with fail
            refine bodyPost_ret (v := .tuple #[.agg #[.int .i64 2, .string fr, .string tg, .int .i64 0, .slice va acc.len vc], .int .i64 (-1)]) (by simp [results, Tryd.results168, go_sem, *]) rfl ?_
            exact wk_fin (N := ⟨2, fr, tg, 0, acc⟩) HG.out.ow (fun x hx => by have := HG.out.ge x hx; omega) HG.out.nodup HB.out ⟨HFR.out, HTG.out, show (Lit.int .i64 2).wf = true by decide, show (Lit.int .i64 0).wf = true by decide⟩ (Or.inl ⟨rfl, show acc.sz + p ≤ s.size by omega⟩) _ _ _ _ _
      case pos =>
        have hq1i : (q : Int) + 1 < (s.size : Int) := by omega
        have hin : q < s.size := by omega
        have hini : (q : Int) < (s.size : Int) := by omega
        by_cases c1 : ((s[q]'hin).toNat : Int) = 123
        case pos =>
          go_wp2_with fail
          rw [show (q : Int) + 2 = ((q + 2 : Nat) : Int) by omega]
          refine (HIH.out wr (q + 2) (by omega)).mono ?_
          rintro e w8 ⟨N, un, ks, nx, rfl, how, hge, hnd, hb8, hf, hn⟩
          obtain ⟨ua, uc, rfl⟩ := how.val
          have hz8 := hb8.size
          have HX8 := hide ((HX.out.below hb8).below (alloc_below w8 (.cells #[.int .i64 N.k, .string N.fr, .string N.tg, .int .i64 N.ix, .slice ua N.kids.len uc] ( /- t -/ 25))))
          have HA8 := hide ((HA.out.below hb8).below (alloc_below w8 (.cells #[.int .i64 N.k, .string N.fr, .string N.tg, .int .i64 N.ix, .slice ua N.kids.len uc] ( /- t -/ 25))))
          have HG8 := hide ((HG.out.below hb8).below (alloc_below w8 (.cells #[.int .i64 N.k, .string N.fr, .string N.tg, .int .i64 N.ix, .slice ua N.kids.len uc] ( /- t -/ 25))))
          have HGL := hide HG.out.lt
          have HB8 := hide ((HB.out.trans (hb8.mono HB.out.size)).alloc (Nat.le_trans HB.out.size hb8.size) (.cells #[.int .i64 N.k, .string N.fr, .string N.tg, .int .i64 N.ix, .slice ua N.kids.len uc] ( /- t -/ 25)))
          have HN9 := hide (Box5.now w8 (.int .i64 N.k) (.string N.fr) (.string N.tg) (.int .i64 N.ix) (.slice ua N.kids.len uc) ( /- t -/ 25))
          have HOW := hide (how.same (Same.of_below (alloc_below w8 (.cells #[.int .i64 N.k, .string N.fr, .string N.tg, .int .i64 N.ix, .slice ua N.kids.len uc] ( /- t -/ 25))) how.lt))
          have HOL := hide how.lt
          have HGE := hide hge
          have HND := hide hnd
          have HF := hide hf
          have hz9 : (w8.alloc (.cells #[.int .i64 N.k, .string N.fr, .string N.tg, .int .i64 N.ix, .slice ua N.kids.len uc] ( /- t -/ 25))).heap.size = w8.heap.size + 1 := by simp
          have HZ9 := hide hz9
          have hAw := HA.out.lt
          clear x0 x1 x2 x3 x4 fx lx b0 b1 b2 b3 b4 fb lb HX HG HB HA how hge hnd hf hb8 hz9
          rcases hn with ⟨rfl, hn⟩ | ⟨q2, rfl, hn1, hn2, hn3⟩
          · go_upto_region 5 with fail
            generalize w8.alloc (.cells #[.int .i64 N.k, .string N.fr, .string N.tg, .int .i64 N.ix, .slice ua N.kids.len uc] ( /- t -/ 25)) = w9 at *
            obtain ⟨x0, x1, x2, x3, x4⟩ := HX8.out.cells
            have fx := HX8.out.frozen
            have lx := HX8.out.lt
            obtain ⟨b0, b1, b2, b3, b4⟩ := HA8.out.cells
            have lb := HA8.out.lt
            go_wp2_with fail
            refine bodyPost_ret (v := .tuple #[.agg #[.int .i64 2, .string fr, .string tg, .int .i64 0, .slice va acc.len vc], .int .i64 (-1)]) (by simp [results, Tryd.results168, go_sem, *]) rfl ?_
            exact wk_fin (N := ⟨2, fr, tg, 0, acc⟩) HG8.out.ow (fun x hx => by have := HG8.out.ge x hx; omega) HG8.out.nodup HB8.out ⟨HFR.out, HTG.out, show (Lit.int .i64 2).wf = true by decide, show (Lit.int .i64 0).wf = true by decide⟩ (Or.inl ⟨rfl, show acc.sz + p ≤ s.size by omega⟩) _ _ _ _ _
          · have hq0 : ¬ (q2 : Int) < 0 := by omega
            go_upto_region 7 with fail
            generalize w8.alloc (.cells #[.int .i64 N.k, .string N.fr, .string N.tg, .int .i64 N.ix, .slice ua N.kids.len uc] ( /- t -/ 25)) = w9 at *
            have hw89 : w8.heap.size < w9.heap.size := by have := HZ9.out; omega
            have HA9 := hide HA8.out.drew
            have HN9d := hide HN9.out.drew
            have HG9 := hide (HG8.out.below (w' := w9.drew) (Below.refl _ _).drew)
            have HOWd := hide (HOW.out.same (w' := w9.drew) (fun _ _ => rfl))
            obtain ⟨lab, hlab⟩ : ∃ lab, lab = s.extract (q + 1) (q + 2) := ⟨_, rfl⟩
            have hls : lab.size ≤ maxLen := by rw [hlab]; exact ext_size _ _ _ (by omega)
            have HL := hide hls
            have hexl : s.extract (q + 1) (q + 2) = lab := hlab.symm
            have hs1 : (0 : Int) ≤ (q : Int) + 1 := by omega
            have hw1 : IntKind.i64.wrap ((q : Int) + 1) = (q : Int) + 1 := by rw [IntKind.wrap_i64]; omega
            have hw2 : IntKind.i64.wrap ((q : Int) + 2) = (q : Int) + 2 := by rw [IntKind.wrap_i64]; omega
            have hn1' : ((q : Int) + 1).toNat = q + 1 := by omega
            have hn2' : ((q : Int) + 2).toNat = q + 2 := by omega
            have hs4 : (0 : Int) ≤ (q : Int) + 2 := by omega
            have hs2 : (q : Int) + 1 ≤ (q : Int) + 2 := by omega
            have hs3 : (q : Int) + 2 ≤ (s.size : Int) := by omega
            have a4 := HA9.out.cells.2.2.2.2
            clear hlab hls HOW HG8 HN9
            refine wp_region_T (fun w' => w'.cell? ⟨w.heap.size + 1, 4, none⟩ = some (.slice va acc.len vc) ∧ Box5 w' w8.heap.size (.int .i64 N.k) (.string N.fr) (.string N.tg) (.int .i64 N.ix) (.slice ua N.kids.len uc)) 13 (by kernel_rfl) ⟨a4, HN9d.out⟩ (fun hHeld => ?_)
            refine wpAnyT_take (L := 13) (i := 0) (v := ?va0) rfl (by kernel_rfl) (by kernel_rfl) (by kernel_rfl) (by kernel_rfl) (fun _ _ _ h => h) hHeld (Or.inl ⟨by rfl, ?hya0⟩) ?resta0
            case hya0 => ((intro w' hw'); (obtain ⟨hq0, hq1⟩ := hw'); (obtain ⟨z0, z1, z2, z3, z4⟩ := hq1.cells); (go_simp); (try with_reducible rfl))
            (try simp only [Act.put]); (try simp only [List.setIfInBounds_toArray]); (try simp only [List.set_cons_zero]); (try simp only [List.set_cons_succ])
            refine wpAnyT_take (L := 13) (i := 1) (v := ?va1) rfl (by kernel_rfl) (by kernel_rfl) (by kernel_rfl) (by kernel_rfl) (fun _ _ _ h => h) hHeld (Or.inl ⟨by rfl, ?hya1⟩) ?resta1
            case hya1 => ((intro w' hw'); (obtain ⟨hq0, hq1⟩ := hw'); (obtain ⟨z0, z1, z2, z3, z4⟩ := hq1.cells); (go_simp); (try with_reducible rfl))
            (try simp only [Act.put]); (try simp only [List.setIfInBounds_toArray]); (try simp only [List.set_cons_zero]); (try simp only [List.set_cons_succ])
            refine wpAnyT_take (L := 13) (i := 2) (v := ?va2) rfl (by kernel_rfl) (by kernel_rfl) (by kernel_rfl) (by kernel_rfl) (fun _ _ _ h => h) hHeld (Or.inl ⟨by rfl, ?hya2⟩) ?resta2
            case hya2 => ((intro w' hw'); (obtain ⟨hq0, hq1⟩ := hw'); (obtain ⟨z0, z1, z2, z3, z4⟩ := hq1.cells); (go_simp); (try with_reducible rfl))
            (try simp only [Act.put]); (try simp only [List.setIfInBounds_toArray]); (try simp only [List.set_cons_zero]); (try simp only [List.set_cons_succ])
            refine wpAnyT_take (L := 13) (i := 3) (v := ?va3) rfl (by kernel_rfl) (by kernel_rfl) (by kernel_rfl) (by kernel_rfl) (fun _ _ _ h => h) hHeld (Or.inl ⟨by rfl, ?hya3⟩) ?resta3
            case hya3 => ((intro w' hw'); (obtain ⟨hq0, hq1⟩ := hw'); (obtain ⟨z0, z1, z2, z3, z4⟩ := hq1.cells); (go_simp); (try with_reducible rfl))
            (try simp only [Act.put]); (try simp only [List.setIfInBounds_toArray]); (try simp only [List.set_cons_zero]); (try simp only [List.set_cons_succ])
            refine wpAnyT_take (L := 13) (i := 4) (v := ?va4) rfl (by kernel_rfl) (by kernel_rfl) (by kernel_rfl) (by kernel_rfl) (fun _ _ _ h => h) hHeld (Or.inl ⟨by rfl, ?hya4⟩) ?resta4
            case hya4 => ((intro w' hw'); (obtain ⟨hq0, hq1⟩ := hw'); (obtain ⟨z0, z1, z2, z3, z4⟩ := hq1.cells); (go_simp); (try with_reducible rfl))
            (try simp only [Act.put]); (try simp only [List.setIfInBounds_toArray]); (try simp only [List.set_cons_zero]); (try simp only [List.set_cons_succ])
            refine wpAnyT_take (L := 13) (i := 5) (v := ?va5) rfl (by kernel_rfl) (by kernel_rfl) (by kernel_rfl) (by kernel_rfl) (fun _ _ _ h => h) hHeld (Or.inl ⟨by rfl, ?hya5⟩) ?resta5
            case hya5 => ((intro w' hw'); (obtain ⟨hq0, hq1⟩ := hw'); (obtain ⟨z0, z1, z2, z3, z4⟩ := hq1.cells); (go_simp); (try with_reducible rfl))
            (try simp only [Act.put]); (try simp only [List.setIfInBounds_toArray]); (try simp only [List.set_cons_zero]); (try simp only [List.set_cons_succ])
            refine wpAnyT_take (L := 13) (i := 6) (v := ?va6) rfl (by kernel_rfl) (by kernel_rfl) (by kernel_rfl) (by kernel_rfl) (fun _ _ _ h => h) hHeld (Or.inl ⟨by rfl, ?hya6⟩) ?resta6
            case hya6 => ((intro w' hw'); (obtain ⟨hq0, hq1⟩ := hw'); (obtain ⟨z0, z1, z2, z3, z4⟩ := hq1.cells); (go_simp); (try with_reducible rfl))
            (try simp only [Act.put]); (try simp only [List.setIfInBounds_toArray]); (try simp only [List.set_cons_zero]); (try simp only [List.set_cons_succ])
            refine wpAnyT_take (L := 13) (i := 7) (v := ?va7) rfl (by kernel_rfl) (by kernel_rfl) (by kernel_rfl) (by kernel_rfl) (fun _ _ _ h => h) hHeld (Or.inl ⟨by rfl, ?hya7⟩) ?resta7
            case hya7 => ((intro w' hw'); (obtain ⟨hq0, hq1⟩ := hw'); (obtain ⟨z0, z1, z2, z3, z4⟩ := hq1.cells); (go_simp); (try with_reducible rfl))
            (try simp only [Act.put]); (try simp only [List.setIfInBounds_toArray]); (try simp only [List.set_cons_zero]); (try simp only [List.set_cons_succ])
            refine wpAnyT_take (L := 13) (i := 8) (v := ?va8) rfl (by kernel_rfl) (by kernel_rfl) (by kernel_rfl) (by kernel_rfl) (fun _ _ _ h => h) hHeld (Or.inl ⟨by rfl, ?hya8⟩) ?resta8
            case hya8 => ((intro w' hw'); (obtain ⟨hq0, hq1⟩ := hw'); (obtain ⟨z0, z1, z2, z3, z4⟩ := hq1.cells); (go_simp); (try with_reducible rfl))
            (try simp only [Act.put]); (try simp only [List.setIfInBounds_toArray]); (try simp only [List.set_cons_zero]); (try simp only [List.set_cons_succ])
            refine wpAnyT_take (L := 13) (i := 9) (v := ?va9) rfl (by kernel_rfl) (by kernel_rfl) (by kernel_rfl) (by kernel_rfl) (fun _ _ _ h => h) hHeld (Or.inl ⟨by rfl, ?hya9⟩) ?resta9
            case hya9 => ((intro w' hw'); (obtain ⟨hq0, hq1⟩ := hw'); (obtain ⟨z0, z1, z2, z3, z4⟩ := hq1.cells); (go_simp); (try with_reducible rfl))
            (try simp only [Act.put]); (try simp only [List.setIfInBounds_toArray]); (try simp only [List.set_cons_zero]); (try simp only [List.set_cons_succ])
            refine wpAnyT_one (L := 13) (i := 10) (by kernel_rfl) rfl (fun K hK => ?_)
            go_simp
            have hbi := alloc_below w9.drew (.cells #[.string lab, .int .i64 N.k, .string N.fr, .string N.tg, .int .i64 N.ix, .slice ua N.kids.len uc] ( /- t -/ 76))
            have HD6 := hide (And.intro (Still.of_below hbi _ _ hHeld.1) (hHeld.2.below hbi))
            refine hK.out _ _ (fun _ => HD6.out) ?_
            clear hK K
            (try simp only [Act.put]); (try simp only [List.setIfInBounds_toArray]); (try simp only [List.set_cons_zero]); (try simp only [List.set_cons_succ])
            refine wpAnyT_one (L := 13) (i := 11) (by kernel_rfl) rfl (fun K hK => ?_)
            have hgr5 := HG9.out.below hbi
            refine step_append_lies _ (by rfl) _ _ _ (by rfl) (w.heap.size + 2) ( /- t -/ 76) i0 _ 6 88 Tryd.underlying23 HI.out.1 HI.out.2.1 HI.out.2.2.1 HI.out.2.2.2 rfl (by omega) (.slice va acc.len vc) acc.len (grXs (w9.drew.alloc (.cells #[.string lab, .int .i64 N.k, .string N.fr, .string N.tg, .int .i64 N.ix, .slice ua N.kids.len uc] ( /- t -/ 76))) (.slice va acc.len vc) acc) (by rfl) hgr5.owns
              ⟨w9.heap.size, 0, none⟩ 1 1 [.string lab, .int .i64 N.k, .string N.fr, .string N.tg, .int .i64 N.ix, .slice ua N.kids.len uc] (by rfl) (by rfl) (World.news_of_block (cs := #[.string lab, .int .i64 N.k, .string N.fr, .string N.tg, .int .i64 N.ix, .slice ua N.kids.len uc]) (t := ( /- t -/ 76)) (fr := (0, 0)) (heap_alloc_new w9.drew _)) (by simp [Value.oneCell'])
              (by omega) (by unfold maxLen; omega) (by omega) (by simp; omega) _ rfl ?_
            intro gg cp w6 hown6 hgrow6 hat6 hlt6
            have hfarb : ∀ b8, b8 < w.heap.size + 2 → w6.heap[b8]? = w9.heap[b8]? := fun b8 hb8 => by
              exact (hgrow6.block b8 (by simp; omega) (fun e => by have := hgr5.ge b8 (hgr5.block b8 e.symm); omega)).trans (show (w9.alloc (.cells #[.string lab, .int .i64 N.k, .string N.fr, .string N.tg, .int .i64 N.ix, .slice ua N.kids.len uc] ( /- t -/ 76))).heap[b8]? = _ from Below.heap_alloc _ _ _ (by omega))
            have hA6 := HA8.out.same (hfarb (w.heap.size + 1) (by omega))
            have hw8n : w6.heap[w8.heap.size]? = w9.heap[w8.heap.size]? := by
              exact (hgrow6.block _ (by simp; omega) (fun e => by have := HGL.out _ (hgr5.block _ e.symm); omega)).trans (show (w9.alloc (.cells #[.string lab, .int .i64 N.k, .string N.fr, .string N.tg, .int .i64 N.ix, .slice ua N.kids.len uc] ( /- t -/ 76))).heap[w8.heap.size]? = _ from Below.heap_alloc _ _ _ (by omega))
            have HD7 := hide (And.intro hA6.cells.2.2.2.2 (HN9d.out.same (w' := w6) hw8n))
            refine hK.out _ _ (fun _ => HD7.out) ?_
            clear hK K
            (try simp only [Act.put]); (try simp only [List.setIfInBounds_toArray]); (try simp only [List.set_cons_zero]); (try simp only [List.set_cons_succ])
            refine wpAnyT_take (L := 13) (i := 12) (v := ?va12) rfl (by kernel_rfl) (by kernel_rfl) (by kernel_rfl) (by kernel_rfl) (fun _ _ _ h => h) HD7.out (Or.inl ⟨by rfl, ?hya12⟩) ?resta12
            case hya12 => ((intro w' hw'); (obtain ⟨hq0, hq1⟩ := hw'); (obtain ⟨z0, z1, z2, z3, z4⟩ := hq1.cells); (go_simp); (try with_reducible rfl))
            (try simp only [Act.put]); (try simp only [List.setIfInBounds_toArray]); (try simp only [List.set_cons_zero]); (try simp only [List.set_cons_succ])
            have o4 := hA6.cells.2.2.2.2
            have fo := hA6.frozen
            have lo := hA6.lt
            refine wpAnyT_one (L := 13) (i := 13) (by kernel_rfl) rfl (fun K hK => ?_)
            go_simp
            refine hK.out _ _ (fun h => absurd rfl h) ?_
            refine wpAnyT_done (by kernel_rfl) ?_ _
            clear hK K
            have hou := HOWd.out.same (Same.of_below hbi HOWd.out.lt)
            obtain ⟨q1, q2', q3, q4⟩ := HF.out
            obtain ⟨bs', hpush, -⟩ := Gr.push hgr5 (k := N.k) (ix := N.ix) hou (fun x hx => by have h9 := HGE.out x hx; omega) HND.out
              (fun x hx hx2 => by have h1 := HGL.out x hx; have h2 := HGE.out x hx2; omega) HL.out q1 q2' q3 q4 hown6 hgrow6 (by rcases hat6 with h | h; exact Or.inl h; exact Or.inr h)
            have hwf : ∀ x, x ≠ w.heap.size + 1 → (w6.setCell ⟨w.heap.size + 1, 4, none⟩ (.slice (some ⟨gg, 0, none⟩) (acc.len + 1) cp)).heap[x]? = w6.heap[x]? := fun x hx => Below.heap_setCell _ _ _ _ hx
            have hB6 : Below w.heap.size w w6 := by
              have h2 := HB8.out.drew.trans (hbi.mono (by have := HB8.out.size; simp; omega))
              exact ⟨hgrow6.os.trans h2.os, hgrow6.tape.trans h2.tape, hgrow6.output.trans h2.output, Nat.le_trans h2.size hgrow6.size, fun x hx => (hgrow6.block x (Nat.lt_of_lt_of_le hx h2.size) (fun e => by
                have h1 := hgr5.ge x (hgr5.block x e.symm)
                omega)).trans (h2.block x hx)⟩
            have HREL : Hid (MsRel s p w fr tg (.int .i64 (q2 : Nat)) (w6.setCell ⟨w.heap.size + 1, 4, none⟩ (.slice (some ⟨gg, 0, none⟩) (acc.len + 1) cp))) := hide
              ⟨q2, acc.app (.cons lab N.k N.fr N.tg N.ix N.kids .nil), _, bs', rfl, hn2, by rw [F.sz_app]; simp only [F.sz]; omega, by rw [F.len_app]; simp only [F.len]; omega, hA6.set4 _,
                hpush.same (fun x hx => hwf x (by have := hpush.ge x hx; omega)), hB6.setCell (by simp) _, HX8.out.same ((hwf _ (by omega)).trans (hfarb _ (by omega)))⟩
            clear hpush hou hB6 hown6 hgrow6 hat6 hgr5 hfarb hA6 o4 fo lo HD6 HD7 HA8 HA9 HX8 HB8 HN9d HG9 HOWd
            go_wp2_with fail
            go_roundw
            case rel => exact HREL.out
            case measure => simp [intOf]; omega
        case neg =>
          have n1 : (((s[q]'hin).toNat : Int) == 123) = false := beq_eq_false_iff_ne.2 c1
          by_cases c2 : ((s[q]'hin).toNat : Int) = 124
          case pos =>
            go_wp2_with fail
            rw [show (q : Int) + 2 = ((q + 2 : Nat) : Int) by omega]
            refine (HIH.out wr (q + 2) (by omega)).mono ?_
            rintro e w8 ⟨N, un, ks, nx, rfl, how, hge, hnd, hb8, hf, hn⟩
            obtain ⟨ua, uc, rfl⟩ := how.val
            have hz8 := hb8.size
            have HX8 := hide ((HX.out.below hb8).below (alloc_below w8 (.cells #[.int .i64 N.k, .string N.fr, .string N.tg, .int .i64 N.ix, .slice ua N.kids.len uc] ( /- t -/ 25))))
            have HA8 := hide ((HA.out.below hb8).below (alloc_below w8 (.cells #[.int .i64 N.k, .string N.fr, .string N.tg, .int .i64 N.ix, .slice ua N.kids.len uc] ( /- t -/ 25))))
            have HG8 := hide ((HG.out.below hb8).below (alloc_below w8 (.cells #[.int .i64 N.k, .string N.fr, .string N.tg, .int .i64 N.ix, .slice ua N.kids.len uc] ( /- t -/ 25))))
            have HGL := hide HG.out.lt
            have HB8 := hide ((HB.out.trans (hb8.mono HB.out.size)).alloc (Nat.le_trans HB.out.size hb8.size) (.cells #[.int .i64 N.k, .string N.fr, .string N.tg, .int .i64 N.ix, .slice ua N.kids.len uc] ( /- t -/ 25)))
            have HN9 := hide (Box5.now w8 (.int .i64 N.k) (.string N.fr) (.string N.tg) (.int .i64 N.ix) (.slice ua N.kids.len uc) ( /- t -/ 25))
            have HOW := hide (how.same (Same.of_below (alloc_below w8 (.cells #[.int .i64 N.k, .string N.fr, .string N.tg, .int .i64 N.ix, .slice ua N.kids.len uc] ( /- t -/ 25))) how.lt))
            have HOL := hide how.lt
            have HGE := hide hge
            have HND := hide hnd
            have HF := hide hf
            have hz9 : (w8.alloc (.cells #[.int .i64 N.k, .string N.fr, .string N.tg, .int .i64 N.ix, .slice ua N.kids.len uc] ( /- t -/ 25))).heap.size = w8.heap.size + 1 := by simp
            have HZ9 := hide hz9
            have hAw := HA.out.lt
            clear x0 x1 x2 x3 x4 fx lx b0 b1 b2 b3 b4 fb lb HX HG HB HA how hge hnd hf hb8 hz9
            rcases hn with ⟨rfl, hn⟩ | ⟨q2, rfl, hn1, hn2, hn3⟩
            · go_upto_region 5 with fail
              generalize w8.alloc (.cells #[.int .i64 N.k, .string N.fr, .string N.tg, .int .i64 N.ix, .slice ua N.kids.len uc] ( /- t -/ 25)) = w9 at *
              obtain ⟨x0, x1, x2, x3, x4⟩ := HX8.out.cells
              have fx := HX8.out.frozen
              have lx := HX8.out.lt
              obtain ⟨b0, b1, b2, b3, b4⟩ := HA8.out.cells
              have lb := HA8.out.lt
              go_wp2_with fail
              refine bodyPost_ret (v := .tuple #[.agg #[.int .i64 2, .string fr, .string tg, .int .i64 0, .slice va acc.len vc], .int .i64 (-1)]) (by simp [results, Tryd.results168, go_sem, *]) rfl ?_
              exact wk_fin (N := ⟨2, fr, tg, 0, acc⟩) HG8.out.ow (fun x hx => by have := HG8.out.ge x hx; omega) HG8.out.nodup HB8.out ⟨HFR.out, HTG.out, show (Lit.int .i64 2).wf = true by decide, show (Lit.int .i64 0).wf = true by decide⟩ (Or.inl ⟨rfl, show acc.sz + p ≤ s.size by omega⟩) _ _ _ _ _
            · have hq0 : ¬ (q2 : Int) < 0 := by omega
              go_upto_region 7 with fail
              generalize w8.alloc (.cells #[.int .i64 N.k, .string N.fr, .string N.tg, .int .i64 N.ix, .slice ua N.kids.len uc] ( /- t -/ 25)) = w9 at *
              have hw89 : w8.heap.size < w9.heap.size := by have := HZ9.out; omega
              have HA9 := hide HA8.out.drew
              have HN9d := hide HN9.out.drew
              have HG9 := hide (HG8.out.below (w' := w9.drew) (Below.refl _ _).drew)
              have HOWd := hide (HOW.out.same (w' := w9.drew) (fun _ _ => rfl))
              obtain ⟨lab, hlab⟩ : ∃ lab, lab = s.extract (q + 1) (q + 2) := ⟨_, rfl⟩
              have hls : lab.size ≤ maxLen := by rw [hlab]; exact ext_size _ _ _ (by omega)
              have HL := hide hls
              have hexl : s.extract (q + 1) (q + 2) = lab := hlab.symm
              have hs1 : (0 : Int) ≤ (q : Int) + 1 := by omega
              have hw1 : IntKind.i64.wrap ((q : Int) + 1) = (q : Int) + 1 := by rw [IntKind.wrap_i64]; omega
              have hw2 : IntKind.i64.wrap ((q : Int) + 2) = (q : Int) + 2 := by rw [IntKind.wrap_i64]; omega
              have hn1' : ((q : Int) + 1).toNat = q + 1 := by omega
              have hn2' : ((q : Int) + 2).toNat = q + 2 := by omega
              have hs4 : (0 : Int) ≤ (q : Int) + 2 := by omega
              have hs2 : (q : Int) + 1 ≤ (q : Int) + 2 := by omega
              have hs3 : (q : Int) + 2 ≤ (s.size : Int) := by omega
              have a4 := HA9.out.cells.2.2.2.2
              clear hlab hls HOW HG8 HN9
              refine wp_region_T (fun w' => w'.cell? ⟨w.heap.size + 1, 4, none⟩ = some (.slice va acc.len vc) ∧ Box5 w' w8.heap.size (.int .i64 N.k) (.string N.fr) (.string N.tg) (.int .i64 N.ix) (.slice ua N.kids.len uc)) 13 (by kernel_rfl) ⟨a4, HN9d.out⟩ (fun hHeld => ?_)
              refine wpAnyT_take (L := 13) (i := 0) (v := ?vb0) rfl (by kernel_rfl) (by kernel_rfl) (by kernel_rfl) (by kernel_rfl) (fun _ _ _ h => h) hHeld (Or.inl ⟨by rfl, ?hyb0⟩) ?restb0
              case hyb0 => ((intro w' hw'); (obtain ⟨hq0, hq1⟩ := hw'); (obtain ⟨z0, z1, z2, z3, z4⟩ := hq1.cells); (go_simp); (try with_reducible rfl))
              (try simp only [Act.put]); (try simp only [List.setIfInBounds_toArray]); (try simp only [List.set_cons_zero]); (try simp only [List.set_cons_succ])
              refine wpAnyT_take (L := 13) (i := 1) (v := ?vb1) rfl (by kernel_rfl) (by kernel_rfl) (by kernel_rfl) (by kernel_rfl) (fun _ _ _ h => h) hHeld (Or.inl ⟨by rfl, ?hyb1⟩) ?restb1
              case hyb1 => ((intro w' hw'); (obtain ⟨hq0, hq1⟩ := hw'); (obtain ⟨z0, z1, z2, z3, z4⟩ := hq1.cells); (go_simp); (try with_reducible rfl))
              (try simp only [Act.put]); (try simp only [List.setIfInBounds_toArray]); (try simp only [List.set_cons_zero]); (try simp only [List.set_cons_succ])
              refine wpAnyT_take (L := 13) (i := 2) (v := ?vb2) rfl (by kernel_rfl) (by kernel_rfl) (by kernel_rfl) (by kernel_rfl) (fun _ _ _ h => h) hHeld (Or.inl ⟨by rfl, ?hyb2⟩) ?restb2
              case hyb2 => ((intro w' hw'); (obtain ⟨hq0, hq1⟩ := hw'); (obtain ⟨z0, z1, z2, z3, z4⟩ := hq1.cells); (go_simp); (try with_reducible rfl))
              (try simp only [Act.put]); (try simp only [List.setIfInBounds_toArray]); (try simp only [List.set_cons_zero]); (try simp only [List.set_cons_succ])
              refine wpAnyT_take (L := 13) (i := 3) (v := ?vb3) rfl (by kernel_rfl) (by kernel_rfl) (by kernel_rfl) (by kernel_rfl) (fun _ _ _ h => h) hHeld (Or.inl ⟨by rfl, ?hyb3⟩) ?restb3
              case hyb3 => ((intro w' hw'); (obtain ⟨hq0, hq1⟩ := hw'); (obtain ⟨z0, z1, z2, z3, z4⟩ := hq1.cells); (go_simp); (try with_reducible rfl))
              (try simp only [Act.put]); (try simp only [List.setIfInBounds_toArray]); (try simp only [List.set_cons_zero]); (try simp only [List.set_cons_succ])
              refine wpAnyT_take (L := 13) (i := 4) (v := ?vb4) rfl (by kernel_rfl) (by kernel_rfl) (by kernel_rfl) (by kernel_rfl) (fun _ _ _ h => h) hHeld (Or.inl ⟨by rfl, ?hyb4⟩) ?restb4
              case hyb4 => ((intro w' hw'); (obtain ⟨hq0, hq1⟩ := hw'); (obtain ⟨z0, z1, z2, z3, z4⟩ := hq1.cells); (go_simp); (try with_reducible rfl))
              (try simp only [Act.put]); (try simp only [List.setIfInBounds_toArray]); (try simp only [List.set_cons_zero]); (try simp only [List.set_cons_succ])
              refine wpAnyT_take (L := 13) (i := 5) (v := ?vb5) rfl (by kernel_rfl) (by kernel_rfl) (by kernel_rfl) (by kernel_rfl) (fun _ _ _ h => h) hHeld (Or.inl ⟨by rfl, ?hyb5⟩) ?restb5
              case hyb5 => ((intro w' hw'); (obtain ⟨hq0, hq1⟩ := hw'); (obtain ⟨z0, z1, z2, z3, z4⟩ := hq1.cells); (go_simp); (try with_reducible rfl))
              (try simp only [Act.put]); (try simp only [List.setIfInBounds_toArray]); (try simp only [List.set_cons_zero]); (try simp only [List.set_cons_succ])
              refine wpAnyT_take (L := 13) (i := 6) (v := ?vb6) rfl (by kernel_rfl) (by kernel_rfl) (by kernel_rfl) (by kernel_rfl) (fun _ _ _ h => h) hHeld (Or.inl ⟨by rfl, ?hyb6⟩) ?restb6
              case hyb6 => ((intro w' hw'); (obtain ⟨hq0, hq1⟩ := hw'); (obtain ⟨z0, z1, z2, z3, z4⟩ := hq1.cells); (go_simp); (try with_reducible rfl))
              (try simp only [Act.put]); (try simp only [List.setIfInBounds_toArray]); (try simp only [List.set_cons_zero]); (try simp only [List.set_cons_succ])
              refine wpAnyT_take (L := 13) (i := 7) (v := ?vb7) rfl (by kernel_rfl) (by kernel_rfl) (by kernel_rfl) (by kernel_rfl) (fun _ _ _ h => h) hHeld (Or.inl ⟨by rfl, ?hyb7⟩) ?restb7
              case hyb7 => ((intro w' hw'); (obtain ⟨hq0, hq1⟩ := hw'); (obtain ⟨z0, z1, z2, z3, z4⟩ := hq1.cells); (go_simp); (try with_reducible rfl))
              (try simp only [Act.put]); (try simp only [List.setIfInBounds_toArray]); (try simp only [List.set_cons_zero]); (try simp only [List.set_cons_succ])
              refine wpAnyT_take (L := 13) (i := 8) (v := ?vb8) rfl (by kernel_rfl) (by kernel_rfl) (by kernel_rfl) (by kernel_rfl) (fun _ _ _ h => h) hHeld (Or.inl ⟨by rfl, ?hyb8⟩) ?restb8
              case hyb8 => ((intro w' hw'); (obtain ⟨hq0, hq1⟩ := hw'); (obtain ⟨z0, z1, z2, z3, z4⟩ := hq1.cells); (go_simp); (try with_reducible rfl))
              (try simp only [Act.put]); (try simp only [List.setIfInBounds_toArray]); (try simp only [List.set_cons_zero]); (try simp only [List.set_cons_succ])
              refine wpAnyT_take (L := 13) (i := 9) (v := ?vb9) rfl (by kernel_rfl) (by kernel_rfl) (by kernel_rfl) (by kernel_rfl) (fun _ _ _ h => h) hHeld (Or.inl ⟨by rfl, ?hyb9⟩) ?restb9
              case hyb9 => ((intro w' hw'); (obtain ⟨hq0, hq1⟩ := hw'); (obtain ⟨z0, z1, z2, z3, z4⟩ := hq1.cells); (go_simp); (try with_reducible rfl))
              (try simp only [Act.put]); (try simp only [List.setIfInBounds_toArray]); (try simp only [List.set_cons_zero]); (try simp only [List.set_cons_succ])
              refine wpAnyT_one (L := 13) (i := 10) (by kernel_rfl) rfl (fun K hK => ?_)
              go_simp
              have hbi := alloc_below w9.drew (.cells #[.string lab, .int .i64 N.k, .string N.fr, .string N.tg, .int .i64 N.ix, .slice ua N.kids.len uc] ( /- t -/ 76))
              have HD6 := hide (And.intro (Still.of_below hbi _ _ hHeld.1) (hHeld.2.below hbi))
              refine hK.out _ _ (fun _ => HD6.out) ?_
              clear hK K
              (try simp only [Act.put]); (try simp only [List.setIfInBounds_toArray]); (try simp only [List.set_cons_zero]); (try simp only [List.set_cons_succ])
              refine wpAnyT_one (L := 13) (i := 11) (by kernel_rfl) rfl (fun K hK => ?_)
              have hgr5 := HG9.out.below hbi
              refine step_append_lies _ (by rfl) _ _ _ (by rfl) (w.heap.size + 2) ( /- t -/ 76) i0 _ 6 88 Tryd.underlying23 HI.out.1 HI.out.2.1 HI.out.2.2.1 HI.out.2.2.2 rfl (by omega) (.slice va acc.len vc) acc.len (grXs (w9.drew.alloc (.cells #[.string lab, .int .i64 N.k, .string N.fr, .string N.tg, .int .i64 N.ix, .slice ua N.kids.len uc] ( /- t -/ 76))) (.slice va acc.len vc) acc) (by rfl) hgr5.owns
                ⟨w9.heap.size, 0, none⟩ 1 1 [.string lab, .int .i64 N.k, .string N.fr, .string N.tg, .int .i64 N.ix, .slice ua N.kids.len uc] (by rfl) (by rfl) (World.news_of_block (cs := #[.string lab, .int .i64 N.k, .string N.fr, .string N.tg, .int .i64 N.ix, .slice ua N.kids.len uc]) (t := ( /- t -/ 76)) (fr := (0, 0)) (heap_alloc_new w9.drew _)) (by simp [Value.oneCell'])
                (by omega) (by unfold maxLen; omega) (by omega) (by simp; omega) _ rfl ?_
              intro gg cp w6 hown6 hgrow6 hat6 hlt6
              have hfarb : ∀ b8, b8 < w.heap.size + 2 → w6.heap[b8]? = w9.heap[b8]? := fun b8 hb8 => by
                exact (hgrow6.block b8 (by simp; omega) (fun e => by have := hgr5.ge b8 (hgr5.block b8 e.symm); omega)).trans (show (w9.alloc (.cells #[.string lab, .int .i64 N.k, .string N.fr, .string N.tg, .int .i64 N.ix, .slice ua N.kids.len uc] ( /- t -/ 76))).heap[b8]? = _ from Below.heap_alloc _ _ _ (by omega))
              have hA6 := HA8.out.same (hfarb (w.heap.size + 1) (by omega))
              have hw8n : w6.heap[w8.heap.size]? = w9.heap[w8.heap.size]? := by
                exact (hgrow6.block _ (by simp; omega) (fun e => by have := HGL.out _ (hgr5.block _ e.symm); omega)).trans (show (w9.alloc (.cells #[.string lab, .int .i64 N.k, .string N.fr, .string N.tg, .int .i64 N.ix, .slice ua N.kids.len uc] ( /- t -/ 76))).heap[w8.heap.size]? = _ from Below.heap_alloc _ _ _ (by omega))
              have HD7 := hide (And.intro hA6.cells.2.2.2.2 (HN9d.out.same (w' := w6) hw8n))
              refine hK.out _ _ (fun _ => HD7.out) ?_
              clear hK K
              (try simp only [Act.put]); (try simp only [List.setIfInBounds_toArray]); (try simp only [List.set_cons_zero]); (try simp only [List.set_cons_succ])
              refine wpAnyT_take (L := 13) (i := 12) (v := ?vb12) rfl (by kernel_rfl) (by kernel_rfl) (by kernel_rfl) (by kernel_rfl) (fun _ _ _ h => h) HD7.out (Or.inl ⟨by rfl, ?hyb12⟩) ?restb12
              case hyb12 => ((intro w' hw'); (obtain ⟨hq0, hq1⟩ := hw'); (obtain ⟨z0, z1, z2, z3, z4⟩ := hq1.cells); (go_simp); (try with_reducible rfl))
              (try simp only [Act.put]); (try simp only [List.setIfInBounds_toArray]); (try simp only [List.set_cons_zero]); (try simp only [List.set_cons_succ])
              have o4 := hA6.cells.2.2.2.2
              have fo := hA6.frozen
              have lo := hA6.lt
              refine wpAnyT_one (L := 13) (i := 13) (by kernel_rfl) rfl (fun K hK => ?_)
              go_simp
              refine hK.out _ _ (fun h => absurd rfl h) ?_
              refine wpAnyT_done (by kernel_rfl) ?_ _
              clear hK K
              have hou := HOWd.out.same (Same.of_below hbi HOWd.out.lt)
              obtain ⟨q1, q2', q3, q4⟩ := HF.out
              obtain ⟨bs', hpush, -⟩ := Gr.push hgr5 (k := N.k) (ix := N.ix) hou (fun x hx => by have h9 := HGE.out x hx; omega) HND.out
                (fun x hx hx2 => by have h1 := HGL.out x hx; have h2 := HGE.out x hx2; omega) HL.out q1 q2' q3 q4 hown6 hgrow6 (by rcases hat6 with h | h; exact Or.inl h; exact Or.inr h)
              have hwf : ∀ x, x ≠ w.heap.size + 1 → (w6.setCell ⟨w.heap.size + 1, 4, none⟩ (.slice (some ⟨gg, 0, none⟩) (acc.len + 1) cp)).heap[x]? = w6.heap[x]? := fun x hx => Below.heap_setCell _ _ _ _ hx
              have hB6 : Below w.heap.size w w6 := by
                have h2 := HB8.out.drew.trans (hbi.mono (by have := HB8.out.size; simp; omega))
                exact ⟨hgrow6.os.trans h2.os, hgrow6.tape.trans h2.tape, hgrow6.output.trans h2.output, Nat.le_trans h2.size hgrow6.size, fun x hx => (hgrow6.block x (Nat.lt_of_lt_of_le hx h2.size) (fun e => by
                  have h1 := hgr5.ge x (hgr5.block x e.symm)
                  omega)).trans (h2.block x hx)⟩
              have HREL : Hid (MsRel s p w fr tg (.int .i64 (q2 : Nat)) (w6.setCell ⟨w.heap.size + 1, 4, none⟩ (.slice (some ⟨gg, 0, none⟩) (acc.len + 1) cp))) := hide
                ⟨q2, acc.app (.cons lab N.k N.fr N.tg N.ix N.kids .nil), _, bs', rfl, hn2, by rw [F.sz_app]; simp only [F.sz]; omega, by rw [F.len_app]; simp only [F.len]; omega, hA6.set4 _,
                  hpush.same (fun x hx => hwf x (by have := hpush.ge x hx; omega)), hB6.setCell (by simp) _, HX8.out.same ((hwf _ (by omega)).trans (hfarb _ (by omega)))⟩
              clear hpush hou hB6 hown6 hgrow6 hat6 hgr5 hfarb hA6 o4 fo lo HD6 HD7 HA8 HA9 HX8 HB8 HN9d HG9 HOWd
              go_wp2_with fail
              go_roundw
              case rel => exact HREL.out
              case measure => simp [intOf]; omega
          case neg =>
            have n2 : (((s[q]'hin).toNat : Int) == 124) = false := beq_eq_false_iff_ne.2 c2
            by_cases hqe : s.size ≤ q
            · omega
            · have hinq : q < s.size := by omega
              have hqi : ¬ (s.size : Int) ≤ (q : Int) := by omega
              by_cases c125 : ((s[q]'hinq).toNat : Int) = 125
              · go_wp2_with fail
                refine bodyPost_ret (v := .tuple #[.agg #[.int .i64 2, .string fr, .string tg, .int .i64 0, .slice va acc.len vc], .int .i64 ((q + 1 : Nat) : Int)]) (by simp [results, Tryd.results168, go_sem, *]) rfl ?_
                exact wk_fin (N := ⟨2, fr, tg, 0, acc⟩) HG.out.ow (fun x hx => by have := HG.out.ge x hx; omega) HG.out.nodup HB.out ⟨HFR.out, HTG.out, show (Lit.int .i64 2).wf = true by decide, show (Lit.int .i64 0).wf = true by decide⟩ (Or.inr ⟨q + 1, rfl, by omega, by omega, show acc.sz + p + 1 ≤ q + 1 by omega⟩) _ _ _ _ _
              · have n125 : (((s[q]'hinq).toNat : Int) != 125) = true := by simp [c125]
                go_wp2_with fail
                refine bodyPost_ret (v := .tuple #[.agg #[.int .i64 2, .string fr, .string tg, .int .i64 0, .slice va acc.len vc], .int .i64 (-1)]) (by simp [results, Tryd.results168, go_sem, *]) rfl ?_
                exact wk_fin (N := ⟨2, fr, tg, 0, acc⟩) HG.out.ow (fun x hx => by have := HG.out.ge x hx; omega) HG.out.nodup HB.out ⟨HFR.out, HTG.out, show (Lit.int .i64 2).wf = true by decide, show (Lit.int .i64 0).wf = true by decide⟩ (Or.inl ⟨rfl, show acc.sz + p ≤ s.size by omega⟩) _ _ _ _ _
end Go.Proofs.YtfppglfajbmapaaDoor
