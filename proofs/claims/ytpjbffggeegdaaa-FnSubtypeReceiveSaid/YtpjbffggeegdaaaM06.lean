/- Pob -/
import Derived.Test.YtpjbffggeegdaaaM05
/- l2ParseAction of the model: sp_send. -/
namespace Go.Proofs.Ytpjbffggeegdaaa.Lo.Ne
open Go.RowKit

set_option maxHeartbeats 6000000 in
set_option maxRecDepth 100000 in
theorem sp_send (d : Nat) (hd : d ≤ 40) (ih : SpAt d) (w : World) (T : List UInt8) (p : Nat) (hT : T.length ≤ 1048576) (hp : p + 2 < T.length) (R : Option (F × List UInt8)) (hR : R = spB (sp d) 5 (T.drop (p + 2)) .nil) (r : Option (Nd × List UInt8))
    (h33 : hdC (T.drop (p + 1)) = 33)
    (hr : r = R.map (fun q => (⟨2, ⟨#[hdC (T.drop p)]⟩, 0, q.1⟩, q.2))) :
    Calls Try.prog 49 #[.string (bs T), .int .i64 (p : Nat), .int .i64 ((d + 1 : Nat) : Int)] w (SpPost T r w) := by
  have hsz : (bs T).size = T.length := bs_size T
  obtain ⟨hin, hget, hdr⟩ := head_at (show p < T.length by omega)
  obtain ⟨hin1, hget1, hdr1⟩ := head_at (show p + 1 < T.length by omega)
  have hex : (bs T).extract p (p + 1) = ⟨#[hdC (T.drop p)]⟩ := by
    apply ByteArray.ext
    simp only [bs, ByteArray.data_extract, List.extract_toArray]
    rw [List.extract_eq_take_drop, show p + 1 - p = 1 by omega, hdr]
    rfl
  have hlt : (p : Int) < (T.length : Int) := by omega
  have hlt1 : (p : Int) + 1 < (T.length : Int) := by omega
  generalize hpr : (⟨#[hdC (T.drop p)]⟩ : ByteArray) = pr at *
  have HRR := hide hr
  have HR0 := hide hR
  have HIH := hide ih
  obtain ⟨i0, hi, hz0, hz1, hz2⟩ := info_parts inf_lb
  have HI := hide (And.intro hi (And.intro hz0 (And.intro hz1 hz2)))
  have hx0 := (Box4.now w (.int .i64 0) (.string ⟨#[]⟩) (.int .i64 0) (.slice none 0 0) ( /- t -/ 25)).below (alloc_below _ (.cells #[.int .i64 2, .string pr, .int .i64 0, .slice none 0 0] ( /- t -/ 25)))
  have ha0 := Box4.now (w.alloc (.cells #[.int .i64 0, .string ⟨#[]⟩, .int .i64 0, .slice none 0 0] ( /- t -/ 25))) (.int .i64 2) (.string pr) (.int .i64 0) (.slice none 0 0) ( /- t -/ 25)
  rw [show (w.alloc (.cells #[.int .i64 0, .string ⟨#[]⟩, .int .i64 0, .slice none 0 0] ( /- t -/ 25))).heap.size = w.heap.size + 1 from by simp] at ha0
  have hb0 : Below w.heap.size w ((w.alloc (.cells #[.int .i64 0, .string ⟨#[]⟩, .int .i64 0, .slice none 0 0] ( /- t -/ 25))).alloc (.cells #[.int .i64 2, .string pr, .int .i64 0, .slice none 0 0] ( /- t -/ 25))) := (alloc_below w _).alloc (by simp) _
  clear hi hz0 hz1 hz2 hpr hr hR ih hget hdr hdr1
  have hcb : (((bs T)[p + 1]'hin1).toNat : Int) = 33 := by rw [hget1, h33]; rfl
  have HX := hide hx0
  have HA := hide ha0
  have HB := hide hb0
  all_goals
    (clear hx0 ha0 hb0 h33 hget1
     rw [show ((d + 1 : Nat) : Int) = (d : Int) + 1 by omega]
     go_enter Try.func49, Try.ntmps49
     go_wp2_with fail
     go_loopw [1] (fun iv wr => SpRel T (sp d) R 2 pr (w.heap.size + 1) w iv wr) (fun _ wr => 5 - bxLen wr (w.heap.size + 1))
     case atStart =>
       exact ⟨5, p + 2, .nil, _, [], congrArg (Value.int .i64) (by omega), by omega, HA.out, Gr.nil _ _, rfl, HR0.out.symm, HB.out, HX.out⟩
     case round =>
       obtain ⟨j, q, acc, v, bs2, rfl, hq, hbx, hgr, hj, hB, hb, hz⟩ := hrel
       obtain ⟨va, vc, rfl⟩ := hgr.val
       clear HX HA HB
       have HR := hide hB
       have HX := hide hz
       have HA := hide hbx
       have HG := hide hgr
       have HB := hide hb
       clear hB hz hbx hgr hb HR0
       obtain ⟨x0, x1, x2, x3⟩ := HX.out.cells
       have fx := box4_frozen HX.out
       have lx := HX.out.lt
       obtain ⟨b0, b1, b2, b3⟩ := HA.out.cells
       have al := HA.out.lt
       by_cases hgo : acc.len ≤ 4 ∧ q + 1 < T.length ∧ (hdC (T.drop q) = 123 ∨ hdC (T.drop q) = 124)
       case neg =>
         have HOUT : Hid (R = exB (T.drop q) acc) := by
           unfold Hid
           rw [← HR.out]
           cases j with
           | zero => rfl
           | succ j =>
             rw [spB, if_neg]
             intro h
             exact hgo ⟨by omega, goes_iff.1 h⟩
         clear HR
         by_cases hl4 : acc.len ≤ 4
         case neg =>
           have hl5 : ¬ (acc.len : Int) ≤ 4 := by omega
           clear hgo
           by_cases hqe : T.length ≤ q
           · have HN := hide (show r = none by rw [HRR.out, HOUT.out, exB_end hqe]; rfl)
             have hge : (T.length : Int) ≤ (q : Int) := by omega
             clear hqe HRR HOUT
             go_wp2_with fail
             refine bodyPost_ret (v := .tuple #[.agg #[.int .i64 2, .string pr, .int .i64 0, .slice va acc.len vc], .int .i64 (-1)]) (by simp [results, Try.results49, go_sem, *]) rfl ?_
             exact sp_not HN.out (below_set4 HB.out (Nat.le_refl _) _ _ _ _)
           have hqlt : q < T.length := by omega
           obtain ⟨hinq, hgetq, -⟩ := head_at hqlt
           have hge : ¬ (T.length : Int) ≤ (q : Int) := by omega
           by_cases hce : hdC (T.drop q) = 125
           · have HN := hide (show r = some (⟨2, pr, 0, acc⟩, T.drop (q + 1)) by rw [HRR.out, HOUT.out, exB_yes hqlt hce]; rfl)
             have hcf : (((bs T)[q]'hinq).toNat : Int) = 125 := by rw [hgetq, hce]; rfl
             clear hce hgetq HRR HOUT
             go_wp2_with fail
             refine bodyPost_ret (v := .tuple #[.agg #[.int .i64 2, .string pr, .int .i64 0, .slice va acc.len vc], .int .i64 (((q + 1 : Nat) : Int))]) (by simp [results, Try.results49, go_sem, *]) rfl ?_
             exact sp_yes (N := ⟨2, pr, 0, acc⟩) HN.out (by omega) rfl (below_set4 HB.out (Nat.le_refl _) _ _ _ _) (ow_set4 HG.out.ow (fun b hb => by have := HG.out.ge b hb; omega) _ _ _ _) (fun b hb => by have := HG.out.ge b hb; omega) HG.out.nodup
           · have HN := hide (show r = none by rw [HRR.out, HOUT.out, exB_no hqlt hce]; rfl)
             have hcf : (((bs T)[q]'hinq).toNat : Int) ≠ 125 := by rw [hgetq]; exact fun h => hce (UInt8.toNat_inj.1 (by show _ = 125; omega))
             clear hce hgetq HRR HOUT
             go_wp2_with fail
             refine bodyPost_ret (v := .tuple #[.agg #[.int .i64 2, .string pr, .int .i64 0, .slice va acc.len vc], .int .i64 (-1)]) (by simp [results, Try.results49, go_sem, *]) rfl ?_
             exact sp_not HN.out (below_set4 HB.out (Nat.le_refl _) _ _ _ _)
         case pos =>
           have hl5 : (acc.len : Int) ≤ 4 := by omega
           by_cases hq1 : q + 1 < T.length
           case neg =>
             have hq2 : ¬ (q : Int) + 1 < (T.length : Int) := by omega
             clear hgo
             by_cases hqe : T.length ≤ q
             · have HN := hide (show r = none by rw [HRR.out, HOUT.out, exB_end hqe]; rfl)
               have hge : (T.length : Int) ≤ (q : Int) := by omega
               clear hqe HRR HOUT
               go_wp2_with fail
               refine bodyPost_ret (v := .tuple #[.agg #[.int .i64 2, .string pr, .int .i64 0, .slice va acc.len vc], .int .i64 (-1)]) (by simp [results, Try.results49, go_sem, *]) rfl ?_
               exact sp_not HN.out (below_set4 HB.out (Nat.le_refl _) _ _ _ _)
             have hqlt : q < T.length := by omega
             obtain ⟨hinq, hgetq, -⟩ := head_at hqlt
             have hge : ¬ (T.length : Int) ≤ (q : Int) := by omega
             by_cases hce : hdC (T.drop q) = 125
             · have HN := hide (show r = some (⟨2, pr, 0, acc⟩, T.drop (q + 1)) by rw [HRR.out, HOUT.out, exB_yes hqlt hce]; rfl)
               have hcf : (((bs T)[q]'hinq).toNat : Int) = 125 := by rw [hgetq, hce]; rfl
               clear hce hgetq HRR HOUT
               go_wp2_with fail
               refine bodyPost_ret (v := .tuple #[.agg #[.int .i64 2, .string pr, .int .i64 0, .slice va acc.len vc], .int .i64 (((q + 1 : Nat) : Int))]) (by simp [results, Try.results49, go_sem, *]) rfl ?_
               exact sp_yes (N := ⟨2, pr, 0, acc⟩) HN.out (by omega) rfl (below_set4 HB.out (Nat.le_refl _) _ _ _ _) (ow_set4 HG.out.ow (fun b hb => by have := HG.out.ge b hb; omega) _ _ _ _) (fun b hb => by have := HG.out.ge b hb; omega) HG.out.nodup
             · have HN := hide (show r = none by rw [HRR.out, HOUT.out, exB_no hqlt hce]; rfl)
               have hcf : (((bs T)[q]'hinq).toNat : Int) ≠ 125 := by rw [hgetq]; exact fun h => hce (UInt8.toNat_inj.1 (by show _ = 125; omega))
               clear hce hgetq HRR HOUT
               go_wp2_with fail
               refine bodyPost_ret (v := .tuple #[.agg #[.int .i64 2, .string pr, .int .i64 0, .slice va acc.len vc], .int .i64 (-1)]) (by simp [results, Try.results49, go_sem, *]) rfl ?_
               exact sp_not HN.out (below_set4 HB.out (Nat.le_refl _) _ _ _ _)
           case pos =>
             have hq2 : (q : Int) + 1 < (T.length : Int) := by omega
             have hqlt : q < T.length := by omega
             have hn3 : hdC (T.drop q) ≠ 123 := fun h => hgo ⟨hl4, hq1, Or.inl h⟩
             have hn4 : hdC (T.drop q) ≠ 124 := fun h => hgo ⟨hl4, hq1, Or.inr h⟩
             obtain ⟨hinz, hgetz, -⟩ := head_at hqlt
             have hm3 : (((bs T)[q]'hinz).toNat : Int) ≠ 123 := by rw [hgetz]; exact fun h => hn3 (UInt8.toNat_inj.1 (by show _ = 123; omega))
             have hm4 : (((bs T)[q]'hinz).toNat : Int) ≠ 124 := by rw [hgetz]; exact fun h => hn4 (UInt8.toNat_inj.1 (by show _ = 124; omega))
             have hm5 := beq_eq_false_iff_ne.2 hm3
             have hm6 := beq_eq_false_iff_ne.2 hm4
             clear hgo hn3 hn4 hgetz hm3 hm4
             obtain ⟨hinq, hgetq, -⟩ := head_at hqlt
             have hge : ¬ (T.length : Int) ≤ (q : Int) := by omega
             by_cases hce : hdC (T.drop q) = 125
             · have HN := hide (show r = some (⟨2, pr, 0, acc⟩, T.drop (q + 1)) by rw [HRR.out, HOUT.out, exB_yes hqlt hce]; rfl)
               have hcf : (((bs T)[q]'hinq).toNat : Int) = 125 := by rw [hgetq, hce]; rfl
               clear hce hgetq HRR HOUT
               go_wp2_with fail
               refine bodyPost_ret (v := .tuple #[.agg #[.int .i64 2, .string pr, .int .i64 0, .slice va acc.len vc], .int .i64 (((q + 1 : Nat) : Int))]) (by simp [results, Try.results49, go_sem, *]) rfl ?_
               exact sp_yes (N := ⟨2, pr, 0, acc⟩) HN.out (by omega) rfl (below_set4 HB.out (Nat.le_refl _) _ _ _ _) (ow_set4 HG.out.ow (fun b hb => by have := HG.out.ge b hb; omega) _ _ _ _) (fun b hb => by have := HG.out.ge b hb; omega) HG.out.nodup
             · have HN := hide (show r = none by rw [HRR.out, HOUT.out, exB_no hqlt hce]; rfl)
               have hcf : (((bs T)[q]'hinq).toNat : Int) ≠ 125 := by rw [hgetq]; exact fun h => hce (UInt8.toNat_inj.1 (by show _ = 125; omega))
               clear hce hgetq HRR HOUT
               go_wp2_with fail
               refine bodyPost_ret (v := .tuple #[.agg #[.int .i64 2, .string pr, .int .i64 0, .slice va acc.len vc], .int .i64 (-1)]) (by simp [results, Try.results49, go_sem, *]) rfl ?_
               exact sp_not HN.out (below_set4 HB.out (Nat.le_refl _) _ _ _ _)
       case pos =>
         obtain ⟨hl4, hq1, hqc⟩ := hgo
         obtain ⟨j, rfl⟩ : ∃ j', j = j' + 1 := ⟨j - 1, by omega⟩
         obtain ⟨lab, hlab⟩ : ∃ lab : ByteArray, lab = ⟨#[hdC (T.drop (q + 1))]⟩ := ⟨_, rfl⟩
         have hlabs : lab.size = 1 := by rw [hlab]; rfl
         have HR2 : Hid ((match sp d (T.drop (q + 2)) with | some (N, t) => spB (sp d) j t (acc.app (brn lab N)) | none => none) = R) := by
           unfold Hid
           rw [← HR.out, spB, if_pos (goes_iff.2 ⟨hq1, hqc⟩), List.tail_drop, List.tail_drop, hlab]
           rfl
         obtain ⟨hinq, hgetq, -⟩ := head_at (show q < T.length by omega)
         obtain ⟨hinq1, -, hdrq⟩ := head_at hq1
         have hexl : (bs T).extract (q + 1) (q + 2) = lab := by
           rw [hlab]
           apply ByteArray.ext
           simp only [bs, ByteArray.data_extract, List.extract_toArray]
           rw [List.extract_eq_take_drop, show q + 2 - (q + 1) = 1 by omega, hdrq]
           rfl
         have hl5 : (acc.len : Int) ≤ 4 := by omega
         have hq2 : (q : Int) + 1 < (T.length : Int) := by omega
         have hq4 : (q : Int) + 2 ≤ (T.length : Int) := by omega
         have hcq : (((bs T)[q]'hinq).toNat : Int) = 123 ∨ (((bs T)[q]'hinq).toNat : Int) = 124 := by
           rw [hgetq]
           rcases hqc with h | h <;> rw [h]
           · exact Or.inl rfl
           · exact Or.inr rfl
         clear HR hqc hgetq hdrq hlab
         rcases hcq with hcq | hcq
         all_goals
           (go_wp2_with fail
            rw [show (q : Int) + 2 = ((q + 2 : Nat) : Int) by omega]
            first
              | rw [show ((d + 1 : Nat) : Int) - 1 = (d : Int) by omega]
              | skip
            refine (HIH.out wr T (q + 2) hT (by omega)).mono ?_
            intro e w8 hp8
            have HX8 := hide (HX.out.below hp8.1)
            have HA8 := hide (HA.out.below hp8.1)
            have HG8 := hide (HG.out.below hp8.1)
            have HGL := hide HG.out.lt
            have HB8 := hide (HB.out.trans (hp8.1.mono HB.out.size))
            have hs8 := hp8.1.size
            clear x0 x1 x2 x3 fx lx b0 b1 b2 b3 HX HG HB
            have hAw := HA.out.lt
            have HML := hide (bxLen_eq HA.out)
            clear HA
            cases hq3 : sp d (T.drop (q + 2)) with
            | none =>
              obtain ⟨k, fr, ix, a, m, cp, rfl⟩ := hp8.2.2 hq3
              have HN := hide (show r = none by
                have h := HR2.out
                rw [hq3] at h
                rw [HRR.out, ← h]
                rfl)
              obtain ⟨x0, x1, x2, x3⟩ := HX8.out.cells
              have fx := box4_frozen HX8.out
              have lx := HX8.out.lt
              obtain ⟨b0, b1, b2, b3⟩ := HA8.out.cells
              have bl8 := HA8.out.lt
              clear hp8 hq3
              go_wp2_with fail
              refine bodyPost_ret (v := .tuple #[.agg #[.int .i64 2, .string pr, .int .i64 0, .slice va acc.len vc], .int .i64 (-1)]) (by simp [results, Try.results49, go_sem, *]) rfl ?_
              exact sp_not HN.out ((below_set4 HB8.out (Nat.le_refl _) _ _ _ _).alloc (by simp; omega) _)
            | some qq =>
              obtain ⟨N, t⟩ := qq
              obtain ⟨q', u, bs3, hq', ht, rfl, how, hge, hnd⟩ := hp8.2.1 N t hq3
              have HF := hide (sp_fit _ _ _ _ hq3)
              have HR3 := hide (show spB (sp d) j (T.drop q') (acc.app (brn lab N)) = R by
                have h := HR2.out
                rw [hq3] at h
                rw [← ht]
                exact h)
              obtain ⟨ua, uc, rfl⟩ := how.val
              have HOW := hide how
              have HGE := hide hge
              obtain ⟨b0, b1, b2, b3⟩ := HA8.out.cells
              have fo := box4_frozen HA8.out
              have bl8 := HA8.out.lt
              have lx8 := HX8.out.lt
              have hq0 : ¬ (q' : Int) < 0 := by omega
              clear hp8 hq3 how hge HR2 ht
              have hs1 : (0 : Int) ≤ (q : Int) + 1 := by omega
              have hw1 : IntKind.i64.wrap ((q : Int) + 1) = (q : Int) + 1 := by rw [IntKind.wrap_i64]; omega
              have hw2 : IntKind.i64.wrap ((q : Int) + 2) = (q : Int) + 2 := by rw [IntKind.wrap_i64]; omega
              have hn1 : ((q : Int) + 1).toNat = q + 1 := by omega
              have hn2 : ((q : Int) + 2).toNat = q + 2 := by omega
              have hs2 : (q : Int) + 1 ≤ (q : Int) + 2 := by omega
              have hs3 : (q : Int) + 2 ≤ ((bs T).size : Int) := by omega
              have hnw := heap_alloc_new (w8.alloc (.cells #[.int .i64 N.k, .string N.fr, .int .i64 N.ix, .slice ua N.kids.len uc] ( /- t -/ 25))) (.cells #[.string lab, .int .i64 N.k, .string N.fr, .int .i64 N.ix, .slice ua N.kids.len uc] ( /- t -/ 65))
              rw [show (w8.alloc (.cells #[.int .i64 N.k, .string N.fr, .int .i64 N.ix, .slice ua N.kids.len uc] ( /- t -/ 25))).heap.size = w8.heap.size + 1 by simp] at hnw
              have HNW := hide hnw
              have HB10 := hide ((alloc_below w8 (.cells #[.int .i64 N.k, .string N.fr, .int .i64 N.ix, .slice ua N.kids.len uc] ( /- t -/ 25))).alloc (by simp) (.cells #[.string lab, .int .i64 N.k, .string N.fr, .int .i64 N.ix, .slice ua N.kids.len uc] ( /- t -/ 65)))
              clear hnw
              go_wp2_with fail
              go_region_law
                (refine step_append_lies _ (by rfl) _ _ _ (by rfl) (w.heap.size + 1 + 1) ( /- t -/ 65) i0 _ 5 72 Try.underlying23 HI.out.1 HI.out.2.1 HI.out.2.2.1 HI.out.2.2.2 rfl (by omega) (.slice va acc.len vc) acc.len (grXs ((w8.alloc (.cells #[.int .i64 N.k, .string N.fr, .int .i64 N.ix, .slice ua N.kids.len uc] ( /- t -/ 25))).alloc (.cells #[.string lab, .int .i64 N.k, .string N.fr, .int .i64 N.ix, .slice ua N.kids.len uc] ( /- t -/ 65))) (.slice va acc.len vc) acc) (by rfl) ((HG8.out.below HB10.out).owns).drew ⟨w8.heap.size + 1, 0, none⟩ 1 1 [.string lab, .int .i64 N.k, .string N.fr, .int .i64 N.ix, .slice ua N.kids.len uc] (by rfl) (by rfl) (World.news_of_block (cs := #[.string lab, .int .i64 N.k, .string N.fr, .int .i64 N.ix, .slice ua N.kids.len uc]) (t := ( /- t -/ 65)) (fr := (0, 0)) HNW.out) (by simp [Value.oneCell'])
                    (by omega) (by unfold maxLen; omega) (by omega) (by simp; omega) (w8.heap.size + 2) (by simp) ?_; intro gg cp w11 hown6 hgrow6 hat6 hlt6;
                  have hgr6 := HG8.out.below HB10.out.drew;
                  have hb6 := (HA8.out.below HB10.out.drew).same (hgrow6.block (w.heap.size + 1) (by simp; omega) (fun e => by have := hgr6.ge _ (hgr6.block _ e.symm); omega));
                  have e4 := hb6.cells.2.2.2;
                  have ef := box4_frozen hb6;
                  have el := hb6.lt)
              all_goals
                (go_wp2_with fail
                 obtain ⟨f1, f2, f3⟩ := HF.out
                 have hou := HOW.out.same (Same.of_below HB10.out.drew HOW.out.lt)
                 obtain ⟨bs', hpush, -⟩ := Gr.push hgr6 (lab := lab) (fr := N.fr) (k := N.k) (ix := N.ix) hou (fun b hb => by have := HGE.out b hb; omega) hnd
                   (fun b hb hb2 => by have h8 := HGL.out b hb; have h9 := HGE.out b hb2; omega) (Nat.le_trans (Nat.le_of_eq hlabs) (by decide)) (Nat.le_trans f1 (by decide)) f2 f3 hown6 hgrow6 (by rcases hat6 with h | h; exact Or.inl h; exact Or.inr (by rw [h]; simp))
                 have far : ∀ b, b < w.heap.size + 1 → (w11.setCell ⟨w.heap.size + 1, 3, none⟩ (.slice (some ⟨gg, 0, none⟩) (acc.len + 1) cp)).heap[b]? = w8.heap[b]? := fun b hb => by
                   rw [Below.heap_setCell _ _ _ _ (by simp; omega), hgrow6.block b (by simp; omega) (fun e => by have := hgr6.ge b (hgr6.block b e.symm); omega), HB10.out.drew.block b (by omega)]
                 have hss : w8.heap.size ≤ (w11.setCell ⟨w.heap.size + 1, 3, none⟩ (.slice (some ⟨gg, 0, none⟩) (acc.len + 1) cp)).heap.size := by have := hgrow6.size; simp at this ⊢; omega
                 refine ⟨⟨j, q', acc.app (brn lab N), _, bs', rfl, hq', box4_set3 hb6 _,
                   hpush.same (fun b hb => Below.heap_setCell _ _ _ _ (by have := hpush.ge b hb; simp; omega)), by rw [F.len_app]; simp only [brn, F.len]; omega, HR3.out, ?_, HX8.out.same (far _ (by omega))⟩, ?_⟩
                 · have hws := HB8.out.size
                   exact ⟨hgrow6.os.trans (HB10.out.drew.os.trans HB8.out.os), hgrow6.tape.trans (HB10.out.drew.tape.trans HB8.out.tape), hgrow6.output.trans (HB10.out.drew.output.trans HB8.out.output), Nat.le_trans hws hss, fun b hb => (far b (by omega)).trans (HB8.out.block b hb)⟩
                 · have e1 := bxLen_eq (box4_set3 hb6 (.slice (some ⟨gg, 0, none⟩) (acc.len + 1) cp))
                   have e2 := HML.out
                   omega)))
end Go.Proofs.Ytpjbffggeegdaaa.Lo.Ne
