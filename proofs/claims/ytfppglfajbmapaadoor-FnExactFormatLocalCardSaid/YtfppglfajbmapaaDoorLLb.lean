/- linkNode of the program: the walk of an action; linkNode whole; linkLocal. -/
import Derived.Test.YtfppglfajbmapaaDoorLLa
namespace Go.Proofs.YtfppglfajbmapaaDoor.Lo
open Go.RowKit

set_option maxHeartbeats 3200000 in
set_option maxRecDepth 100000 in
theorem li_act (n : Nat) (ih : LiAt n) (w : World) (k ix depth ung : Int) (fr : ByteArray) (sv lv : Value) (kids : F) (ps : List Nat) (c m : Nat) (hkk : k = 2 ∨ k = 3) (hn : kids.sz < n + 1) (hp : Ps w lv ps) (hpl : ∀ l, l ∈ ps → l < w.heap.size) (hs : Sl w sv kids) (hc : Ctr w c m) (hm : m ≤ 399)
    (hd0 : 1 ≤ depth) (hd : depth ≤ 40) (hlen : ps.length + 1 ≤ depth) (hsh : shapeB k fr ix kids = true) :
    Calls Tryd.prog 99 #[.agg #[.int .i64 k, .string fr, .int .i64 ix, sv], .agg #[.int .i64 depth, lv, .int .i64 ung], .pointer (some ⟨c, 0, none⟩)] w
      (LiPost c w m k fr ix kids ps (vldN k fr ix kids ps.length ung (41 - depth))) := by
  obtain ⟨e1, rfl, e5⟩ := shape_act hkk hsh
  obtain ⟨i0, hi, hz0, hz1, hz2⟩ := info_parts Tryd.info178
  rw [act_valid hkk (by omega) hsh, show 41 - depth - 1 = 41 - (depth + 1) by omega]
  have hk1 : (k == 1) = false := beq_eq_false_iff_ne.2 (by omega)
  have hk4 : (k == 4) = false := beq_eq_false_iff_ne.2 (by omega)
  have hk5 : (k == 5) = false := beq_eq_false_iff_ne.2 (by omega)
  have hne : kids ≠ .nil := by
    rintro rfl
    simp [branchesB, F.len] at e5
  obtain ⟨a, cap, rfl, hlk, hat⟩ := hs.at
  unfold maxLen at hlk
  obtain ⟨pa, pc, rfl, -, -⟩ := hp.val
  have h0 := hc.cell
  have h1 : w.frozen? ⟨c, 0, none⟩ = false := hc.frozen
  have h2 := hc.lt
  have HA := hide hat
  have HS := hide hs
  have HSH := hide hsh
  have HN := hide hn
  have HP := hide hp
  have HPL := hide hpl
  have HKK := hide hkk
  have HNE := hide hne
  have HI := hide hi
  have HI0 := hide hz0
  have HI1 := hide hz1
  have HI2 := hide hz2
  clear hs hsh hat hn e1 e5 hp hpl hkk hne hi hz0 hz1 hz2
  go_enter Tryd.func99, Tryd.ntmps99
  go_wp2_with fail
  have q0 := li_start (cs := #[.int .i64 k, .string fr, .int .i64 0, .slice a kids.len cap]) (t := ( /- t -/ 35)) (ds := #[.int .i64 depth, .slice pa ps.length pc, .int .i64 ung]) (u := ( /- t -/ 105)) hc (Below.refl _ _)
  refine (implShape _ k 0 fr _ _ (HS.out.only hc q0.1)).mono ?_
  clear q0
  rintro e w1 ⟨rfl, hb⟩
  rw [HSH.out]
  obtain ⟨p1, p2, hz, b1, b2⟩ := li_start hc (hb.mono (by simp))
  have x0 : w1.cell? ⟨w.heap.size, 0, none⟩ = some (.int .i64 k) := b1.cell 0
  have x1 : w1.cell? ⟨w.heap.size, 1, none⟩ = some (.string fr) := b1.cell 1
  have x3 : w1.cell? ⟨w.heap.size, 3, none⟩ = some (.slice a kids.len cap) := b1.cell 3
  have hz1 : w.heap.size < w1.heap.size := by omega
  have HB2 := hide b2
  clear hb b1 b2
  go_wp2_with fail
  have hact := act_start k fr ps p2 ( /- t -/ 176)
  have HACT := hide hact
  have HP1 := hide p1
  clear hact p1 p2
  go_loopw [102] (fun iv wr => ∃ (p g : F) (mm : Nat) (v : Value) (xs : List Value) (bs : List Nat), kids = p.app g ∧ iv = .int .i64 (p.len : Nat) ∧ At w a p.len g ∧ mm ≤ 400 ∧ mm + g.sz = m + 1 + kids.sz ∧ vldF kids ps.length 0 (41 - (depth + 1)) = vldF g ps.length 0 (41 - (depth + 1)) ∧
    ActR w1 w1.heap.size c k fr ps p mm v xs bs wr) (fun iv _ => kids.len - (intOf iv).toNat)
  case atStart => exact ⟨.nil, kids, m + 1, _, [], [], rfl, rfl, HA.out, by omega, rfl, rfl, HACT.out⟩
  case round =>
    obtain ⟨p, g, mm, v, xs, bs, hke, rfl, hg, hmm, hsum, hvl, hA⟩ := hrel
    have HKE := hide hke
    have HSUM := hide hsum
    have HVL := hide hvl
    have HAC := hide hA
    clear hke hsum hvl hA
    cases g with
    | nil =>
      have hge : kids.len ≤ p.len := by rw [HKE.out, F.app_nil]; exact Nat.le_refl _
      go_wp2_with fail
      go_ret2
      have e : kids = p := by rw [HKE.out, F.app_nil]
      have h6 := HSUM.out
      simp only [F.sz] at h6
      have hne := HNE.out
      rw [HVL.out]
      rw [e] at h6 hne ⊢
      exact act_end HKK.out rfl HP1.out HAC.out hne (by omega) rfl (by omega)
    | cons lab kd fr' ix' kids' rest =>
      have hlt : p.len < kids.len := by rw [HKE.out, F.len_app]; simp only [F.len]; omega
      have HZ : Hid (kids'.sz < n) := by
        have h1 := HN.out
        rw [HKE.out, F.sz_app] at h1
        unfold Hid
        simp only [F.sz] at h1
        omega
      have hac := HAC.out
      have cr := hac.1
      have oA := HP1.out.trans hac.2.1
      obtain ⟨b', o, rfl, l1, l2, -, -, q0, q1, q2, q3, ⟨sv', q4, hsv⟩, -⟩ := (hg.only hc oA).head
      obtain ⟨ka, kc, rfl, -, -⟩ := hsv.at
      have hbr : b' < wr.heap.size := World.block_lt_of_cell? _ _ q0
      have hwr := hac.2.1.size
      have B2 := HB2.out.only hac.2.1 (by omega)
      have HPW := hide (HP.out.only hc oA)
      have HSV := hide hsv
      have HCR := hide cr
      have HOA := hide oA
      have HG := hide hg
      have HBX := hide B2
      have hcA : c < w1.heap.size := by omega
      clear hac cr oA hsv hg B2
      go_wp2_with fail
      have hbW := alloc_below wr (.cells #[.string lab, .int .i64 kd, .string fr', .int .i64 ix', .slice ka kids'.len kc] ( /- t -/ 38))
      have hbX := Blk.now wr #[.string lab, .int .i64 kd, .string fr', .int .i64 ix', .slice ka kids'.len kc] ( /- t -/ 38)
      have hXl : wr.heap.size < (wr.alloc (.cells #[.string lab, .int .i64 kd, .string fr', .int .i64 ix', .slice ka kids'.len kc] ( /- t -/ 38))).heap.size := by simp
      generalize (wr.alloc (.cells #[.string lab, .int .i64 kd, .string fr', .int .i64 ix', .slice ka kids'.len kc] ( /- t -/ 38))) = W at *
      have z0 : W.cell? ⟨wr.heap.size, 0, none⟩ = some (.string lab) := hbX.cell 0
      have z1 : W.cell? ⟨wr.heap.size, 1, none⟩ = some (.int .i64 kd) := hbX.cell 1
      have z2 : W.cell? ⟨wr.heap.size, 2, none⟩ = some (.string fr') := hbX.cell 2
      have z3 : W.cell? ⟨wr.heap.size, 3, none⟩ = some (.int .i64 ix') := hbX.cell 3
      have z4 : W.cell? ⟨wr.heap.size, 4, none⟩ = some (.slice ka kids'.len kc) := hbX.cell 4
      have BW := HBX.out.below hbW
      have y0 : W.cell? ⟨w.heap.size + 1, 0, none⟩ = some (.int .i64 depth) := BW.cell 0
      have y1 : W.cell? ⟨w.heap.size + 1, 1, none⟩ = some (.slice pa ps.length pc) := BW.cell 1
      have y2 : W.cell? ⟨w.heap.size + 1, 2, none⟩ = some (.int .i64 ung) := BW.cell 2
      have hsW : w.heap.size + 1 < W.heap.size := by omega
      have hpd : Ps W.drew (.slice pa ps.length pc) ps := Ps.still (w' := W.drew) (Still.of_below hbW.drew) HPW.out
      have HPD := hide hpd
      have hsvd : Sl W.drew (.slice ka kids'.len kc) kids' := Sl.still (w' := W.drew) (Still.of_below hbW.drew) HSV.out
      have HSVD := hide hsvd
      have hcd : Ctr W.drew c mm := (HCR.out.below hbW).drew
      have HCD := hide hcd
      have HBW := hide hbW
      have HBXX := hide hbX
      clear hpd hsvd hcd hbW hbX BW q0 q1 q2 q3 q4 HPW HSV HCR HBX x0 x1 x3
      go_region_held3 (fun w' => w'.cell? ⟨wr.heap.size, 1, none⟩ = some (.int .i64 kd) ∧ w'.cell? ⟨wr.heap.size, 2, none⟩ = some (.string fr') ∧ w'.cell? ⟨wr.heap.size, 3, none⟩ = some (.int .i64 ix') ∧ w'.cell? ⟨wr.heap.size, 4, none⟩ = some (.slice ka kids'.len kc) ∧
          w'.cell? ⟨w.heap.size + 1, 0, none⟩ = some (.int .i64 depth) ∧ w'.cell? ⟨w.heap.size + 1, 1, none⟩ = some (.slice pa ps.length pc) ∧ w'.cell? ⟨w.heap.size + 1, 2, none⟩ = some (.int .i64 ung))
        (first | exact ⟨z1, z2, z3, z4, y0, y1, y2⟩ | exact ⟨g1, g2, g3, g4, g5, g6, g7⟩ | exact ⟨l1, l2, l3, l4, l5, l6, l7⟩)
        ((first
          | (go_at_call 112; refine (below_calls _ depth ung _ ps ?_ (by omega) (by omega)).mono ?_; (exact HPD.out);
             rintro e w2 ⟨rfl, hb2⟩; have hst := Still.of_below hb2; have g1 := hst _ _ z1; have g2 := hst _ _ z2; have g3 := hst _ _ z3; have g4 := hst _ _ z4; have g5 := hst _ _ y0; have g6 := hst _ _ y1; have g7 := hst _ _ y2)
          | (go_at_call 99; refine (ih _ kd ix' (depth + 1) 0 fr' _ _ kids' ps c mm HZ.out ?_ ?_ hmm ?_ ?_ (by omega) (by omega) (by omega) (by omega) (by omega)).mono ?_;
             (exact HSVD.out.still hst); (exact HCD.out.below hb2); (exact HPD.out.still hst); (intro l hl; have h8 := hb2.size; have h9 := HPL.out l hl; simp at h8; omega);
             rintro e w3 ⟨m', u, ks, rfl, hu, o3, c3, hok⟩;
             have o4 := Only.below (Only.refl c W.drew) hb2; have o5 := o4.trans o3;
             have gg : ∀ b o v, b ≠ c → W.cell? ⟨b, o, none⟩ = some v → w3.cell? ⟨b, o, none⟩ = some v := fun b o v hne h => (Same.cell (o5.block b (World.block_lt_of_cell? _ _ h) hne)).trans h;
             have l1 := gg _ _ _ (by omega) z1; have l2 := gg _ _ _ (by omega) z2; have l3 := gg _ _ _ (by omega) z3; have l4 := gg _ _ _ (by omega) z4; have l5 := gg _ _ _ (by omega) y0; have l6 := gg _ _ _ (by omega) y1; have l7 := gg _ _ _ (by omega) y2)))
      have l0 : w3.cell? ⟨wr.heap.size, 0, none⟩ = some (.string lab) := gg _ _ _ (by omega) z0
      have HOK := hide hok
      have HC3 := hide c3
      have HO5 := hide o5
      have hw2 : W.heap.size ≤ w2.heap.size := hb2.size
      have hw3 : w2.heap.size ≤ w3.heap.size := o3.size
      clear hok c3 o3 o4 o5 gg hb2 hst g1 g2 g3 g4 g5 g6 g7 l1 l2 l3 l4 z0 z1 z2 z3 z4 y0 y1 y2
      have hvk : vldF (.cons lab kd fr' ix' kids' rest) ps.length 0 (41 - (depth + 1)) = (vldN kd fr' ix' kids' ps.length 0 (41 - (depth + 1)) && vldF rest ps.length 0 (41 - (depth + 1))) := rfl
      have HVK := hide hvk
      have hs6 := HSUM.out
      simp only [F.sz] at hs6
      have HS6 := hide hs6
      clear hvk hs6
      cases hb8 : (vldN kd fr' ix' kids' ps.length 0 (41 - (depth + 1)) && decide (mm + (kids'.sz + 1) ≤ 400)) with
      | false =>
        have HB8 := hide hb8
        clear hb8
        go_wp2_with fail
        go_ret2
        have hfin : (vldF kids ps.length 0 (41 - (depth + 1)) && decide (m + (kids.sz + 1) ≤ 400)) = false := by
          rw [HVL.out, HVK.out]
          have h8 := HB8.out
          have h6 := HS6.out
          cases hvv : vldN kd fr' ix' kids' ps.length 0 (41 - (depth + 1)) with
          | false => rfl
          | true =>
            rw [hvv, Bool.true_and] at h8
            have h9 := of_decide_eq_false h8
            rw [decide_eq_false (by omega), Bool.and_false]
        exact li_no hfin (((HOA.out.below HBW.out).drew).trans HO5.out) HC3.out
      | true =>
        have HB8 := hide hb8
        obtain ⟨hm', hln, hks⟩ := HOK.out hb8
        have h10 : m' ≤ 400 := by
          simp only [Bool.and_eq_true, decide_eq_true_eq] at hb8
          omega
        obtain ⟨T, x, rfl⟩ := hln.val
        have HM := hide hm'
        have HLN := hide hln
        have HKS := hide hks
        clear hb8 hm' hln hks hu
        have hA3 : Blk w3 w1.heap.size #[.int .i64 k, .string fr, v] := Blk.only (w := W.drew) (c := c) (HAC.out.2.2.1.below HBW.out.drew) HO5.out (by omega)
        have a2 : w3.cell? ⟨w1.heap.size, 2, none⟩ = some v := hA3.cell 2
        have HA3 := hide hA3
        have a0 : w3.cell? ⟨w1.heap.size, 0, none⟩ = some (.int .i64 k) := hA3.cell 0
        have hAl : w1.heap.size < w3.heap.size := hA3.lt
        go_wp2_with fail
        have hown := (HAC.out.2.2.2.1)
        have hvb : ∀ x, v.ownBlock = some x → w1.heap.size + 1 ≤ x ∧ x < wr.heap.size := hown.lt
        have hown3 : w3.ownsRow (w1.heap.size + 1) ( /- t -/ 178) 2 v p.len xs := by
          refine hown.kept (w' := w3) (row := some c) ⟨?_, ?_, ?_, ?_, fun b hb hne => ?_⟩ (Or.inr (fun e => by have := (hvb c e).1; omega))
          · exact HO5.out.os.trans HBW.out.os
          · exact HO5.out.tape.trans HBW.out.tape
          · exact HO5.out.output.trans HBW.out.output
          · omega
          · exact (HO5.out.block b (by show b < W.heap.size; omega) (fun e => hne (by rw [e]))).trans (HBW.out.block b hb)
        have hX : v.ownBlock ≠ some wr.heap.size := fun e => by have := (hvb _ e).2; omega
        have hlab : Hid (lab.size ≤ maxLen) := l1
        have hAX : wr.heap.size ≠ w1.heap.size := by have := HAC.out.2.2.1.lt; omega
        have HOW := hide hown3
        have HVB := hide hvb
        have hpk : p.len + 1 ≤ 400 := by
          have h1 := HSUM.out
          have h2 := len_le_sz p
          rw [HKE.out, F.sz_app] at h1
          omega
        go_region_law
          (refine step_append_lies _ (by rfl) _ _ _ (by rfl) (w1.heap.size + 1) ( /- t -/ 178) i0 _ 2 32 Tryd.underlying174 HI.out HI0.out HI1.out HI2.out rfl (by omega) v p.len xs (by rfl) ((HOW.out.alloc _).drew)
              ⟨w3.heap.size, 0, none⟩ 1 1 [.string lab, .iface T x] (by rfl) (by rfl) (World.news_of_block (cs := #[.string lab, .iface T x]) (t := ( /- t -/ 178)) (fr := (0, 0)) (heap_alloc_new w3 _)) (by simp [Value.oneCell'])
              (by omega) (by unfold maxLen; omega) (by omega) (by simp; omega) (w3.heap.size + 1) (by simp) ?_; intro gg cp w4 hown4 hgrow hat hlt4;
            have hA4 := Blk.same HA3.out ((hgrow.block w1.heap.size (by simp; omega) (fun e => by have := (HVB.out _ e.symm).1; omega)).trans (Below.heap_alloc w3 _ _ hAl));
            have e0 : w4.cell? ⟨w1.heap.size, 0, none⟩ = some (.int .i64 k) := hA4.cell 0;
            have e2 : w4.cell? ⟨w1.heap.size, 2, none⟩ = some v := hA4.cell 2;
            have ef : ∀ o, w4.frozen? ⟨w1.heap.size, o, none⟩ = false := hA4.frozen;
            have el : w1.heap.size < w4.heap.size := hA4.lt)
        all_goals
          go_wp2_with fail
          refine ⟨⟨p.app (.cons lab kd fr' ix' kids' .nil), rest, m', _, _, _, by rw [HKE.out, F.app_assoc]; rfl, by rw [F.len_app]; rfl, by rw [F.len_app]; exact HG.out.tail, h10, ?_, ?_,
            act_step rfl hcA HAC.out ((Only.below (Only.refl c wr) HBW.out).drew.trans HO5.out) HC3.out HLN.out (fun b hb => by have := HKS.out b hb; omega) ((alloc_below w3 _).drew) hown4 hgrow (by rcases hat with h | h; exact Or.inl h; exact Or.inr (by rw [h]; simp))⟩, by simp [intOf]; omega⟩
          · have h6 := HS6.out
            have h7 := HM.out
            omega
          · rw [HVL.out, HVK.out]
            have h8 := HB8.out
            simp only [Bool.and_eq_true] at h8
            rw [h8.1, Bool.true_and]

theorem li_all : ∀ n, LiAt n := by
  intro n
  induction n with
  | zero => intro w k ix depth ung fr sv lv kids ps c m hn; omega
  | succ n ih =>
    intro w k ix depth ung fr sv lv kids ps c m hn hs hc hm hp hpl hd0 hd hlen hu hu2
    by_cases hm4 : 400 ≤ m
    · exact li_full w k ix depth ung fr sv lv kids ps c m _ hp hc hm4 hm
    by_cases hd4 : 40 < depth
    · exact li_deep w k ix depth ung fr sv lv kids ps c m hp hc (by omega) hd4
    cases hsh : shapeB k fr ix kids with
    | false => exact li_bad w k ix depth ung fr sv lv kids ps c m hp hs hc (by omega) (by omega) hsh
    | true =>
      by_cases h1 : k = 1
      · subst h1; exact li_end w ix depth ung fr sv lv kids ps c m hp hs hc (by omega) hd0 (by omega) hsh
      by_cases h2 : k = 2 ∨ k = 3
      · exact li_act n ih w k ix depth ung fr sv lv kids ps c m h2 hn hp hpl hs hc (by omega) hd0 (by omega) hlen hsh
      by_cases h4 : k = 4
      · subst h4; exact li_rec n ih w ix depth ung fr sv lv kids ps c m hn hp hpl hs hc (by omega) hd0 (by omega) hlen hu hu2 hsh
      by_cases h5 : k = 5
      · subst h5
        by_cases hix : ix < ung ∨ (ung ≤ ix ∧ ps.length ≤ ix)
        · exact li_var_bad w ix depth ung fr sv lv kids ps c m hp hs hc (by omega) (by omega) hsh hix
        · obtain ⟨i, rfl⟩ := Int.eq_ofNat_of_zero_le (show 0 ≤ ix by omega)
          exact li_var_ok w depth ung i (ps.length - 1 - i) fr sv lv kids ps c m hp hs hc (by omega) (by omega) hlen hsh (by omega) (by omega)
      · simp [shapeB, h1, h2, h4, h5] at hsh

/-- What linkLocal gives. -/
def LinkPost (w : World) (k : Int) (fr : ByteArray) (ix : Int) (kids : F) (e : Ending) (w' : World) : Prop :=
  ∃ u bs, e = .returned (.tuple #[u, .bool (okN k fr ix kids)]) ∧ (u = .nilIface ∨ ∃ T x, u = .iface T x) ∧ Below w.heap.size w w' ∧ (okN k fr ix kids = true → LkN w' k fr ix kids [] u bs ∧ ∀ b, b ∈ bs → w.heap.size ≤ b)

set_option maxHeartbeats 400000 in
set_option maxRecDepth 100000 in
/-- linkLocal of the program. -/
theorem implLink (w : World) (k ix : Int) (fr : ByteArray) (sv : Value) (kids : F) (hs : Sl w sv kids) :
    Calls Tryd.prog 53 #[.agg #[.int .i64 k, .string fr, .int .i64 ix, sv]] w (LinkPost w k fr ix kids) := by
  have HS := hide hs
  clear hs
  go_enter Tryd.func53, Tryd.ntmps53
  go_wp2_with fail
  have hb1 := alloc_below w (.cells #[.int .i64 k, .string fr, .int .i64 ix, sv] ( /- t -/ 35))
  have hb2 := hb1.alloc (by simp) (.cells #[.int .i64 0] ( /- t -/ 3))
  have hc : Ctr ((w.alloc (.cells #[.int .i64 k, .string fr, .int .i64 ix, sv] ( /- t -/ 35))).alloc (.cells #[.int .i64 0] ( /- t -/ 3))) (w.heap.size + 1) ((0 : Nat) : Int) :=
    ⟨_, by have := alloc_last (w.alloc (.cells #[.int .i64 k, .string fr, .int .i64 ix, sv] ( /- t -/ 35))) #[.int .i64 0] ( /- t -/ 3); simpa using this⟩
  refine (li_all (kids.sz + 1) _ k ix 1 0 fr sv _ kids [] (w.heap.size + 1) 0 (Nat.lt_succ_self _) (HS.out.still (Still.of_below hb2)) hc (by omega) (Ps.nil _) (fun l h => absurd h (List.not_mem_nil)) (by omega) (by omega) (by simp) (by omega) (by omega)).mono ?_
  rintro e w1 ⟨m', u, bs, rfl, hu, o1, c1, hok⟩
  have hb3 : Below w.heap.size w w1 := hb2.trans (o1.to_below (by omega) hb2.size)
  have hv : (vldN k fr ix kids (([] : List Nat).length : Nat) 0 (41 - 1) && decide (0 + (kids.sz + 1) ≤ 400)) = okN k fr ix kids := by
    unfold okN
    rw [Nat.zero_add]
    rfl
  rw [hv] at hok ⊢
  have HOK := hide hok
  have HB3 := hide hb3
  have hz := hb2.size
  have HZ := hide hz
  clear hc hb1 hb2 o1 c1 hv hok hb3 hz
  rcases hu with rfl | ⟨T, x, rfl⟩
  · go_wp2_with fail
    go_ret2
    exact ⟨_, bs, rfl, Or.inl rfl, HB3.out, fun h => ⟨(HOK.out h).2.1, fun b hb => by have := (HOK.out h).2.2 b hb; simp at this; omega⟩⟩
  · go_wp2_with fail
    go_ret2
    exact ⟨_, bs, rfl, Or.inr ⟨_, _, rfl⟩, HB3.out, fun h => ⟨(HOK.out h).2.1, fun b hb => by have := (HOK.out h).2.2 b hb; simp at this; omega⟩⟩

end Go.Proofs.YtfppglfajbmapaaDoor.Lo
