/- LSw -/
import Derived.Test.YtpjbffggeegdaaaM02
/- l2Valid of the model. -/
namespace Go.Proofs.Ytpjbffggeegdaaa.Lo
open Go.RowKit

theorem act_calls (k : Int) (v : Bool) (h : (k == 2 || k == 3) = v) (w : World) : Calls Try.prog 39 #[.int .i64 k] w fun e w' => e = .returned (.bool v) ∧ w' = w := by
  go_enter Try.func39, Try.ntmps39
  go_wp2_with fail
  all_goals go_ret
  all_goals refine ⟨ret_bool ?_, rfl⟩
  all_goals rw [← h]
  all_goals simp_all

def VldAt (n : Nat) : Prop := ∀ (w : World) (k ix b u d : Int) (fr : ByteArray) (sv : Value) (kids : F), kids.sz < n → Sl w sv kids → 0 ≤ b → b + d ≤ 40 → 0 ≤ u → u + d ≤ 40 → 0 ≤ d →
  Calls Try.prog 25 #[.agg #[.int .i64 k, .string fr, .int .i64 ix, sv], .int .i64 b, .int .i64 u, .int .i64 d] w fun e w' => e = .returned (.bool (vldN k fr ix kids b u d)) ∧ Below w.heap.size w w'

set_option maxHeartbeats 400000 in
set_option maxRecDepth 100000 in
theorem vld_shallow (w : World) (k ix b u d : Int) (fr : ByteArray) (sv : Value) (kids : F) (hd : d < 1) :
    Calls Try.prog 25 #[.agg #[.int .i64 k, .string fr, .int .i64 ix, sv], .int .i64 b, .int .i64 u, .int .i64 d] w fun e w' => e = .returned (.bool (vldN k fr ix kids b u d)) ∧ Below w.heap.size w w' := by
  go_enter Try.func25, Try.ntmps25
  go_wp2_with fail
  go_ret
  refine ⟨ret_bool ?_, alloc_below _ _⟩
  unfold vldN nodeB
  rw [decide_eq_false (by omega)]
  rfl

set_option maxHeartbeats 400000 in
set_option maxRecDepth 100000 in
theorem vld_fields (w : World) (k ix b u d : Int) (fr : ByteArray) (sv : Value) (kids : F) (hd : 1 ≤ d) (hf : fieldsB k fr ix = false) :
    Calls Try.prog 25 #[.agg #[.int .i64 k, .string fr, .int .i64 ix, sv], .int .i64 b, .int .i64 u, .int .i64 d] w fun e w' => e = .returned (.bool (vldN k fr ix kids b u d)) ∧ Below w.heap.size w w' := by
  have hv : vldN k fr ix kids b u d = false := by
    unfold vldN nodeB
    rw [hf, Bool.and_false, Bool.false_and]
  rw [hv]
  have HF := hide hf
  clear hf hv
  cases ha : (k == 2 || k == 3) with
  | true =>
    have h1 : (k == 5) = false := by
      have := HF.out
      simp only [fieldsB, ha, Bool.true_or, Bool.true_and, Bool.or_eq_false_iff] at this
      exact this.1
    have h2 : (ix == 0) = false := by
      have := HF.out
      simp only [fieldsB, ha, Bool.true_or, Bool.true_and, Bool.or_eq_false_iff] at this
      exact this.2
    have g1 : (k != 5) = true := bne_iff_ne.2 (beq_eq_false_iff_ne.1 h1)
    have g2 : (ix != 0) = true := bne_iff_ne.2 (beq_eq_false_iff_ne.1 h2)
    go_enter Try.func25, Try.ntmps25
    go_wp2_with (first | (go_at_call 39; refine (act_calls k true ha _).mono ?_; rintro e w' ⟨rfl, rfl⟩) | fail)
    go_ret
    exact ⟨rfl, alloc_below _ _⟩
  | false =>
    go_enter Try.func25, Try.ntmps25
    cases he : fr.toList.isEmpty with
    | false =>
      have he2 : ¬ fr.toList = [] := by
        intro h
        rw [h] at he
        cases he
      go_wp2_with (first | (go_at_call 39; refine (act_calls k false ha _).mono ?_; rintro e w' ⟨rfl, rfl⟩) | fail)
      go_ret
      exact ⟨rfl, alloc_below _ _⟩
    | true =>
      have he2 : fr.toList = [] := List.isEmpty_iff.1 he
      have h1 : (k == 5) = false := by
        have := HF.out
        simp only [fieldsB, ha, he, Bool.or_true, Bool.true_and, Bool.or_eq_false_iff] at this
        exact this.1
      have h2 : (ix == 0) = false := by
        have := HF.out
        simp only [fieldsB, ha, he, Bool.or_true, Bool.true_and, Bool.or_eq_false_iff] at this
        exact this.2
      have g1 : (k != 5) = true := bne_iff_ne.2 (beq_eq_false_iff_ne.1 h1)
      have g2 : (ix != 0) = true := bne_iff_ne.2 (beq_eq_false_iff_ne.1 h2)
      go_wp2_with (first | (go_at_call 39; refine (act_calls k false ha _).mono ?_; rintro e w' ⟨rfl, rfl⟩) | fail)
      go_ret
      exact ⟨rfl, alloc_below _ _⟩

theorem fields_leaf {k : Int} {fr : ByteArray} {ix : Int} (hf : fieldsB k fr ix = true) (ha : (k == 2 || k == 3) = false) : fr.toList = [] := by
  simp only [fieldsB, ha, Bool.false_or, Bool.and_eq_true, List.isEmpty_iff] at hf
  exact hf.1
theorem fields_ix {k : Int} {fr : ByteArray} {ix : Int} (hf : fieldsB k fr ix = true) (h5 : (k == 5) = false) : ix = 0 := by
  simp only [fieldsB, h5, Bool.false_or, Bool.and_eq_true, beq_iff_eq] at hf
  exact hf.2

set_option maxHeartbeats 400000 in
set_option maxRecDepth 100000 in
theorem vld_end (w : World) (ix b u d : Int) (fr : ByteArray) (sv : Value) (kids : F) (hd : 1 ≤ d) (hf : fieldsB 1 fr ix = true) (hs : Sl w sv kids) :
    Calls Try.prog 25 #[.agg #[.int .i64 1, .string fr, .int .i64 ix, sv], .int .i64 b, .int .i64 u, .int .i64 d] w fun e w' => e = .returned (.bool (vldN 1 fr ix kids b u d)) ∧ Below w.heap.size w w' := by
  obtain ⟨a, cap, rfl, hlen, -⟩ := hs.at
  unfold maxLen at hlen
  have h1 := fields_leaf hf rfl
  have h2 := fields_ix hf rfl
  subst h2
  have HF := hide hf
  clear hf hs
  go_enter Try.func25, Try.ntmps25
  go_wp2_with (first | (go_at_call 39; refine (act_calls 1 false rfl _).mono ?_; rintro e w' ⟨rfl, rfl⟩) | fail)
  go_ret
  refine ⟨ret_bool ?_, alloc_below _ _⟩
  unfold vldN nodeB
  rw [HF.out, decide_eq_true hd, if_pos rfl]
  show (((kids.len : Nat) : Int) == 0) = _
  by_cases h : kids.len = 0
  · rw [h]; rfl
  · rw [decide_eq_false h]
    exact beq_eq_false_iff_ne.2 (by omega)

set_option maxHeartbeats 400000 in
set_option maxRecDepth 100000 in
theorem vld_var (w : World) (ix b u d : Int) (fr : ByteArray) (sv : Value) (kids : F) (hd : 1 ≤ d) (hf : fieldsB 5 fr ix = true) (hs : Sl w sv kids) :
    Calls Try.prog 25 #[.agg #[.int .i64 5, .string fr, .int .i64 ix, sv], .int .i64 b, .int .i64 u, .int .i64 d] w fun e w' => e = .returned (.bool (vldN 5 fr ix kids b u d)) ∧ Below w.heap.size w w' := by
  obtain ⟨a, cap, rfl, hlen, -⟩ := hs.at
  unfold maxLen at hlen
  have h1 := fields_leaf hf rfl
  have hv : vldN 5 fr ix kids b u d = (decide (kids.len = 0) && decide (u ≤ ix) && decide (ix < b)) := by
    unfold vldN nodeB
    rw [hf, decide_eq_true hd]
    rfl
  have HV := hide hv
  clear hf hs hv
  go_enter Try.func25, Try.ntmps25
  go_wp2_with (first | (go_at_call 39; refine (act_calls 5 false rfl _).mono ?_; rintro e w' ⟨rfl, rfl⟩) | fail)
  all_goals go_ret
  all_goals refine ⟨ret_bool ?_, alloc_below _ _⟩
  all_goals rw [HV.out]
  · have e1 : kids.len = 0 := by assumption
    have e2 : u ≤ ix := by assumption
    rw [decide_eq_true e1, decide_eq_true e2]
    rfl
  · have e2 : ¬ u ≤ ix := Int.not_le.2 (by assumption)
    rw [decide_eq_false e2, Bool.and_false, Bool.false_and]
  · have e1 : ¬ kids.len = 0 := by assumption
    rw [decide_eq_false e1]
    rfl

set_option maxHeartbeats 400000 in
set_option maxRecDepth 100000 in
theorem vld_bad (w : World) (k ix b u d : Int) (fr : ByteArray) (sv : Value) (kids : F) (hd : 1 ≤ d) (hf : fieldsB k fr ix = true) (h1 : (k == 1) = false) (h5 : (k == 5) = false) (h4 : (k == 4) = false) (ha : (k == 2 || k == 3) = false) :
    Calls Try.prog 25 #[.agg #[.int .i64 k, .string fr, .int .i64 ix, sv], .int .i64 b, .int .i64 u, .int .i64 d] w fun e w' => e = .returned (.bool (vldN k fr ix kids b u d)) ∧ Below w.heap.size w w' := by
  have h2 := fields_leaf hf ha
  have h3 := fields_ix hf h5
  subst h3
  have g5 : (k != 5) = true := bne_iff_ne.2 (beq_eq_false_iff_ne.1 h5)
  have hv : vldN k fr 0 kids b u d = false := by
    unfold vldN nodeB
    rw [if_neg (beq_eq_false_iff_ne.1 h1), if_neg (beq_eq_false_iff_ne.1 h5), if_neg (beq_eq_false_iff_ne.1 h4), if_neg (by simpa using ha), Bool.and_false]
  rw [hv]
  clear hf hv
  go_enter Try.func25, Try.ntmps25
  go_wp2_with (first | (go_at_call 39; refine (act_calls k false ha _).mono ?_; rintro e w' ⟨rfl, rfl⟩) | fail)
  go_ret
  exact ⟨rfl, alloc_below _ _⟩

set_option maxHeartbeats 400000 in
set_option maxRecDepth 100000 in
theorem vld_rec (n : Nat) (ih : VldAt n) (w : World) (ix b u d : Int) (fr : ByteArray) (sv : Value) (kids : F) (hn : kids.sz < n + 1) (hd : 1 ≤ d) (hb : 0 ≤ b) (hbd : b + d ≤ 40) (hu : 0 ≤ u) (hud : u + d ≤ 40) (hf : fieldsB 4 fr ix = true) (hs : Sl w sv kids) :
    Calls Try.prog 25 #[.agg #[.int .i64 4, .string fr, .int .i64 ix, sv], .int .i64 b, .int .i64 u, .int .i64 d] w fun e w' => e = .returned (.bool (vldN 4 fr ix kids b u d)) ∧ Below w.heap.size w w' := by
  obtain ⟨a, cap, rfl, hlen, hat⟩ := hs.at
  have h1 := fields_leaf hf rfl
  have h2 := fields_ix hf rfl
  subst h2
  have hb2 := alloc_below w (.cells #[.int .i64 4, .string fr, .int .i64 0, .slice a kids.len cap] ( /- t -/ 25))
  have HA := hide hat
  unfold maxLen at hlen
  have HN := hide hn
  have HF := hide hf
  clear hs hat hn hf
  by_cases hl : kids.len = 1
  · cases kids with
    | nil => simp [F.len] at hl
    | cons lab k' fr' ix' kids' rest =>
      have hr : rest = .nil := nil_of_len (by simp only [F.len] at hl; omega)
      subst hr
      obtain ⟨b', o', rfl, _, _, _, _, d0, d1, d2, d3, ⟨sv', d4, hsv⟩, _⟩ := (HA.out.still (Still.of_below hb2)).head
      simp only [Nat.zero_mul, Nat.add_zero] at d0 d1 d2 d3 d4
      have hbw : b' < w.heap.size := by
        obtain ⟨b3, o3, e4, -, -, -, -, g0, -⟩ := HA.out.head
        simp only [Option.some.injEq, Addr.mk.injEq, and_true] at e4
        obtain ⟨rfl, rfl⟩ := e4
        exact World.block_lt_of_cell? _ _ g0
      have HS := hide hsv
      clear hsv hl
      change Calls Try.prog 25 #[.agg #[.int .i64 4, .string fr, .int .i64 0, .slice (some ⟨b', o', none⟩) 1 cap], .int .i64 b, .int .i64 u, .int .i64 d] w _
      change (w.alloc (.cells #[.int .i64 4, .string fr, .int .i64 0, .slice (some ⟨b', o', none⟩) 1 cap] ( /- t -/ 25))).cell? _ = _ at d0
      change (w.alloc (.cells #[.int .i64 4, .string fr, .int .i64 0, .slice (some ⟨b', o', none⟩) 1 cap] ( /- t -/ 25))).cell? _ = _ at d1
      change (w.alloc (.cells #[.int .i64 4, .string fr, .int .i64 0, .slice (some ⟨b', o', none⟩) 1 cap] ( /- t -/ 25))).cell? _ = _ at d2
      change (w.alloc (.cells #[.int .i64 4, .string fr, .int .i64 0, .slice (some ⟨b', o', none⟩) 1 cap] ( /- t -/ 25))).cell? _ = _ at d3
      change (w.alloc (.cells #[.int .i64 4, .string fr, .int .i64 0, .slice (some ⟨b', o', none⟩) 1 cap] ( /- t -/ 25))).cell? _ = _ at d4
      cases hlab : lab.toList.isEmpty with
      | false =>
        have hl2 : ¬ lab.toList = [] := by
          intro h
          rw [h] at hlab
          cases hlab
        go_enter Try.func25, Try.ntmps25
        go_wp2_with (first | (go_at_call 39; refine (act_calls 4 false rfl _).mono ?_; rintro e w' ⟨rfl, rfl⟩) | fail)
        go_ret
        refine ⟨ret_bool ?_, hb2⟩
        simp [vldN, nodeB, bareB, hlab]
      | true =>
        have hl2 : lab.toList = [] := List.isEmpty_iff.1 hlab
        have hz : kids'.sz < n := by have := HN.out; simp only [F.sz] at this; omega
        go_enter Try.func25, Try.ntmps25
        go_wp2_with (first | (go_at_call 39; refine (act_calls 4 false rfl _).mono ?_; rintro e w' ⟨rfl, rfl⟩) | fail)
        refine (ih _ k' ix' (b + 1) (u + 1) (d - 1) fr' sv' kids' hz HS.out (by omega) (by omega) (by omega) (by omega) (by omega)).mono ?_
        rintro e w2 ⟨rfl, hb3⟩
        have hb4 := alloc_then hb3
        clear hb3
        generalize hv : vldN k' fr' ix' kids' (b + 1) (u + 1) (d - 1) = v
        have HV := hide hv
        clear hv
        go_wp2_with fail
        go_ret
        refine ⟨ret_bool ?_, hb4⟩
        have dec0 : decide (1 ≤ d) = true := decide_eq_true hd
        unfold vldN nodeB
        rw [HF.out, dec0]
        simp only [vldF, bareB, hlab, Bool.and_true]
        change v = _
        rw [← HV.out]
        simp [vldN, F.len]
  · have hlb : (((kids.len : Nat) : Int) == 1) = false := beq_eq_false_iff_ne.2 (by omega)
    have HL := hide hl
    clear hl
    go_enter Try.func25, Try.ntmps25
    go_wp2_with (first | (go_at_call 39; refine (act_calls 4 false rfl _).mono ?_; rintro e w' ⟨rfl, rfl⟩) | fail)
    go_ret
    refine ⟨ret_bool ?_, hb2⟩
    simp [vldN, nodeB, HL.out]

theorem vld_act_eq {k ix b u d : Int} {fr : ByteArray} {kids : F} (hk : (k == 2 || k == 3) = true) (hd : 1 ≤ d) (hf : fieldsB k fr ix = true) (h1 : (k == 1) = false) (h5 : (k == 5) = false) (h4 : (k == 4) = false) :
    vldN k fr ix kids b u d = (roleB fr && branchesB kids && vldF kids b 0 (d - 1)) := by
  unfold vldN nodeB
  rw [hf, decide_eq_true hd, if_neg (beq_eq_false_iff_ne.1 h1), if_neg (beq_eq_false_iff_ne.1 h5), if_neg (beq_eq_false_iff_ne.1 h4), if_pos (by simpa using hk)]
  rfl

set_option maxHeartbeats 800000 in
set_option maxRecDepth 100000 in
theorem vld_act (n : Nat) (ih : VldAt n) (w : World) (k ix b u d : Int) (fr : ByteArray) (sv : Value) (kids : F) (hk : (k == 2 || k == 3) = true) (hn : kids.sz < n + 1) (hd : 1 ≤ d) (hb : 0 ≤ b) (hbd : b + d ≤ 40) (hf : fieldsB k fr ix = true) (hs : Sl w sv kids) :
    Calls Try.prog 25 #[.agg #[.int .i64 k, .string fr, .int .i64 ix, sv], .int .i64 b, .int .i64 u, .int .i64 d] w fun e w' => e = .returned (.bool (vldN k fr ix kids b u d)) ∧ Below w.heap.size w w' := by
  have hkk : k = 2 ∨ k = 3 := by simpa using hk
  have h1 : (k == 1) = false := beq_eq_false_iff_ne.2 (by omega)
  have h5 : (k == 5) = false := beq_eq_false_iff_ne.2 (by omega)
  have h4 : (k == 4) = false := beq_eq_false_iff_ne.2 (by omega)
  have g5 : (k != 5) = true := bne_iff_ne.2 (by omega)
  have h0 := fields_ix hf h5
  subst h0
  have HV0 := hide (vld_act_eq (b := b) (u := u) (kids := kids) hk hd hf h1 h5 h4)
  obtain ⟨a, cap, rfl, hlen, hat⟩ := hs.at
  have HA := hide hat
  have HSL := hide hs
  unfold maxLen at hlen
  have HN := hide hn
  clear hs hat hn hf hkk
  have hb2 := alloc_below w (.cells #[.int .i64 k, .string fr, .int .i64 0, .slice a kids.len cap] ( /- t -/ 25))
  go_enter Try.func25, Try.ntmps25
  cases hr : roleB fr with
  | false =>
    go_wp2_with (first | (go_at_call 39; refine (act_calls k true hk _).mono ?_; rintro e w' ⟨rfl, rfl⟩) | (go_at_call 40; refine (specRole _ _).mono ?_; rintro e w' ⟨rfl, rfl⟩) | fail)
    go_ret
    exact ⟨ret_bool (by rw [HV0.out, hr]; rfl), hb2⟩
  | true =>
    go_wp2_with (first | (go_at_call 39; refine (act_calls k true hk _).mono ?_; rintro e w' ⟨rfl, rfl⟩) | (go_at_call 40; refine (specRole _ _).mono ?_; rintro e w' ⟨rfl, rfl⟩) | fail)
    refine (sv_branches _ kids _ _ _ _ (HSL.out.still (Still.of_below hb2))).mono ?_
    rintro e w2 ⟨rfl, hb3⟩
    have BX := (Box4.now w (.int .i64 k) (.string fr) (.int .i64 0) (.slice a kids.len cap) ( /- t -/ 25)).below hb3
    have hb4 := alloc_then hb3
    obtain ⟨-, -, -, d4⟩ := BX.cells
    have hlt2 := BX.lt
    clear hb3 BX
    cases hbr : branchesB kids with
    | false =>
      go_wp2_with fail
      go_ret
      exact ⟨ret_bool (by rw [HV0.out, hbr, Bool.and_false]; rfl), hb4⟩
    | true =>
      have HA2 := hide (HA.out.still (Still.of_below hb4))
      have HV : Hid (vldN k fr 0 kids b u d = vldF kids b 0 (d - 1)) := by
        unfold Hid
        rw [HV0.out, hr, hbr]
        rfl
      clear hbr HSL HV0 hb2
      go_wp2_with fail
      go_loopw [9] (fun iv wr => ∃ (g : F) (j : Nat), j + g.len = kids.len ∧ iv = .int .i64 j ∧ g.sz ≤ kids.sz ∧ At w2 a j g ∧ vldF kids b 0 (d - 1) = vldF g b 0 (d - 1) ∧ Below w2.heap.size w2 wr) (fun iv _ => kids.len - (intOf iv).toNat)
      case atStart => exact ⟨kids, 0, by omega, rfl, Nat.le_refl _, HA2.out, rfl, Below.refl _ _⟩
      case round =>
        obtain ⟨g, j, hk, rfl, h5, hg, hv, hbw⟩ := hrel
        have e4 := (Still.of_below hbw) _ _ d4
        have HVV := hide hv
        have HB := hide (hb4.trans (hbw.mono hb4.size))
        clear hv
        cases g with
        | nil =>
          have H5 : Hid (j = kids.len) := by unfold Hid; simpa [F.len] using hk
          have hge : kids.len ≤ j := Nat.le_of_eq H5.out.symm
          clear hk
          go_wp2_with fail
          go_ret
          exact ⟨ret_bool (by rw [HV.out, HVV.out]; rfl), HB.out⟩
        | cons lab kd fr' ix' kids' rest =>
          have HK : Hid (j + 1 + rest.len = kids.len) := by unfold Hid; simp only [F.len] at hk; omega
          have hlt : j < kids.len := by have := HK.out; omega
          have HZ : Hid (kids'.sz < n ∧ rest.sz ≤ kids.sz) := by have := HN.out; unfold Hid; simp only [F.sz] at h5; omega
          obtain ⟨b', o, rfl, _, _, _, _, q0, q1, q2, q3, ⟨sv', q4, hsv⟩, _⟩ := (hg.still (Still.of_below hbw)).head
          have HS := hide hsv
          have HG := hide hg
          clear hk h5 hg hsv
          go_wp2_with fail
          refine (ih wr kd ix' b 0 (d - 1) fr' sv' kids' HZ.out.1 HS.out hb (by omega) (by omega) (by omega) (by omega)).mono ?_
          rintro e w3 ⟨rfl, hb5⟩
          have hb6 := HB.out.trans (hb5.mono HB.out.size)
          have hb7 := hbw.trans (hb5.mono hbw.size)
          clear hb5
          cases hv : vldN kd fr' ix' kids' b 0 (d - 1) with
          | false =>
            go_wp2_with fail
            go_ret
            refine ⟨ret_bool ?_, hb6⟩
            rw [HV.out, HVV.out]
            simp only [vldF]
            rw [show nodeB kd fr' ix' kids' b 0 (d - 1) (vldF kids' (b + 1) (0 + 1) (d - 1 - 1)) (vldF kids' b 0 (d - 1 - 1)) = vldN kd fr' ix' kids' b 0 (d - 1) from rfl, hv]
            rfl
          | true =>
            go_wp2_with fail
            refine ⟨⟨rest, j + 1, by have := HK.out; omega, by go_num, HZ.out.2, HG.out.tail, ?_, hb7⟩, by simp [intOf]; omega⟩
            rw [HVV.out]
            simp only [vldF]
            rw [show nodeB kd fr' ix' kids' b 0 (d - 1) (vldF kids' (b + 1) (0 + 1) (d - 1 - 1)) (vldF kids' b 0 (d - 1 - 1)) = vldN kd fr' ix' kids' b 0 (d - 1) from rfl, hv, Bool.true_and]

theorem vld_all : ∀ n, VldAt n := by
  intro n
  induction n with
  | zero => intro w k ix b u d fr sv kids hn; omega
  | succ n ih =>
    intro w k ix b u d fr sv kids hn hs hb hbd hu hud hd
    by_cases h1 : d < 1
    · exact vld_shallow w k ix b u d fr sv kids h1
    · have h1' : 1 ≤ d := by omega
      cases hf : fieldsB k fr ix with
      | false => exact vld_fields w k ix b u d fr sv kids h1' hf
      | true =>
        cases ha : (k == 2 || k == 3) with
        | true => exact vld_act n ih w k ix b u d fr sv kids ha hn h1' hb hbd hf hs
        | false =>
          by_cases h4 : k = 4
          · subst h4
            exact vld_rec n ih w ix b u d fr sv kids hn h1' hb hbd hu hud hf hs
          · by_cases h5 : k = 5
            · subst h5
              exact vld_var w ix b u d fr sv kids h1' hf hs
            · by_cases h2 : k = 1
              · subst h2
                exact vld_end w ix b u d fr sv kids h1' hf hs
              · exact vld_bad w k ix b u d fr sv kids h1' hf (beq_eq_false_iff_ne.2 h2) (beq_eq_false_iff_ne.2 h5) (beq_eq_false_iff_ne.2 h4) ha

/-- l2Valid of the model. -/
theorem vld_calls (w : World) (k ix b u d : Int) (fr : ByteArray) (sv : Value) (kids : F) (hs : Sl w sv kids) (hb : 0 ≤ b) (hbd : b + d ≤ 40) (hu : 0 ≤ u) (hud : u + d ≤ 40) (hd : 0 ≤ d) :
    Calls Try.prog 25 #[.agg #[.int .i64 k, .string fr, .int .i64 ix, sv], .int .i64 b, .int .i64 u, .int .i64 d] w fun e w' => e = .returned (.bool (vldN k fr ix kids b u d)) ∧ Below w.heap.size w w' :=
  vld_all (kids.sz + 1) w k ix b u d fr sv kids (Nat.lt_succ_self _) hs hb hbd hu hud hd

end Go.Proofs.Ytpjbffggeegdaaa.Lo
