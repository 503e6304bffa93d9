/- l1Valid of the model. -/
import Derived.Test.YtfppglfajbmapaaDoorSv
namespace Go.Proofs.YtfppglfajbmapaaDoor
open Go.RowKit

def VldAt (n : Nat) : Prop := ∀ (w : World) (k ix b u d : Int) (fr to : ByteArray) (sv : Value) (kids : F), kids.sz < n → Sl w sv kids → 0 ≤ b → b + d ≤ 40 → 0 ≤ u → u + d ≤ 40 → 0 ≤ d →
  Calls Tryd.prog 187 #[.agg #[.int .i64 k, .string fr, .string to, .int .i64 ix, sv], .int .i64 b, .int .i64 u, .int .i64 d] w fun e w' => e = .returned (.bool (vldN k fr to ix kids b u d)) ∧ Below w.heap.size w w'

set_option maxHeartbeats 400000 in
theorem vld_shallow (w : World) (k ix b u d : Int) (fr to : ByteArray) (sv : Value) (kids : F) (hd : d < 1) :
    Calls Tryd.prog 187 #[.agg #[.int .i64 k, .string fr, .string to, .int .i64 ix, sv], .int .i64 b, .int .i64 u, .int .i64 d] w fun e w' => e = .returned (.bool (vldN k fr to ix kids b u d)) ∧ Below w.heap.size w w' := by
  go_enter Tryd.func187, Tryd.ntmps187
  go_wp2_with fail
  go_ret
  refine ⟨ret_bool ?_, alloc_below _ _⟩
  unfold vldN nodeB
  rw [decide_eq_false (by omega)]
  rfl

set_option maxHeartbeats 400000 in
theorem vld_fields (w : World) (k ix b u d : Int) (fr to : ByteArray) (sv : Value) (kids : F) (hd : 1 ≤ d) (hf : fieldsB k fr to ix = false) :
    Calls Tryd.prog 187 #[.agg #[.int .i64 k, .string fr, .string to, .int .i64 ix, sv], .int .i64 b, .int .i64 u, .int .i64 d] w fun e w' => e = .returned (.bool (vldN k fr to ix kids b u d)) ∧ Below w.heap.size w w' := by
  go_enter Tryd.func187, Tryd.ntmps187
  go_wp2_with fail
  refine (sv_fields _ _ _ _ _ _).mono ?_
  rintro e w1 ⟨rfl, hb⟩
  rw [hf]
  obtain ⟨-, -, -, -, -, -, hb2⟩ := box5 hb
  clear hb
  go_wp2_with fail
  go_ret
  refine ⟨ret_bool ?_, hb2⟩
  unfold vldN nodeB
  rw [hf, Bool.and_false, Bool.false_and]

set_option maxHeartbeats 400000 in
theorem vld_leaf (w : World) (k ix b u d : Int) (fr to : ByteArray) (sv : Value) (kids : F) (hd : 1 ≤ d) (hf : fieldsB k fr to ix = true) (hk : k ≠ 2) (hk3 : k ≠ 3) (hs : Sl w sv kids) :
    Calls Tryd.prog 187 #[.agg #[.int .i64 k, .string fr, .string to, .int .i64 ix, sv], .int .i64 b, .int .i64 u, .int .i64 d] w fun e w' => e = .returned (.bool (vldN k fr to ix kids b u d)) ∧ Below w.heap.size w w' := by
  obtain ⟨a, cap, rfl, hlen, -⟩ := hs.at
  unfold maxLen at hlen
  have e2 : (k == 2) = false := beq_eq_false_iff_ne.2 hk
  have e3 : (k == 3) = false := beq_eq_false_iff_ne.2 hk3
  have HK := hide hk
  have HK3 := hide hk3
  clear hk hk3 hs
  go_enter Tryd.func187, Tryd.ntmps187
  go_wp2_with fail
  refine (sv_fields _ _ _ _ _ _).mono ?_
  rintro e w1 ⟨rfl, hb⟩
  rw [hf]
  obtain ⟨c0, c1, c2, c3, c4, -, hb2⟩ := box5 hb
  have HF := hide hf
  clear hb hf
  have dec0 : decide (1 ≤ d) = true := decide_eq_true hd
  go_wp2_with fail
  all_goals go_ret
  all_goals refine ⟨ret_bool ?_, hb2⟩
  all_goals unfold vldN nodeB
  all_goals rw [HF.out, dec0, Bool.true_and, Bool.true_and]
  · have e1 : k = 1 := beq_iff_eq.1 (by assumption)
    rw [if_pos e1]
    show (((kids.len : Nat) : Int) == 0) = _
    by_cases h : kids.len = 0
    · rw [h]; rfl
    · rw [decide_eq_false h]
      exact beq_eq_false_iff_ne.2 (by omega)
  · have e1 : ¬ k = 1 := beq_eq_false_iff_ne.1 (by assumption)
    have e4 : k = 4 := beq_iff_eq.1 (by assumption)
    have h1 : kids.len = 0 := by assumption
    have h2 : u ≤ ix := by assumption
    rw [if_neg e1, if_pos e4]
    simp [h1, h2]
  · have e1 : ¬ k = 1 := beq_eq_false_iff_ne.1 (by assumption)
    have e4 : k = 4 := beq_iff_eq.1 (by assumption)
    have h2 : ¬ u ≤ ix := Int.not_le.2 (by assumption)
    rw [if_neg e1, if_pos e4]
    simp [h2]
  · have e1 : ¬ k = 1 := beq_eq_false_iff_ne.1 (by assumption)
    have e4 : k = 4 := beq_iff_eq.1 (by assumption)
    have h1 : ¬ kids.len = 0 := by assumption
    rw [if_neg e1, if_pos e4]
    simp [h1]
  · have e1 : ¬ k = 1 := beq_eq_false_iff_ne.1 (by assumption)
    have e4 : ¬ k = 4 := beq_eq_false_iff_ne.1 (by assumption)
    rw [if_neg e1, if_neg e4, if_neg HK3.out, if_neg HK.out]

set_option maxHeartbeats 400000 in
theorem vld_rec (n : Nat) (ih : VldAt n) (w : World) (ix b u d : Int) (fr to : ByteArray) (sv : Value) (kids : F) (hn : kids.sz < n + 1) (hd : 1 ≤ d) (hb : 0 ≤ b) (hbd : b + d ≤ 40) (hu : 0 ≤ u) (hud : u + d ≤ 40) (hf : fieldsB 3 fr to ix = true) (hs : Sl w sv kids) :
    Calls Tryd.prog 187 #[.agg #[.int .i64 3, .string fr, .string to, .int .i64 ix, sv], .int .i64 b, .int .i64 u, .int .i64 d] w fun e w' => e = .returned (.bool (vldN 3 fr to ix kids b u d)) ∧ Below w.heap.size w w' := by
  obtain ⟨a, cap, rfl, hlen, hat⟩ := hs.at
  have HA := hide hat
  unfold maxLen at hlen
  have HN := hide hn
  clear hs hat hn
  go_enter Tryd.func187, Tryd.ntmps187
  go_wp2_with fail
  refine (sv_fields _ _ _ _ _ _).mono ?_
  rintro e w1 ⟨rfl, hb1⟩
  rw [hf]
  obtain ⟨c0, c1, c2, c3, c4, -, hb2⟩ := box5 hb1
  have HF := hide hf
  clear hb1 hf
  by_cases hl : kids.len = 1
  · cases kids with
    | nil => simp [F.len] at hl
    | cons lab k' fr' to' ix' kids' rest =>
      have hr : rest = .nil := nil_of_len (by simp only [F.len] at hl; omega)
      subst hr
      obtain ⟨b', o', rfl, _, _, _, _, _, d0, d1, d2, d3, d4, ⟨sv', d5, hsv⟩, _⟩ := (HA.out.still (Still.of_below hb2)).head
      simp only [Nat.zero_mul, Nat.add_zero] at d0 d1 d2 d3 d4 d5
      have HS := hide hsv
      clear hsv hl
      change w1.cell? ⟨w.heap.size, 4, none⟩ = some (.slice (some ⟨b', o', none⟩) 1 cap) at c4
      cases hlab : lab.toList.isEmpty with
      | false =>
        go_wp2_with fail
        go_ret
        refine ⟨ret_bool ?_, hb2⟩
        simp [vldN, nodeB, bareB, hlab]
      | true =>
        have hz : kids'.sz < n := by have := HN.out; simp only [F.sz] at this; omega
        go_wp2_with fail
        refine (ih w1 k' ix' (b + 1) (u + 1) (d - 1) fr' to' sv' kids' hz HS.out (by omega) (by omega) (by omega) (by omega) (by omega)).mono ?_
        rintro e w2 ⟨rfl, hb3⟩
        have hb4 := hb2.trans (hb3.mono hb2.size)
        clear hb3
        generalize hv : vldN k' fr' to' ix' kids' (b + 1) (u + 1) (d - 1) = v
        have HV := hide hv
        clear hv
        go_wp2_with fail
        go_ret
        refine ⟨ret_bool ?_, hb4⟩
        have dec0 : decide (1 ≤ d) = true := decide_eq_true hd
        unfold vldN nodeB
        rw [HF.out, dec0]
        simp only [vldF, bareB, hlab, Bool.and_true]
        change v = _
        rw [← HV.out]
        simp [vldN, F.len]
  · have hlb : (((kids.len : Nat) : Int) == 1) = false := beq_eq_false_iff_ne.2 (by omega)
    have HL := hide hl
    clear hl
    go_wp2_with fail
    go_ret
    refine ⟨ret_bool ?_, hb2⟩
    simp [vldN, nodeB, HL.out]

set_option maxHeartbeats 800000 in
theorem vld_msg (n : Nat) (ih : VldAt n) (w : World) (ix b u d : Int) (fr to : ByteArray) (sv : Value) (kids : F) (hn : kids.sz < n + 1) (hd : 1 ≤ d) (hb : 0 ≤ b) (hbd : b + d ≤ 40) (hf : fieldsB 2 fr to ix = true) (hs : Sl w sv kids) :
    Calls Tryd.prog 187 #[.agg #[.int .i64 2, .string fr, .string to, .int .i64 ix, sv], .int .i64 b, .int .i64 u, .int .i64 d] w fun e w' => e = .returned (.bool (vldN 2 fr to ix kids b u d)) ∧ Below w.heap.size w w' := by
  obtain ⟨a, cap, rfl, hlen, hat⟩ := hs.at
  have HA := hide hat
  have HSL := hide hs
  unfold maxLen at hlen
  have HN := hide hn
  clear hs hat hn
  go_enter Tryd.func187, Tryd.ntmps187
  go_wp2_with fail
  refine (sv_fields _ _ _ _ _ _).mono ?_
  rintro e w1 ⟨rfl, hb1⟩
  rw [hf]
  obtain ⟨c0, c1, c2, c3, c4, -, hb2⟩ := box5 hb1
  have HF := hide hf
  clear hb1 hf
  have HSL1 := hide (HSL.out.still (Still.of_below hb2))
  go_wp2_with (first | (go_at_call 14; refine (specRole _ _).mono ?_; rintro e w' ⟨rfl, rfl⟩) | fail)
  · have h1 : roleB fr = true := by assumption
    have h2 : roleB to = true := by assumption
    have h3 : fr.toList = to.toList := by assumption
    go_ret
    refine ⟨ret_bool ?_, hb2⟩
    simp [vldN, nodeB, h3]
  · have h1 : roleB fr = true := by assumption
    have h2 : roleB to = true := by assumption
    have h3 : ¬ fr.toList = to.toList := by assumption
    have hbe : (fr.toList == to.toList) = false := beq_eq_false_iff_ne.2 h3
    refine (sv_branches _ kids _ _ _ _ _ HSL1.out).mono ?_
    rintro e w2 ⟨rfl, hb3⟩
    have hst := Still.of_below hb3
    have d4 := hst _ _ c4
    have hb4 := hb2.trans (hb3.mono hb2.size)
    have hlt1 : w.heap.size < w1.heap.size := World.block_lt_of_cell? _ _ c4
    have hlt2 : w.heap.size < w2.heap.size := Nat.lt_of_lt_of_le hlt1 hb3.size
    clear c0 c1 c2 c3 c4 hst hb3 HSL1
    cases hbr : branchesB kids with
    | false =>
      go_wp2_with fail
      go_ret
      refine ⟨ret_bool ?_, hb4⟩
      simp [vldN, nodeB, hbr]
    | true =>
      have HA2 := hide (HA.out.still (Still.of_below hb4))
      have HV : Hid (vldN 2 fr to ix kids b u d = vldF kids b 0 (d - 1)) := by
        unfold Hid
        simp [vldN, nodeB, HF.out, decide_eq_true hd, h1, h2, h3, hbr]
      clear h1 h2 h3 HF HSL
      go_wp2_with fail
      clear hb2 hlt1
      go_loopw [9] (fun iv wr => ∃ (g : F) (k : Nat), k + g.len = kids.len ∧ iv = .int .i64 k ∧ g.sz ≤ kids.sz ∧ At w2 a k g ∧ vldF kids b 0 (d - 1) = vldF g b 0 (d - 1) ∧ Below w2.heap.size w2 wr) (fun iv _ => kids.len - (intOf iv).toNat)
      case atStart => exact ⟨kids, 0, by omega, rfl, Nat.le_refl _, HA2.out, rfl, Below.refl _ _⟩
      case round =>
        obtain ⟨g, k, hk, rfl, h5, hg, hv, hbw⟩ := hrel
        have e4 := (Still.of_below hbw) _ _ d4
        have HVV := hide hv
        have HB := hide (hb4.trans (hbw.mono hb4.size))
        clear hv
        cases g with
        | nil =>
          have H5 : Hid (k = kids.len) := by unfold Hid; simpa [F.len] using hk
          have hge : kids.len ≤ k := Nat.le_of_eq H5.out.symm
          clear hk
          go_wp2_with fail
          go_ret
          exact ⟨ret_bool (by rw [HV.out, HVV.out]; rfl), HB.out⟩
        | cons lab kd fr' to' ix' kids' rest =>
          have HK : Hid (k + 1 + rest.len = kids.len) := by unfold Hid; simp only [F.len] at hk; omega
          have hlt : k < kids.len := by have := HK.out; omega
          have HZ : Hid (kids'.sz < n ∧ rest.sz ≤ kids.sz) := by have := HN.out; unfold Hid; simp only [F.sz] at h5; omega
          obtain ⟨b', o, rfl, _, _, _, _, _, q0, q1, q2, q3, q4, ⟨sv', q5, hsv⟩, _⟩ := (hg.still (Still.of_below hbw)).head
          have HS := hide hsv
          have HG := hide hg
          clear hk h5 hg hsv
          go_wp2_with fail
          refine (ih wr kd ix' b 0 (d - 1) fr' to' sv' kids' HZ.out.1 HS.out hb (by omega) (by omega) (by omega) (by omega)).mono ?_
          rintro e w3 ⟨rfl, hb5⟩
          have hb6 := HB.out.trans (hb5.mono HB.out.size)
          have hb7 := hbw.trans (hb5.mono hbw.size)
          clear hb5
          cases hv : vldN kd fr' to' ix' kids' b 0 (d - 1) with
          | false =>
            go_wp2_with fail
            go_ret
            refine ⟨ret_bool ?_, hb6⟩
            rw [HV.out, HVV.out]
            simp only [vldF]
            rw [show nodeB kd fr' to' ix' kids' b 0 (d - 1) (vldF kids' (b + 1) (0 + 1) (d - 1 - 1)) (vldF kids' b 0 (d - 1 - 1)) = vldN kd fr' to' ix' kids' b 0 (d - 1) from rfl, hv]
            rfl
          | true =>
            go_wp2_with fail
            refine ⟨⟨rest, k + 1, by have := HK.out; omega, by go_num, HZ.out.2, HG.out.tail, ?_, hb7⟩, by simp [intOf]; omega⟩
            rw [HVV.out]
            simp only [vldF]
            rw [show nodeB kd fr' to' ix' kids' b 0 (d - 1) (vldF kids' (b + 1) (0 + 1) (d - 1 - 1)) (vldF kids' b 0 (d - 1 - 1)) = vldN kd fr' to' ix' kids' b 0 (d - 1) from rfl, hv, Bool.true_and]
  · have h1 : roleB to = false := by simpa using ‹¬ roleB to = true›
    go_ret
    refine ⟨ret_bool ?_, hb2⟩
    simp [vldN, nodeB, h1]
  · have h1 : roleB fr = false := by simpa using ‹¬ roleB fr = true›
    go_ret
    refine ⟨ret_bool ?_, hb2⟩
    simp [vldN, nodeB, h1]

theorem vld_all : ∀ n, VldAt n := by
  intro n
  induction n with
  | zero => intro w k ix b u d fr to sv kids hn; omega
  | succ n ih =>
    intro w k ix b u d fr to sv kids hn hs hb hbd hu hud hd
    by_cases h1 : d < 1
    · exact vld_shallow w k ix b u d fr to sv kids h1
    · have h1' : 1 ≤ d := by omega
      cases hf : fieldsB k fr to ix with
      | false => exact vld_fields w k ix b u d fr to sv kids h1' hf
      | true =>
        by_cases h2 : k = 2
        · subst h2
          exact vld_msg n ih w ix b u d fr to sv kids hn h1' hb hbd hf hs
        · by_cases h3 : k = 3
          · subst h3
            exact vld_rec n ih w ix b u d fr to sv kids hn h1' hb hbd hu hud hf hs
          · exact vld_leaf w k ix b u d fr to sv kids h1' hf h2 h3 hs

/-- l1Valid of the model. -/
theorem vld_calls (w : World) (k ix b u d : Int) (fr to : ByteArray) (sv : Value) (kids : F) (hs : Sl w sv kids) (hb : 0 ≤ b) (hbd : b + d ≤ 40) (hu : 0 ≤ u) (hud : u + d ≤ 40) (hd : 0 ≤ d) :
    Calls Tryd.prog 187 #[.agg #[.int .i64 k, .string fr, .string to, .int .i64 ix, sv], .int .i64 b, .int .i64 u, .int .i64 d] w fun e w' => e = .returned (.bool (vldN k fr to ix kids b u d)) ∧ Below w.heap.size w w' :=
  vld_all (kids.sz + 1) w k ix b u d fr to sv kids (Nat.lt_succ_self _) hs hb hbd hu hud hd

end Go.Proofs.YtfppglfajbmapaaDoor
