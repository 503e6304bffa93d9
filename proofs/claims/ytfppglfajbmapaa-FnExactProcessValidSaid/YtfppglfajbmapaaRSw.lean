/- l8Valid of the model. -/
import Derived.Test.YtfppglfajbmapaaRSv
namespace Go.Proofs.Ytfppglfajbmapaa.Pc
open Go.RowKit

/-- A list is valid and of so many levels at most. -/
def xB (f : F) (b u d : Int) : Bool := vldF f b u && decide ((hF f : Int) ≤ d)
theorem xB_cons (lab : ByteArray) (k : Int) (fr to : ByteArray) (ix : Int) (kids rest : F) (b u d : Int) :
    xB (.cons lab k fr to ix kids rest) b u d = ((vldN k fr to ix kids b u && decide (((1 + hF kids : Nat) : Int) ≤ d)) && xB rest b u d) := by
  unfold xB
  rw [vldF_cons]
  have hm : decide (((hF (.cons lab k fr to ix kids rest) : Nat) : Int) ≤ d) = (decide (((1 + hF kids : Nat) : Int) ≤ d) && decide ((hF rest : Int) ≤ d)) := by
    rw [← Bool.decide_and]
    apply decide_eq_decide.2
    simp only [hF]
    omega
  rw [hm]
  generalize decide (((1 + hF kids : Nat) : Int) ≤ d) = x
  generalize decide ((hF rest : Int) ≤ d) = y
  generalize vldN k fr to ix kids b u = z
  generalize vldF rest b u = t
  cases x <;> cases y <;> cases z <;> cases t <;> rfl
theorem vldN_x (k : Int) (fr to : ByteArray) (ix : Int) (kids : F) (b u d : Int) :
    (vldN k fr to ix kids b u && decide (((1 + hF kids : Nat) : Int) ≤ d)) = (hereB k fr to ix kids b u && xB kids (insB k b) (insU k u) (d - 1)) := by
  unfold vldN hereB xB
  rw [show decide (((1 + hF kids : Nat) : Int) ≤ d) = decide ((hF kids : Int) ≤ d - 1) from decide_eq_decide.2 (by omega), Bool.and_assoc]

def VldAt (n : Nat) : Prop := ∀ (w : World) (k ix b u d : Int) (fr to : ByteArray) (sv : Value) (kids : F), kids.sz < n → Sl w sv kids → 0 ≤ b → b + d ≤ 40 → 0 ≤ u → u + d ≤ 40 → 0 ≤ d →
  Calls Try.prog 43 #[.agg #[.int .i64 k, .string fr, .string to, .int .i64 ix, sv], .int .i64 b, .int .i64 u, .int .i64 d] w fun e w' => e = .returned (.bool (vldN k fr to ix kids b u && decide (((1 + hF kids : Nat) : Int) ≤ d))) ∧ Below w.heap.size w w'

set_option maxHeartbeats 4000000 in
set_option maxRecDepth 100000 in
theorem vld_all : ∀ n, VldAt n := by
  intro n
  induction n with
  | zero => intro w k ix b u d fr to sv kids hn; omega
  | succ n ih =>
    intro w k ix b u d fr to sv kids hn hs hb hbd hu hud hd
    obtain ⟨v, hv⟩ : ∃ v, v = (vldN k fr to ix kids b u && decide (((1 + hF kids : Nat) : Int) ≤ d)) := ⟨_, rfl⟩
    rw [← hv]
    have HV := hide hv
    have HN := hide hn
    clear hn hv
    obtain ⟨a, cap, rfl, hlen, hat⟩ := hs.at
    unfold maxLen at hlen
    have HS := hide hs
    have HAT := hide hat
    clear hs hat
    by_cases hd1 : 1 ≤ d
    · go_enter Try.func43, Try.ntmps43
      go_wp2_with fail
      refine (sp_shape _ kids k ix b u fr to _ (HS.out.still (Still.of_below (alloc_below _ _)))).mono ?_
      rintro e w1 ⟨rfl, hb1⟩
      obtain ⟨c0, c1, c2, c3, c4, hlt1, hb2⟩ := box5 hb1
      have HB := hide hb2
      have HA := hide (HAT.out.still (Still.of_below hb2))
      clear hb1 hb2 HS HAT
      cases hh : hereB k fr to ix kids b u with
      | false =>
        have HR : Hid (v = false) := hide (by rw [HV.out, vldN_x k fr to ix kids b u d, hh]; rfl)
        clear hh
        go_wp2_with fail
        go_ret
        exact ⟨ret_bool HR.out.symm, HB.out⟩
      | true =>
      have HH := hide hh
      clear hh
      by_cases k5 : k = 5
      · have k5b : (k == 5) = true := by rw [k5]; rfl
        have HX : Hid (v = xB kids (b + 1) (u + 1) (d - 1)) := hide (by rw [HV.out, vldN_x k fr to ix kids b u d, HH.out, show insB k b = b + 1 by unfold insB; rw [if_pos k5], show insU k u = u + 1 by unfold insU; rw [if_pos k5]]; rfl)
        go_wp2_with fail
        generalize hW2 : w1 = W at *
        clear hW2
        go_loopw [9] (fun iv wr => ∃ (g : F) (j : Nat), j + g.len = kids.len ∧ iv = .int .i64 j ∧ g.sz ≤ kids.sz ∧ At W a j g ∧ xB kids (b + 1) (u + 1) (d - 1) = xB g (b + 1) (u + 1) (d - 1) ∧ Below W.heap.size W wr) (fun iv _ => kids.len - (intOf iv).toNat)
        case atStart => exact ⟨kids, 0, by omega, rfl, Nat.le_refl _, HA.out, rfl, Below.refl _ _⟩
        case round =>
          obtain ⟨g, j, hj, rfl, h5, hg, hx, hbw⟩ := hrel
          have e4 := (Still.of_below hbw) _ _ c4
          have HXX := hide hx
          have HBW := hide (HB.out.trans (hbw.mono HB.out.size))
          clear hx
          cases g with
          | nil =>
            have hge : kids.len ≤ j := by simp [F.len] at hj; omega
            have HR : Hid (v = true) := hide (by rw [HX.out, HXX.out]; unfold xB vldF hF; simp only [Bool.true_and]; exact decide_eq_true (by omega))
            clear hj h5 hg hbw
            go_wp2_with fail
            go_ret
            exact ⟨ret_bool HR.out.symm, HBW.out⟩
          | cons lab kd fr' to' ix' kids' rest =>
            have HK : Hid (j + 1 + rest.len = kids.len) := by unfold Hid; simp only [F.len] at hj; omega
            have hlt : j < kids.len := by have := HK.out; omega
            have HZ : Hid (kids'.sz < n ∧ rest.sz ≤ kids.sz) := by have := HN.out; unfold Hid; simp only [F.sz] at h5; omega
            obtain ⟨b', o, rfl, _, _, _, _, _, q0, q1, q2, q3, q4, ⟨sv', q5, hsv⟩, _⟩ := (hg.still (Still.of_below hbw)).head
            have HS2 := hide hsv
            have HG := hide hg
            have HBB := hide hbw
            clear hj h5 hg hsv hbw
            go_wp2_with fail
            refine (ih wr kd ix' (b + 1) (u + 1) (d - 1) fr' to' sv' kids' HZ.out.1 HS2.out (by omega) (by omega) (by omega) (by omega) (by omega)).mono ?_
            rintro e w3 ⟨rfl, hb5⟩
            have HB6 := hide (HBW.out.trans (hb5.mono HBW.out.size))
            have HB7 := hide (HBB.out.trans (hb5.mono HBB.out.size))
            clear hb5
            cases hv : (vldN kd fr' to' ix' kids' (b + 1) (u + 1) && decide (((1 + hF kids' : Nat) : Int) ≤ d - 1)) with
            | false =>
              have HR : Hid (v = false) := hide (by rw [HX.out, HXX.out, xB_cons, hv]; rfl)
              clear hv
              go_wp2_with fail
              go_ret
              exact ⟨ret_bool HR.out.symm, HB6.out⟩
            | true =>
              have HR : Hid (xB (.cons lab kd fr' to' ix' kids' rest) (b + 1) (u + 1) (d - 1) = xB rest (b + 1) (u + 1) (d - 1)) := hide (by rw [xB_cons, hv]; rfl)
              clear hv
              go_wp2_with fail
              exact ⟨⟨rest, j + 1, by have := HK.out; omega, by go_num, HZ.out.2, HG.out.tail, HXX.out.trans HR.out, HB7.out⟩, by simp [intOf]; omega⟩

      by_cases k2 : k = 2
      · have k5b : (k == 5) = false := beq_eq_false_iff_ne.2 k5; have k2b : (k == 2) = true := by rw [k2]; rfl
        have HX : Hid (v = xB kids (b) (0) (d - 1)) := hide (by rw [HV.out, vldN_x k fr to ix kids b u d, HH.out, show insB k b = b by unfold insB; rw [if_neg k5], show insU k u = 0 by unfold insU; rw [if_neg k5, if_pos (Or.inl k2)]]; rfl)
        go_wp2_with fail
        generalize hW2 : w1 = W at *
        clear hW2
        go_loopw [9] (fun iv wr => ∃ (g : F) (j : Nat), j + g.len = kids.len ∧ iv = .int .i64 j ∧ g.sz ≤ kids.sz ∧ At W a j g ∧ xB kids (b) (0) (d - 1) = xB g (b) (0) (d - 1) ∧ Below W.heap.size W wr) (fun iv _ => kids.len - (intOf iv).toNat)
        case atStart => exact ⟨kids, 0, by omega, rfl, Nat.le_refl _, HA.out, rfl, Below.refl _ _⟩
        case round =>
          obtain ⟨g, j, hj, rfl, h5, hg, hx, hbw⟩ := hrel
          have e4 := (Still.of_below hbw) _ _ c4
          have HXX := hide hx
          have HBW := hide (HB.out.trans (hbw.mono HB.out.size))
          clear hx
          cases g with
          | nil =>
            have hge : kids.len ≤ j := by simp [F.len] at hj; omega
            have HR : Hid (v = true) := hide (by rw [HX.out, HXX.out]; unfold xB vldF hF; simp only [Bool.true_and]; exact decide_eq_true (by omega))
            clear hj h5 hg hbw
            go_wp2_with fail
            go_ret
            exact ⟨ret_bool HR.out.symm, HBW.out⟩
          | cons lab kd fr' to' ix' kids' rest =>
            have HK : Hid (j + 1 + rest.len = kids.len) := by unfold Hid; simp only [F.len] at hj; omega
            have hlt : j < kids.len := by have := HK.out; omega
            have HZ : Hid (kids'.sz < n ∧ rest.sz ≤ kids.sz) := by have := HN.out; unfold Hid; simp only [F.sz] at h5; omega
            obtain ⟨b', o, rfl, _, _, _, _, _, q0, q1, q2, q3, q4, ⟨sv', q5, hsv⟩, _⟩ := (hg.still (Still.of_below hbw)).head
            have HS2 := hide hsv
            have HG := hide hg
            have HBB := hide hbw
            clear hj h5 hg hsv hbw
            go_wp2_with fail
            refine (ih wr kd ix' (b) (0) (d - 1) fr' to' sv' kids' HZ.out.1 HS2.out (by omega) (by omega) (by omega) (by omega) (by omega)).mono ?_
            rintro e w3 ⟨rfl, hb5⟩
            have HB6 := hide (HBW.out.trans (hb5.mono HBW.out.size))
            have HB7 := hide (HBB.out.trans (hb5.mono HBB.out.size))
            clear hb5
            cases hv : (vldN kd fr' to' ix' kids' (b) (0) && decide (((1 + hF kids' : Nat) : Int) ≤ d - 1)) with
            | false =>
              have HR : Hid (v = false) := hide (by rw [HX.out, HXX.out, xB_cons, hv]; rfl)
              clear hv
              go_wp2_with fail
              go_ret
              exact ⟨ret_bool HR.out.symm, HB6.out⟩
            | true =>
              have HR : Hid (xB (.cons lab kd fr' to' ix' kids' rest) (b) (0) (d - 1) = xB rest (b) (0) (d - 1)) := hide (by rw [xB_cons, hv]; rfl)
              clear hv
              go_wp2_with fail
              exact ⟨⟨rest, j + 1, by have := HK.out; omega, by go_num, HZ.out.2, HG.out.tail, HXX.out.trans HR.out, HB7.out⟩, by simp [intOf]; omega⟩

      by_cases k3 : k = 3
      · have k5b : (k == 5) = false := beq_eq_false_iff_ne.2 k5; have k2b : (k == 2) = false := beq_eq_false_iff_ne.2 k2; have k3b : (k == 3) = true := by rw [k3]; rfl
        have HX : Hid (v = xB kids (b) (0) (d - 1)) := hide (by rw [HV.out, vldN_x k fr to ix kids b u d, HH.out, show insB k b = b by unfold insB; rw [if_neg k5], show insU k u = 0 by unfold insU; rw [if_neg k5, if_pos (Or.inr k3)]]; rfl)
        go_wp2_with fail
        generalize hW2 : w1 = W at *
        clear hW2
        go_loopw [9] (fun iv wr => ∃ (g : F) (j : Nat), j + g.len = kids.len ∧ iv = .int .i64 j ∧ g.sz ≤ kids.sz ∧ At W a j g ∧ xB kids (b) (0) (d - 1) = xB g (b) (0) (d - 1) ∧ Below W.heap.size W wr) (fun iv _ => kids.len - (intOf iv).toNat)
        case atStart => exact ⟨kids, 0, by omega, rfl, Nat.le_refl _, HA.out, rfl, Below.refl _ _⟩
        case round =>
          obtain ⟨g, j, hj, rfl, h5, hg, hx, hbw⟩ := hrel
          have e4 := (Still.of_below hbw) _ _ c4
          have HXX := hide hx
          have HBW := hide (HB.out.trans (hbw.mono HB.out.size))
          clear hx
          cases g with
          | nil =>
            have hge : kids.len ≤ j := by simp [F.len] at hj; omega
            have HR : Hid (v = true) := hide (by rw [HX.out, HXX.out]; unfold xB vldF hF; simp only [Bool.true_and]; exact decide_eq_true (by omega))
            clear hj h5 hg hbw
            go_wp2_with fail
            go_ret
            exact ⟨ret_bool HR.out.symm, HBW.out⟩
          | cons lab kd fr' to' ix' kids' rest =>
            have HK : Hid (j + 1 + rest.len = kids.len) := by unfold Hid; simp only [F.len] at hj; omega
            have hlt : j < kids.len := by have := HK.out; omega
            have HZ : Hid (kids'.sz < n ∧ rest.sz ≤ kids.sz) := by have := HN.out; unfold Hid; simp only [F.sz] at h5; omega
            obtain ⟨b', o, rfl, _, _, _, _, _, q0, q1, q2, q3, q4, ⟨sv', q5, hsv⟩, _⟩ := (hg.still (Still.of_below hbw)).head
            have HS2 := hide hsv
            have HG := hide hg
            have HBB := hide hbw
            clear hj h5 hg hsv hbw
            go_wp2_with fail
            refine (ih wr kd ix' (b) (0) (d - 1) fr' to' sv' kids' HZ.out.1 HS2.out (by omega) (by omega) (by omega) (by omega) (by omega)).mono ?_
            rintro e w3 ⟨rfl, hb5⟩
            have HB6 := hide (HBW.out.trans (hb5.mono HBW.out.size))
            have HB7 := hide (HBB.out.trans (hb5.mono HBB.out.size))
            clear hb5
            cases hv : (vldN kd fr' to' ix' kids' (b) (0) && decide (((1 + hF kids' : Nat) : Int) ≤ d - 1)) with
            | false =>
              have HR : Hid (v = false) := hide (by rw [HX.out, HXX.out, xB_cons, hv]; rfl)
              clear hv
              go_wp2_with fail
              go_ret
              exact ⟨ret_bool HR.out.symm, HB6.out⟩
            | true =>
              have HR : Hid (xB (.cons lab kd fr' to' ix' kids' rest) (b) (0) (d - 1) = xB rest (b) (0) (d - 1)) := hide (by rw [xB_cons, hv]; rfl)
              clear hv
              go_wp2_with fail
              exact ⟨⟨rest, j + 1, by have := HK.out; omega, by go_num, HZ.out.2, HG.out.tail, HXX.out.trans HR.out, HB7.out⟩, by simp [intOf]; omega⟩

      · have k5b : (k == 5) = false := beq_eq_false_iff_ne.2 k5; have k2b : (k == 2) = false := beq_eq_false_iff_ne.2 k2; have k3b : (k == 3) = false := beq_eq_false_iff_ne.2 k3
        have HX : Hid (v = xB kids (b) (u) (d - 1)) := hide (by rw [HV.out, vldN_x k fr to ix kids b u d, HH.out, show insB k b = b by unfold insB; rw [if_neg k5], show insU k u = u by unfold insU; rw [if_neg k5, if_neg (by omega)]]; rfl)
        go_wp2_with fail
        generalize hW2 : w1 = W at *
        clear hW2
        go_loopw [9] (fun iv wr => ∃ (g : F) (j : Nat), j + g.len = kids.len ∧ iv = .int .i64 j ∧ g.sz ≤ kids.sz ∧ At W a j g ∧ xB kids (b) (u) (d - 1) = xB g (b) (u) (d - 1) ∧ Below W.heap.size W wr) (fun iv _ => kids.len - (intOf iv).toNat)
        case atStart => exact ⟨kids, 0, by omega, rfl, Nat.le_refl _, HA.out, rfl, Below.refl _ _⟩
        case round =>
          obtain ⟨g, j, hj, rfl, h5, hg, hx, hbw⟩ := hrel
          have e4 := (Still.of_below hbw) _ _ c4
          have HXX := hide hx
          have HBW := hide (HB.out.trans (hbw.mono HB.out.size))
          clear hx
          cases g with
          | nil =>
            have hge : kids.len ≤ j := by simp [F.len] at hj; omega
            have HR : Hid (v = true) := hide (by rw [HX.out, HXX.out]; unfold xB vldF hF; simp only [Bool.true_and]; exact decide_eq_true (by omega))
            clear hj h5 hg hbw
            go_wp2_with fail
            go_ret
            exact ⟨ret_bool HR.out.symm, HBW.out⟩
          | cons lab kd fr' to' ix' kids' rest =>
            have HK : Hid (j + 1 + rest.len = kids.len) := by unfold Hid; simp only [F.len] at hj; omega
            have hlt : j < kids.len := by have := HK.out; omega
            have HZ : Hid (kids'.sz < n ∧ rest.sz ≤ kids.sz) := by have := HN.out; unfold Hid; simp only [F.sz] at h5; omega
            obtain ⟨b', o, rfl, _, _, _, _, _, q0, q1, q2, q3, q4, ⟨sv', q5, hsv⟩, _⟩ := (hg.still (Still.of_below hbw)).head
            have HS2 := hide hsv
            have HG := hide hg
            have HBB := hide hbw
            clear hj h5 hg hsv hbw
            go_wp2_with fail
            refine (ih wr kd ix' (b) (u) (d - 1) fr' to' sv' kids' HZ.out.1 HS2.out (by omega) (by omega) (by omega) (by omega) (by omega)).mono ?_
            rintro e w3 ⟨rfl, hb5⟩
            have HB6 := hide (HBW.out.trans (hb5.mono HBW.out.size))
            have HB7 := hide (HBB.out.trans (hb5.mono HBB.out.size))
            clear hb5
            cases hv : (vldN kd fr' to' ix' kids' (b) (u) && decide (((1 + hF kids' : Nat) : Int) ≤ d - 1)) with
            | false =>
              have HR : Hid (v = false) := hide (by rw [HX.out, HXX.out, xB_cons, hv]; rfl)
              clear hv
              go_wp2_with fail
              go_ret
              exact ⟨ret_bool HR.out.symm, HB6.out⟩
            | true =>
              have HR : Hid (xB (.cons lab kd fr' to' ix' kids' rest) (b) (u) (d - 1) = xB rest (b) (u) (d - 1)) := hide (by rw [xB_cons, hv]; rfl)
              clear hv
              go_wp2_with fail
              exact ⟨⟨rest, j + 1, by have := HK.out; omega, by go_num, HZ.out.2, HG.out.tail, HXX.out.trans HR.out, HB7.out⟩, by simp [intOf]; omega⟩

    · have HR : Hid (v = false) := hide (by rw [HV.out, decide_eq_false (by omega), Bool.and_false])
      go_enter Try.func43, Try.ntmps43
      go_wp2_with fail
      go_ret
      exact ⟨ret_bool HR.out.symm, alloc_below _ _⟩
end Go.Proofs.Ytfppglfajbmapaa.Pc
