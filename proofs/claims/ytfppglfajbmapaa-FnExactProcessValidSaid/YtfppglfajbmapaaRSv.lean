/- l8Fields, l8Plain, l8Labels and l8Shape of the model. -/
import Derived.Test.YtfppglfajbmapaaRVal
import Derived.Test.YtfppglfajbmapaaRQ0
import Derived.Test.YtfppglfajbmapaaIs
import Derived.BigQuiet
import Derived.Deep.QuietTactic
namespace Go.Proofs.Ytfppglfajbmapaa.Pc
open Go.RowKit

set_option maxHeartbeats 800000 in
theorem sv_fields (w : World) (k ix : Int) (fr to : ByteArray) (sv : Value) :
    Calls Try.prog 93 #[.agg #[.int .i64 k, .string fr, .string to, .int .i64 ix, sv]] w fun e w' => e = .returned (.bool (fieldsB k fr to ix)) ∧ Below w.heap.size w w' := by
  go_enter Try.func93, Try.ntmps93
  go_wp2_with fail
  all_goals go_ret
  all_goals exact ⟨ret_bool (by simp [fieldsB, *]), alloc_below _ _⟩

theorem specLab_q (s : ByteArray) (v : Bool) (h : labB s = v) (w : World) : Calls Try.prog 95 #[.string s] w fun e w' => e = .returned (.bool v) ∧ w' = w :=
  (specLab s w).mono fun _ _ ⟨h1, h2⟩ => ⟨by rw [h1, h], h2.symm⟩

/-- What a round of l8Labels knows. -/
def BrRel (W : World) (a : Option Addr) (f : F) (iv : Value) (wr : World) : Prop :=
  ∃ g k p, k + g.len = f.len ∧ iv = .int .i64 (k : Nat) ∧ ascB none f = ascB p g ∧ At W a k g ∧
    ((k = 0 ∧ p = none) ∨ ∃ q k' b o, k = k' + 1 ∧ p = some q ∧ a = some ⟨b, o, none⟩ ∧ W.cell? ⟨b, o + k' * 6, none⟩ = some (.string q)) ∧ Below W.heap.size W wr

set_option maxHeartbeats 800000 in
set_option maxRecDepth 100000 in
theorem sv_branches (w : World) (f : F) (k ix : Int) (fr to : ByteArray) (sv : Value) (hs : Sl w sv f) :
    Calls Try.prog 96 #[.agg #[.int .i64 k, .string fr, .string to, .int .i64 ix, sv]] w fun e w' => e = .returned (.bool (branchesB f)) ∧ Below w.heap.size w w' := by
  obtain ⟨a, cap, rfl, hlen, hat⟩ := hs.at
  have hb0 := alloc_below w (.cells #[.int .i64 k, .string fr, .string to, .int .i64 ix, .slice a f.len cap] ( /- t -/ 48))
  have HA := hide (hat.still (Still.of_below hb0))
  clear hs hat
  unfold maxLen at hlen
  go_enter Try.func96, Try.ntmps96
  go_wp2_with fail
  have hc4 : (w.alloc (.cells #[.int .i64 k, .string fr, .string to, .int .i64 ix, .slice a f.len cap] ( /- t -/ 48))).cell? ⟨w.heap.size, 4, none⟩ = some (.slice a f.len cap) := by go_simp
  have hsz : w.heap.size < (w.alloc (.cells #[.int .i64 k, .string fr, .string to, .int .i64 ix, .slice a f.len cap] ( /- t -/ 48))).heap.size := by simp
  generalize (w.alloc (.cells #[.int .i64 k, .string fr, .string to, .int .i64 ix, .slice a f.len cap] ( /- t -/ 48))) = W at *
  go_loopw [3] (fun iv wr => BrRel W a f iv wr) (fun iv _ => f.len - (intOf iv).toNat)
  case atStart => exact ⟨f, 0, none, by omega, rfl, rfl, HA.out, Or.inl ⟨rfl, rfl⟩, Below.refl _ _⟩
  case round =>
    obtain ⟨g, k, p, hk, rfl, hasc, hg, hp, hb⟩ := hrel
    have hd4 := (hb.cell (p := ⟨w.heap.size, 4, none⟩) hsz).trans hc4
    have HB := hide (hb0.trans (hb.mono (Nat.le_of_lt hsz)))
    have HP := hide hp
    have HS := hide hasc
    clear hp hasc hb0 hc4
    cases g with
    | nil =>
      have H5 : Hid (k = f.len) := by unfold Hid; simpa [F.len] using hk
      have hge : f.len ≤ k := Nat.le_of_eq H5.out.symm
      clear hk
      go_wp2_with fail
      all_goals go_ret
      · have h1 : (1 : Int) ≤ f.len := by assumption
        refine ⟨ret_bool ?_, HB.out⟩
        show decide ((f.len : Int) ≤ 3) = _
        unfold branchesB
        rw [HS.out, ascB, Bool.true_and]
        exact decide_eq_decide.2 (by omega)
      · have h1 : (f.len : Int) < 1 := by assumption
        refine ⟨ret_bool ?_, HB.out⟩
        unfold branchesB
        rw [HS.out, ascB, Bool.true_and]
        exact (decide_eq_false (by omega)).symm
    | cons lab kd fr' to' ix' kids rest =>
      have HK : Hid (k + 1 + rest.len = f.len) := by unfold Hid; simp only [F.len] at hk; omega
      have hlt : k < f.len := by have := HK.out; omega
      obtain ⟨b, o, rfl, l1, _, _, _, _, c0, _, _, _, _, _, _⟩ := (hg.still (Still.of_below hb)).head
      have HW : Hid (W.cell? ⟨b, o + k * 6, none⟩ = some (.string lab)) := by
        obtain ⟨b2, o2, e, _, _, _, _, _, c0', _⟩ := hg.head
        simp only [Option.some.injEq, Addr.mk.injEq, and_true] at e
        obtain ⟨rfl, rfl⟩ := e
        exact c0'
      have HG := hide hg
      clear hk hg
      cases hl : labB lab with
      | false =>
        have HL := hide hl
        clear hl
        go_wp2_with fail
        go_quiet ((go_at_call 95; exact Calls.quiet_of_same (specLab_q _ _ HL.out _)))
        go_wp2_with fail
        go_ret
        refine ⟨ret_bool ?_, below_drewN HB.out _⟩
        unfold branchesB
        rw [HS.out]
        cases p <;> simp [ascB, HL.out]
      | true =>
        have HL := hide hl
        clear hl
        rcases HP.out with ⟨hk0, rfl⟩ | ⟨q, k', b', o', rfl, rfl, e1, e2⟩
        · have hd0 : decide (0 < k) = false := by rw [hk0]; rfl
          have HK0 := hide hk0
          clear hk0
          go_wp2_with fail
          go_quiet ((go_at_call 95; exact Calls.quiet_of_same (specLab_q _ _ HL.out _)))
          go_wp2_with fail
          refine ⟨⟨rest, k + 1, some lab, by have := HK.out; omega, by go_num, ?_, HG.out.tail, Or.inr ⟨lab, k, b, o, rfl, rfl, rfl, HW.out⟩, below_drewN hb _⟩, by simp [intOf]; omega⟩
          rw [HS.out]
          simp [ascB, HL.out]
        · simp only [Option.some.injEq, Addr.mk.injEq, and_true] at e1
          obtain ⟨rfl, rfl⟩ := e1
          have d0 := (Still.of_below hb) _ _ e2
          clear e2
          cases hbl : Op.bytesLess q.toList lab.toList with
          | false =>
            go_wp2_with fail
            go_quiet ((go_at_call 95; exact Calls.quiet_of_same (specLab_q _ _ HL.out _)))
            go_wp2_with fail
            go_ret
            refine ⟨ret_bool ?_, below_drewN HB.out _⟩
            unfold branchesB
            rw [HS.out]
            simp [ascB, HL.out, hbl]
          | true =>
            go_wp2_with fail
            go_quiet ((go_at_call 95; exact Calls.quiet_of_same (specLab_q _ _ HL.out _)))
            go_wp2_with fail
            refine ⟨⟨rest, k' + 1 + 1, some lab, by have := HK.out; omega, by go_num, ?_, HG.out.tail, Or.inr ⟨lab, k' + 1, b, o, rfl, rfl, rfl, HW.out⟩, below_drewN hb _⟩, by simp [intOf]; omega⟩
            rw [HS.out]
            simp [ascB, HL.out, hbl]

set_option maxHeartbeats 800000 in
set_option maxRecDepth 100000 in
theorem sp_plain (w : World) (f : F) (k ix : Int) (fr to : ByteArray) (sv : Value) (n : Nat) (hs : Sl w sv f) :
    Calls Try.prog 94 #[.agg #[.int .i64 k, .string fr, .string to, .int .i64 ix, sv], .int .i64 (n : Int)] w fun e w' => e = .returned (.bool (plainB f n)) ∧ Below w.heap.size w w' := by
  obtain ⟨a, cap, rfl, hlen, hat⟩ := hs.at
  have hb0 := alloc_below w (.cells #[.int .i64 k, .string fr, .string to, .int .i64 ix, .slice a f.len cap] ( /- t -/ 48))
  have HA := hide (hat.still (Still.of_below hb0))
  clear hs hat
  unfold maxLen at hlen
  go_enter Try.func94, Try.ntmps94
  go_wp2_with fail
  have hc4 : (w.alloc (.cells #[.int .i64 k, .string fr, .string to, .int .i64 ix, .slice a f.len cap] ( /- t -/ 48))).cell? ⟨w.heap.size, 4, none⟩ = some (.slice a f.len cap) := by go_simp
  have hsz : w.heap.size < (w.alloc (.cells #[.int .i64 k, .string fr, .string to, .int .i64 ix, .slice a f.len cap] ( /- t -/ 48))).heap.size := by simp
  generalize (w.alloc (.cells #[.int .i64 k, .string fr, .string to, .int .i64 ix, .slice a f.len cap] ( /- t -/ 48))) = W at *
  go_loopw [5] (fun iv wr => ∃ (g : F) (j : Nat), j + g.len = f.len ∧ iv = .int .i64 j ∧ At W a j g ∧ bareF f = bareF g ∧ wr = W) (fun iv _ => f.len - (intOf iv).toNat)
  case atStart => exact ⟨f, 0, by omega, rfl, HA.out, rfl, rfl⟩
  case round =>
    obtain ⟨g, j, hj, rfl, hg, hbr, rfl⟩ := hrel
    have HB := hide hb0
    have HR := hide hbr
    clear hbr hb0
    cases g with
    | nil =>
      have hge : f.len ≤ j := by simp [F.len] at hj; omega
      clear hj hg
      go_wp2_with fail
      go_ret
      refine ⟨ret_bool ?_, HB.out⟩
      unfold plainB
      rw [HR.out, bareF, Bool.true_and]
      show decide _ = _
      exact decide_eq_decide.2 (by omega)
    | cons lab kd fr' to' ix' kids rest =>
      have HK : Hid (j + 1 + rest.len = f.len) := by unfold Hid; simp only [F.len] at hj; omega
      have hlt : j < f.len := by have := HK.out; omega
      obtain ⟨b, o, rfl, l1, _, _, _, _, c0, _, _, _, _, _, _⟩ := hg.head
      have HG := hide hg
      clear hj hg
      cases hl : lab.toList.isEmpty with
      | false =>
        have hl2 : ¬ lab.toList = [] := by simpa using hl
        go_wp2_with fail
        go_ret
        refine ⟨ret_bool ?_, HB.out⟩
        unfold plainB
        rw [HR.out, bareF, hl]
        rfl
      | true =>
        have hl2 : lab.toList = [] := by simpa using hl
        go_wp2_with fail
        refine ⟨⟨rest, j + 1, by have := HK.out; omega, by go_num, HG.out.tail, ?_, (by first | trivial | rfl)⟩, by simp [intOf]; omega⟩
        rw [HR.out, bareF, hl]
        rfl

/-- A node's shape and, at a variable, its index. -/
def hereB (k : Int) (fr to : ByteArray) (ix : Int) (kids : F) (b u : Int) : Bool := shapeB k fr to ix kids && (if k = 6 then decide (u ≤ ix) && decide (ix < b) else true)

set_option maxHeartbeats 2000000 in
set_option maxRecDepth 100000 in
theorem sp_shape (w : World) (kids : F) (k ix b u : Int) (fr to : ByteArray) (sv : Value) (hs : Sl w sv kids) :
    Calls Try.prog 73 #[.agg #[.int .i64 k, .string fr, .string to, .int .i64 ix, sv], .int .i64 b, .int .i64 u] w fun e w' => e = .returned (.bool (hereB k fr to ix kids b u)) ∧ Below w.heap.size w w' := by
  obtain ⟨v, hv⟩ : ∃ v, v = hereB k fr to ix kids b u := ⟨_, rfl⟩
  rw [← hv]
  have HV := hide hv
  have HS := hide hs
  clear hs hv
  go_enter Try.func73, Try.ntmps73
  go_wp2_with fail
  refine (sv_fields _ _ _ _ _ _).mono ?_
  rintro e w1 ⟨rfl, hb⟩
  obtain ⟨c0, c1, c2, c3, c4, hlt, hb2⟩ := box5 hb
  have HB := hide hb2
  have HSL := hide (HS.out.still (Still.of_below hb2))
  clear hb hb2 HS
  cases hf : fieldsB k fr to ix with
  | false =>
    go_wp2_with fail
    go_ret
    exact ⟨ret_bool (by rw [HV.out]; simp [hereB, shapeB, hf]), HB.out⟩
  | true =>
    have HF := hide hf
    clear hf
    by_cases k1 : k = 1
    · subst k1
      have HVV : Hid (v = plainB kids 0) := hide (by rw [HV.out]; simp [hereB, shapeB, HF.out])
      go_wp2_with fail
      refine (sp_plain _ kids _ _ _ _ _ 0 HSL.out).mono ?_
      rintro e w2 ⟨rfl, hb3⟩
      have HB2 := hide (HB.out.trans (hb3.mono HB.out.size))
      clear hb3
      rw [← HVV.out]
      go_wp2_with fail
      go_ret
      exact ⟨rfl, HB2.out⟩
    by_cases k2 : k = 2
    · subst k2
      have HVV : Hid (v = (roleB fr && labB to && plainB kids 1)) := hide (by rw [HV.out]; simp [hereB, shapeB, HF.out])
      cases h1 : roleB fr with
      | false =>
        go_wp2_with (first | (go_at_call 87; refine (specRole _ _).mono ?_; (rintro e w' ⟨rfl, rfl⟩); rw [h1]) | fail)
        go_ret
        exact ⟨ret_bool (by rw [HVV.out, h1]; rfl), HB.out⟩
      | true =>
      cases h2 : labB to with
      | false =>
        go_wp2_with (first | (go_at_call 87; refine (specRole _ _).mono ?_; (rintro e w' ⟨rfl, rfl⟩); rw [h1]) | (go_at_call 95; refine (specLab _ _).mono ?_; (rintro e w' ⟨rfl, rfl⟩); rw [h2]) | fail)
        go_ret
        exact ⟨ret_bool (by rw [HVV.out, h1, h2]; rfl), HB.out⟩
      | true =>
        have HV3 : Hid (v = plainB kids 1) := hide (by rw [HVV.out, h1, h2]; rfl)
        go_wp2_with (first | (go_at_call 87; refine (specRole _ _).mono ?_; (rintro e w' ⟨rfl, rfl⟩); rw [h1]) | (go_at_call 95; refine (specLab _ _).mono ?_; (rintro e w' ⟨rfl, rfl⟩); rw [h2]) | fail)
        refine (sp_plain _ kids _ _ _ _ _ 1 HSL.out).mono ?_
        rintro e w2 ⟨rfl, hb3⟩
        have HB2 := hide (HB.out.trans (hb3.mono HB.out.size))
        clear hb3
        rw [← HV3.out]
        go_wp2_with fail
        go_ret
        exact ⟨rfl, HB2.out⟩
    by_cases k3 : k = 3
    · subst k3
      have HVV : Hid (v = (roleB fr && branchesB kids)) := hide (by rw [HV.out]; simp [hereB, shapeB, HF.out])
      cases h1 : roleB fr with
      | false =>
        go_wp2_with (first | (go_at_call 87; refine (specRole _ _).mono ?_; (rintro e w' ⟨rfl, rfl⟩); rw [h1]) | fail)
        go_ret
        exact ⟨ret_bool (by rw [HVV.out, h1]; rfl), HB.out⟩
      | true =>
        have HV3 : Hid (v = branchesB kids) := hide (by rw [HVV.out, h1]; rfl)
        go_wp2_with (first | (go_at_call 87; refine (specRole _ _).mono ?_; (rintro e w' ⟨rfl, rfl⟩); rw [h1]) | fail)
        refine (sv_branches _ kids _ _ _ _ _ HSL.out).mono ?_
        rintro e w2 ⟨rfl, hb3⟩
        have HB2 := hide (HB.out.trans (hb3.mono HB.out.size))
        clear hb3
        rw [← HV3.out]
        go_wp2_with fail
        go_ret
        exact ⟨rfl, HB2.out⟩
    by_cases k4 : k = 4
    · subst k4
      have HVV : Hid (v = plainB kids 2) := hide (by rw [HV.out]; simp [hereB, shapeB, HF.out])
      go_wp2_with fail
      refine (sp_plain _ kids _ _ _ _ _ 2 HSL.out).mono ?_
      rintro e w2 ⟨rfl, hb3⟩
      have HB2 := hide (HB.out.trans (hb3.mono HB.out.size))
      clear hb3
      rw [← HVV.out]
      go_wp2_with fail
      go_ret
      exact ⟨rfl, HB2.out⟩
    by_cases k5 : k = 5
    · subst k5
      have HVV : Hid (v = plainB kids 1) := hide (by rw [HV.out]; simp [hereB, shapeB, HF.out])
      go_wp2_with fail
      refine (sp_plain _ kids _ _ _ _ _ 1 HSL.out).mono ?_
      rintro e w2 ⟨rfl, hb3⟩
      have HB2 := hide (HB.out.trans (hb3.mono HB.out.size))
      clear hb3
      rw [← HVV.out]
      go_wp2_with fail
      go_ret
      exact ⟨rfl, HB2.out⟩
    by_cases k6 : k = 6
    · subst k6
      have HVV : Hid (v = (plainB kids 0 && (decide (u ≤ ix) && decide (ix < b)))) := hide (by rw [HV.out]; simp [hereB, shapeB, HF.out])
      go_wp2_with fail
      refine (sp_plain _ kids _ _ _ _ _ 0 HSL.out).mono ?_
      rintro e w2 ⟨rfl, hb3⟩
      have HB2 := hide (HB.out.trans (hb3.mono HB.out.size))
      have c3 := (Still.of_below hb3) _ _ c3
      have hlt := World.block_lt_of_cell? _ _ c3
      clear hb3
      cases hp : plainB kids 0 with
      | false =>
        go_wp2_with fail
        go_ret
        exact ⟨ret_bool (by rw [HVV.out, hp]; rfl), HB2.out⟩
      | true =>
        go_wp2_with fail
        all_goals go_ret
        all_goals refine ⟨ret_bool ?_, HB2.out⟩
        all_goals rw [HVV.out, hp, Bool.true_and]
        all_goals first
          | (rw [show decide (u ≤ ix) = true from decide_eq_true (by omega)]; simp)
          | (rw [show decide (u ≤ ix) = false from decide_eq_false (by omega)]; simp)
          | simp [*]
    · have HVV : Hid (v = false) := hide (by rw [HV.out]; simp [hereB, shapeB, k1, k2, k3, k4, k5, k6])
      go_wp2_with fail
      go_ret
      exact ⟨ret_bool HVV.out.symm, HB.out⟩
end Go.Proofs.Ytfppglfajbmapaa.Pc
