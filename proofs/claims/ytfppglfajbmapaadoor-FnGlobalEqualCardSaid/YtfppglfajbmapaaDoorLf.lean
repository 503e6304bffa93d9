/- labelsFit of the program, at the labels of a global type. -/
import Derived.Test.YtfppglfajbmapaaDoorSv
namespace Go.Proofs.YtfppglfajbmapaaDoor
open Go.RowKit

theorem implLab_q (s : ByteArray) (v : Bool) (h : labB s = v) (w : World) : Calls Tryd.prog 15 #[.string s] w fun e w' => e = .returned (.bool v) ∧ w' = w :=
  (implLab s w).mono fun _ _ ⟨h1, h2⟩ => ⟨by rw [h1, h], h2.symm⟩

theorem less_three : ∀ a b : List UInt8, (Op.bytesLess b a || b == a) = !Op.bytesLess a b
  | [], [] => rfl
  | [], _ :: _ => rfl
  | _ :: _, [] => rfl
  | x :: a, y :: b => by
    have ih := less_three a b
    simp only [Op.bytesLess, List.cons_beq_cons]
    by_cases h1 : x < y
    · have h2 : ¬ y < x := by rw [UInt8.lt_iff_toNat_lt] at *; omega
      have h3 : (y == x) = false := beq_eq_false_iff_ne.2 (by rintro rfl; exact h2 h1)
      simp [h1, h2, h3]
    · by_cases h2 : y < x
      · have h3 : (x == y) = false := beq_eq_false_iff_ne.2 (by rintro rfl; exact h1 h2)
        simp [h1, h2, h3]
      · have h3 : x = y := by
          apply UInt8.toNat_inj.1
          rw [UInt8.lt_iff_toNat_lt] at *
          omega
        subst h3
        simp [h1, ih]

theorem lab_at (w : World) (B n cap b o j : Nat) (lab : ByteArray) (h4 : w.cell? ⟨B, 4, none⟩ = some (.slice (some ⟨b, o, none⟩) n cap)) (hj : j < n) (hc : w.cell? ⟨b, o + j * 6, none⟩ = some (.string lab)) :
    Calls Tryd.prog 146 #[.int .i64 j, .pointer (some ⟨B, 0, none⟩)] w fun e w' => e = .returned (.string lab) ∧ w' = w := by
  have hB := World.block_lt_of_cell? _ _ h4
  have hb := World.block_lt_of_cell? _ _ hc
  go_enter Tryd.func146, Tryd.ntmps146
  go_wp2_with fail
  go_ret
  exact ⟨rfl, rfl⟩

set_option maxHeartbeats 4000000 in
set_option maxRecDepth 100000 in
theorem fit_walk (w : World) (B : Nat) (f : F) (sv : Value) (hs : Sl w sv f) (hB : w.cell? ⟨B, 4, none⟩ = some sv) (h1 : 1 ≤ f.len) (h3 : f.len ≤ 3) :
    Calls Tryd.prog 145 #[.int .i64 f.len, .int .i64 3, .func (.func ( /- f -/ 146)) #[] #[.pointer (some ⟨B, 0, none⟩)]] w fun e w' => e = .returned (.bool (branchesB f)) ∧ Below w.heap.size w w' := by
  obtain ⟨a, cap, rfl, hlen, hat⟩ := hs.at
  have HA := hide hat
  clear hs hat
  unfold maxLen at hlen
  have hne : ((f.len : Int) == 0) = false := beq_eq_false_iff_ne.2 (by omega)
  go_enter Tryd.func145, Tryd.ntmps145
  go_wp2_with fail
  go_loopw [16] (fun iv wr => BrRel w a f iv wr) (fun iv _ => f.len - (intOf iv).toNat)
  case atStart => exact ⟨f, 0, none, by omega, rfl, rfl, HA.out, Or.inl ⟨rfl, rfl⟩, Below.refl _ _⟩
  case round =>
    obtain ⟨g, k, p, hk, rfl, hasc, hg, hp, hb⟩ := hrel
    have HP := hide hp
    have HS := hide hasc
    clear hp hasc
    cases g with
    | nil =>
      have H5 : Hid (k = f.len) := by unfold Hid; simpa [F.len] using hk
      have hge : f.len ≤ k := Nat.le_of_eq H5.out.symm
      clear hk
      go_wp2_with fail
      go_ret
      refine ⟨ret_bool ?_, hb⟩
      unfold branchesB
      rw [HS.out, ascB, Bool.true_and]
      exact (decide_eq_true (by omega)).symm
    | cons lab kd fr' to' ix' kids rest =>
      have HK : Hid (k + 1 + rest.len = f.len) := by unfold Hid; simp only [F.len] at hk; omega
      have hlt : k < f.len := by have := HK.out; omega
      obtain ⟨b, o, rfl, l1, _, _, _, _, c0, _⟩ := (hg.still (Still.of_below hb)).head
      have h4 := (Still.of_below hb) _ _ hB
      have hbw : b < wr.heap.size := World.block_lt_of_cell? _ _ c0
      have HW : Hid (w.cell? ⟨b, o + k * 6, none⟩ = some (.string lab)) := by
        obtain ⟨b2, o2, e, _, _, _, _, _, c0', _⟩ := hg.head
        simp only [Option.some.injEq, Addr.mk.injEq, and_true] at e
        obtain ⟨rfl, rfl⟩ := e
        exact c0'
      have HG := hide hg
      clear hk hg
      cases hl : labB lab with
      | false =>
        have HL := hide hl
        clear hl
        go_wp2_with (first | (go_at_call 146; refine (lab_at _ B f.len cap b o k lab h4 hlt c0).mono ?_; rintro e w' ⟨rfl, rfl⟩) | (go_at_call 15; refine (implLab_q _ _ HL.out _).mono ?_; rintro e w' ⟨rfl, rfl⟩) | fail)
        go_ret
        refine ⟨ret_bool ?_, hb⟩
        unfold branchesB
        rw [HS.out]
        cases p <;> simp [ascB, HL.out]
      | true =>
        have HL := hide hl
        clear hl
        rcases HP.out with ⟨hk0, rfl⟩ | ⟨q, k', b', o', rfl, rfl, e1, e2⟩
        · have hd0 : decide (0 < k) = false := by rw [hk0]; rfl
          have HK0 := hide hk0
          clear hk0
          go_wp2_with (first | (go_at_call 146; refine (lab_at _ B f.len cap b o k lab h4 hlt c0).mono ?_; rintro e w' ⟨rfl, rfl⟩) | (go_at_call 15; refine (implLab_q _ _ HL.out _).mono ?_; rintro e w' ⟨rfl, rfl⟩) | fail)
          refine ⟨⟨rest, k + 1, some lab, by have := HK.out; omega, by go_num, ?_, HG.out.tail, Or.inr ⟨lab, k, b, o, rfl, rfl, rfl, HW.out⟩, hb⟩, by simp [intOf]; omega⟩
          rw [HS.out]
          simp [ascB, HL.out]
        · simp only [Option.some.injEq, Addr.mk.injEq, and_true] at e1
          obtain ⟨rfl, rfl⟩ := e1
          have d0 := (Still.of_below hb) _ _ e2
          clear e2
          have h3 := less_three q.toList lab.toList
          cases hbl : Op.bytesLess q.toList lab.toList with
          | false =>
            have hle : (Op.bytesLess lab.toList q.toList || lab.toList == q.toList) = true := by rw [h3, hbl]; rfl
            have HBL := hide hbl
            clear h3 hbl
            go_wp2_with (first | (go_at_call 146; refine (lab_at _ B f.len cap b o (k' + 1) lab h4 hlt c0).mono ?_; rintro e w' ⟨rfl, rfl⟩) | (go_at_call 146; refine (lab_at _ B f.len cap b o k' q h4 (by omega) d0).mono ?_; rintro e w' ⟨rfl, rfl⟩) | (go_at_call 15; refine (implLab_q _ _ HL.out _).mono ?_; rintro e w' ⟨rfl, rfl⟩) | fail)
            go_ret
            refine ⟨ret_bool ?_, hb⟩
            unfold branchesB
            rw [HS.out]
            simp [ascB, HL.out, HBL.out]
          | true =>
            have hle : (Op.bytesLess lab.toList q.toList || lab.toList == q.toList) = false := by rw [h3, hbl]; rfl
            have HBL := hide hbl
            clear h3 hbl
            go_wp2_with (first | (go_at_call 146; refine (lab_at _ B f.len cap b o (k' + 1) lab h4 hlt c0).mono ?_; rintro e w' ⟨rfl, rfl⟩) | (go_at_call 146; refine (lab_at _ B f.len cap b o k' q h4 (by omega) d0).mono ?_; rintro e w' ⟨rfl, rfl⟩) | (go_at_call 15; refine (implLab_q _ _ HL.out _).mono ?_; rintro e w' ⟨rfl, rfl⟩) | fail)
            refine ⟨⟨rest, k' + 1 + 1, some lab, by have := HK.out; omega, by go_num, ?_, HG.out.tail, Or.inr ⟨lab, k' + 1, b, o, rfl, rfl, rfl, HW.out⟩, hb⟩, by simp [intOf]; omega⟩
            rw [HS.out]
            simp [ascB, HL.out, HBL.out]

theorem fit_none (w : World) (n : Nat) (fv : Value) (h : n = 0) :
    Calls Tryd.prog 145 #[.int .i64 n, .int .i64 3, fv] w fun e w' => e = .returned (.bool false) ∧ Below w.heap.size w w' := by
  have hb : ((n : Int) == 0) = true := beq_iff_eq.2 (by omega)
  have H := hide h
  clear h
  go_enter Tryd.func145, Tryd.ntmps145
  go_wp2_with fail
  go_ret
  exact ⟨rfl, Below.refl _ _⟩
theorem fit_many (w : World) (n : Nat) (fv : Value) (h : 3 < n) :
    Calls Tryd.prog 145 #[.int .i64 n, .int .i64 3, fv] w fun e w' => e = .returned (.bool false) ∧ Below w.heap.size w w' := by
  have hb : ((n : Int) == 0) = false := beq_eq_false_iff_ne.2 (by omega)
  go_enter Tryd.func145, Tryd.ntmps145
  go_wp2_with fail
  go_ret
  exact ⟨rfl, Below.refl _ _⟩
/-- labelsFit of the program, at the labels of a node's branches. -/
theorem implFit (w : World) (B : Nat) (f : F) (sv : Value) (hs : Sl w sv f) (hB : w.cell? ⟨B, 4, none⟩ = some sv) :
    Calls Tryd.prog 145 #[.int .i64 f.len, .int .i64 3, .func (.func ( /- f -/ 146)) #[] #[.pointer (some ⟨B, 0, none⟩)]] w fun e w' => e = .returned (.bool (branchesB f)) ∧ Below w.heap.size w w' := by
  by_cases h1 : f.len = 0
  · have hv : branchesB f = false := by unfold branchesB; rw [decide_eq_false (by omega), Bool.and_false]
    rw [hv]
    exact fit_none w f.len _ h1
  · by_cases h3 : 3 < f.len
    · have hv : branchesB f = false := by unfold branchesB; rw [decide_eq_false (by omega), Bool.and_false]
      rw [hv]
      exact fit_many w f.len _ h3
    · exact fit_walk w B f sv hs hB (by omega) (by omega)

end Go.Proofs.YtfppglfajbmapaaDoor
