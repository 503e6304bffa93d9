/- IsRole and IsLabel, of the program and of the model. -/
import Derived.Test.YtbonmdkfmgahbaaGreatDoorRows
import Derived.Test.YtbonmdkfmgahbaaGreatDoorVal
import Derived.WalkKit
import Derived.WalkSpells
import Derived.WalkLawsBesides
import Derived.Lib.Bytealg
namespace Go.Proofs.YtbonmdkfmgahbaaGreatDoor
open Go.RowKit

theorem one_of_size (s : ByteArray) (h : s.size = 1) : ∃ c, s = ⟨#[c]⟩ := by
  obtain ⟨⟨l⟩⟩ := s
  match l, h with
  | [c], _ => exact ⟨c, rfl⟩

theorem run_bytes (s : ByteArray) (c : Int) (w : World) : (callFunc ( /- f -/ 89) #[.string s, .int .u8 c]).run Tryz.prog w = .ok (.value (.int .i64 (Lib.indexByte s.data.toList c.toNat.toUInt8))) w := by
  rw [run_callFunc_extern Tryz.func89 (by kernel_rfl) (by kernel_rfl) (by kernel_rfl) (e := Extern.BytealgIndexByte.indexByte) (by kernel_rfl), Lib.run_indexByteString]
  rfl

theorem idx_role (c : UInt8) : decide (0 ≤ Lib.indexByte [65, 66, 67] c) = roleB ⟨#[c]⟩ := by
  unfold roleB
  simp only [ByteArray.toList_eq]
  by_cases h1 : c = 65
  · subst h1; decide
  by_cases h2 : c = 66
  · subst h2; decide
  by_cases h3 : c = 67
  · subst h3; decide
  have e1 : (65 : UInt8) ≠ c := Ne.symm h1
  have e2 : (66 : UInt8) ≠ c := Ne.symm h2
  have e3 : (67 : UInt8) ≠ c := Ne.symm h3
  simp [Lib.indexByte, h1, h2, h3, e1, e2, e3]
theorem idx_lab (c : UInt8) : decide (0 ≤ Lib.indexByte [97, 98, 99, 100] c) = labB ⟨#[c]⟩ := by
  unfold labB
  by_cases h1 : c = 97
  · subst h1; decide
  by_cases h2 : c = 98
  · subst h2; decide
  by_cases h3 : c = 99
  · subst h3; decide
  by_cases h4 : c = 100
  · subst h4; decide
  have n1 : ¬ (97 ≤ c.toNat ∧ c.toNat ≤ 100) := by
    intro h
    have hh : c.toNat = 97 ∨ c.toNat = 98 ∨ c.toNat = 99 ∨ c.toNat = 100 := by omega
    rcases hh with hh | hh | hh | hh
    · exact h1 (UInt8.toNat_inj.1 hh)
    · exact h2 (UInt8.toNat_inj.1 hh)
    · exact h3 (UInt8.toNat_inj.1 hh)
    · exact h4 (UInt8.toNat_inj.1 hh)
  have e1 : (97 : UInt8) ≠ c := Ne.symm h1
  have e2 : (98 : UInt8) ≠ c := Ne.symm h2
  have e3 : (99 : UInt8) ≠ c := Ne.symm h3
  have e4 : (100 : UInt8) ≠ c := Ne.symm h4
  simp only [decide_eq_false n1]
  simp [Lib.indexByte, e1, e2, e3, e4]

theorem one_pos (c : UInt8) : 0 < (ByteArray.mk #[c]).size := Nat.one_pos
theorem one_head (c : UInt8) (h : 0 < (ByteArray.mk #[c]).size) : (ByteArray.mk #[c])[0]'h = c := rfl

set_option maxHeartbeats 400000 in
theorem contains_roles (c : UInt8) (w : World) : Calls Tryz.prog 54 #[.string ⟨#[65, 66, 67]⟩, .string ⟨#[c]⟩] w fun e w' => e = .returned (.bool (roleB ⟨#[c]⟩)) ∧ w = w' := by
  have h72 := run_bytes
  go_enter Tryz.func54, Tryz.ntmps54
  go_wp2
  go_ret
  rw [← idx_role]
  exact ⟨ret_bool (by rw [one_head]), rfl⟩
set_option maxHeartbeats 400000 in
theorem contains_labs (c : UInt8) (w : World) : Calls Tryz.prog 54 #[.string ⟨#[97, 98, 99, 100]⟩, .string ⟨#[c]⟩] w fun e w' => e = .returned (.bool (labB ⟨#[c]⟩)) ∧ w = w' := by
  have h72 := run_bytes
  go_enter Tryz.func54, Tryz.ntmps54
  go_wp2
  go_ret
  rw [← idx_lab]
  exact ⟨ret_bool (by rw [one_head]), rfl⟩

set_option maxHeartbeats 400000 in
theorem implRole_one (c : UInt8) (w : World) : Calls Tryz.prog 46 #[.string ⟨#[c]⟩] w fun e w' => e = .returned (.bool (roleB ⟨#[c]⟩)) ∧ w = w' := by
  go_enter Tryz.func46, Tryz.ntmps46
  go_wp2_with (go_at_call 54; refine (contains_roles _ _).mono ?_; rintro e w' ⟨rfl, rfl⟩)
  go_ret
  exact ⟨rfl, rfl⟩
set_option maxHeartbeats 400000 in
theorem implRole_not (s : ByteArray) (hs : ((s.size : Int) == 1) = false) (w : World) : Calls Tryz.prog 46 #[.string s] w fun e w' => e = .returned (.bool false) ∧ w = w' := by
  go_enter Tryz.func46, Tryz.ntmps46
  go_wp2_with fail
  go_ret
  exact ⟨rfl, rfl⟩
set_option maxHeartbeats 400000 in
theorem implLab_one (c : UInt8) (w : World) : Calls Tryz.prog 77 #[.string ⟨#[c]⟩] w fun e w' => e = .returned (.bool (labB ⟨#[c]⟩)) ∧ w = w' := by
  go_enter Tryz.func77, Tryz.ntmps77
  go_wp2_with (go_at_call 54; refine (contains_labs _ _).mono ?_; rintro e w' ⟨rfl, rfl⟩)
  go_ret
  exact ⟨rfl, rfl⟩
set_option maxHeartbeats 400000 in
theorem implLab_not (s : ByteArray) (hs : ((s.size : Int) == 1) = false) (w : World) : Calls Tryz.prog 77 #[.string s] w fun e w' => e = .returned (.bool false) ∧ w = w' := by
  go_enter Tryz.func77, Tryz.ntmps77
  go_wp2_with fail
  go_ret
  exact ⟨rfl, rfl⟩
set_option maxHeartbeats 400000 in
/-- IsRole of the model. -/
theorem specRole (s : ByteArray) (w : World) : Calls Tryz.prog 35 #[.string s] w fun e w' => e = .returned (.bool (roleB s)) ∧ w = w' := by
  go_enter Tryz.func35, Tryz.ntmps35
  go_wp2_with fail
  all_goals go_ret
  all_goals exact ⟨ret_bool (by simp [roleB, *]), rfl⟩
set_option maxHeartbeats 400000 in
theorem specLab_one (c : UInt8) (w : World) : Calls Tryz.prog 68 #[.string ⟨#[c]⟩] w fun e w' => e = .returned (.bool (labB ⟨#[c]⟩)) ∧ w = w' := by
  go_enter Tryz.func68, Tryz.ntmps68
  go_wp2_with fail
  · have h : (97 : Int) ≤ ((ByteArray.mk #[c])[0]'(one_pos c)).toNat := by assumption
    go_ret
    refine ⟨ret_bool ?_, rfl⟩
    rw [one_head] at *
    unfold labB
    have h' : 97 ≤ c.toNat := by omega
    simp [h']
    omega
  · have h : (((ByteArray.mk #[c])[0]'(one_pos c)).toNat : Int) < 97 := by assumption
    go_ret
    refine ⟨ret_bool ?_, rfl⟩
    rw [one_head] at *
    unfold labB
    have h' : ¬ 97 ≤ c.toNat := by omega
    simp [h']
set_option maxHeartbeats 400000 in
theorem specLab_not (s : ByteArray) (hs : ((s.size : Int) == 1) = false) (w : World) : Calls Tryz.prog 68 #[.string s] w fun e w' => e = .returned (.bool false) ∧ w = w' := by
  go_enter Tryz.func68, Tryz.ntmps68
  go_wp2_with fail
  go_ret
  exact ⟨rfl, rfl⟩

theorem roleB_not (s : ByteArray) (h : s.size ≠ 1) : roleB s = false := by
  unfold roleB
  have q : ∀ x : UInt8, (s.toList == [x]) = false := fun x => by
    rw [beq_eq_false_iff_ne, ByteArray.toList_eq]
    intro e
    apply h
    have := congrArg List.length e
    simpa using this
  simp [q]
theorem labB_not (s : ByteArray) (h : s.size ≠ 1) : labB s = false := by
  unfold labB
  split
  · rename_i c e
    exact absurd (by have := congrArg List.length e; simpa using this) h
  · rfl

/-- IsRole of the program. -/
theorem implRole (s : ByteArray) (w : World) : Calls Tryz.prog 46 #[.string s] w fun e w' => e = .returned (.bool (roleB s)) ∧ w = w' := by
  by_cases h : s.size = 1
  · obtain ⟨c, rfl⟩ := one_of_size s h
    exact implRole_one c w
  · rw [roleB_not s h]
    exact implRole_not s (beq_eq_false_iff_ne.2 (by omega)) w
/-- IsLabel of the program. -/
theorem implLab (s : ByteArray) (w : World) : Calls Tryz.prog 77 #[.string s] w fun e w' => e = .returned (.bool (labB s)) ∧ w = w' := by
  by_cases h : s.size = 1
  · obtain ⟨c, rfl⟩ := one_of_size s h
    exact implLab_one c w
  · rw [labB_not s h]
    exact implLab_not s (beq_eq_false_iff_ne.2 (by omega)) w
/-- IsLabel of the model. -/
theorem specLab (s : ByteArray) (w : World) : Calls Tryz.prog 68 #[.string s] w fun e w' => e = .returned (.bool (labB s)) ∧ w = w' := by
  by_cases h : s.size = 1
  · obtain ⟨c, rfl⟩ := one_of_size s h
    exact specLab_one c w
  · rw [labB_not s h]
    exact specLab_not s (beq_eq_false_iff_ne.2 (by omega)) w
end Go.Proofs.YtbonmdkfmgahbaaGreatDoor
