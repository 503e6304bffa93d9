/- IsRole and IsLabel, of the program and of the model. -/
import Derived.Test.YtfppglfajbmapaaDoorIlb
namespace Go.Proofs.YtfppglfajbmapaaDoor
open Go.RowKit
theorem idx_role (c : UInt8) : decide (0 ≤ Lib.indexByte [65, 66, 67] c) = roleB ⟨#[c]⟩ := by
  unfold roleB
  simp only [ByteArray.toList_eq]
  by_cases h1 : c = 65
  · subst h1; decide
  by_cases h2 : c = 66
  · subst h2; decide
  by_cases h3 : c = 67
  · subst h3; decide
  have e1 : (65 : UInt8) ≠ c := Ne.symm h1
  have e2 : (66 : UInt8) ≠ c := Ne.symm h2
  have e3 : (67 : UInt8) ≠ c := Ne.symm h3
  simp [Lib.indexByte, h1, h2, h3, e1, e2, e3]
set_option maxHeartbeats 400000 in
theorem contains_roles (c : UInt8) (w : World) : Calls Tryd.prog 48 #[.string ⟨#[65, 66, 67]⟩, .string ⟨#[c]⟩] w fun e w' => e = .returned (.bool (roleB ⟨#[c]⟩)) ∧ w = w' := by
  have h72 := run_bytes
  go_enter Tryd.func48, Tryd.ntmps48
  go_wp2
  go_ret
  rw [← idx_role]
  exact ⟨ret_bool (by rw [one_head]), rfl⟩
set_option maxHeartbeats 400000 in
theorem implRole_one (c : UInt8) (w : World) : Calls Tryd.prog 13 #[.string ⟨#[c]⟩] w fun e w' => e = .returned (.bool (roleB ⟨#[c]⟩)) ∧ w = w' := by
  go_enter Tryd.func13, Tryd.ntmps13
  go_wp2_with (go_at_call 48; refine (contains_roles _ _).mono ?_; rintro e w' ⟨rfl, rfl⟩)
  go_ret
  exact ⟨rfl, rfl⟩
set_option maxHeartbeats 400000 in
theorem implRole_not (s : ByteArray) (hs : ((s.size : Int) == 1) = false) (w : World) : Calls Tryd.prog 13 #[.string s] w fun e w' => e = .returned (.bool false) ∧ w = w' := by
  go_enter Tryd.func13, Tryd.ntmps13
  go_wp2_with fail
  go_ret
  exact ⟨rfl, rfl⟩
set_option maxHeartbeats 400000 in
/-- IsRole of the model. -/
theorem specRole (s : ByteArray) (w : World) : Calls Tryd.prog 14 #[.string s] w fun e w' => e = .returned (.bool (roleB s)) ∧ w = w' := by
  go_enter Tryd.func14, Tryd.ntmps14
  go_wp2_with fail
  all_goals go_ret
  all_goals exact ⟨ret_bool (by simp [roleB, *]), rfl⟩
theorem roleB_not (s : ByteArray) (h : s.size ≠ 1) : roleB s = false := by
  unfold roleB
  have q : ∀ x : UInt8, (s.toList == [x]) = false := fun x => by
    rw [beq_eq_false_iff_ne, ByteArray.toList_eq]
    intro e
    apply h
    have := congrArg List.length e
    simpa using this
  simp [q]
/-- IsRole of the program. -/
theorem implRole (s : ByteArray) (w : World) : Calls Tryd.prog 13 #[.string s] w fun e w' => e = .returned (.bool (roleB s)) ∧ w = w' := by
  by_cases h : s.size = 1
  · obtain ⟨c, rfl⟩ := one_of_size s h
    exact implRole_one c w
  · rw [roleB_not s h]
    exact implRole_not s (beq_eq_false_iff_ne.2 (by omega)) w
end Go.Proofs.YtfppglfajbmapaaDoor
