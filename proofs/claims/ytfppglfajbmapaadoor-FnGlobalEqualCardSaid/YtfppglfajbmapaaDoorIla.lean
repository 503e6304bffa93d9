/- IsLabel of the model. -/
import Derived.Test.YtfppglfajbmapaaDoorRows
import Derived.Test.YtfppglfajbmapaaDoorVal
import Derived.WalkKit
import Derived.WalkSpells
import Derived.WalkLawsBesides
import Derived.Lib.Bytealg
namespace Go.Proofs.YtfppglfajbmapaaDoor
open Go.RowKit

theorem one_of_size (s : ByteArray) (h : s.size = 1) : ∃ c, s = ⟨#[c]⟩ := by
  obtain ⟨⟨l⟩⟩ := s
  match l, h with
  | [c], _ => exact ⟨c, rfl⟩

theorem one_pos (c : UInt8) : 0 < (ByteArray.mk #[c]).size := Nat.one_pos
theorem one_head (c : UInt8) (h : 0 < (ByteArray.mk #[c]).size) : (ByteArray.mk #[c])[0]'h = c := rfl

set_option maxHeartbeats 400000 in
theorem specLab_one (c : UInt8) (w : World) : Calls Tryd.prog 16 #[.string ⟨#[c]⟩] w fun e w' => e = .returned (.bool (labB ⟨#[c]⟩)) ∧ w = w' := by
  go_enter Tryd.func16, Tryd.ntmps16
  go_wp2_with fail
  · have h : (97 : Int) ≤ ((ByteArray.mk #[c])[0]'(one_pos c)).toNat := by assumption
    go_ret
    refine ⟨ret_bool ?_, rfl⟩
    rw [one_head] at *
    unfold labB
    have h' : 97 ≤ c.toNat := by omega
    simp [h']
    omega
  · have h : (((ByteArray.mk #[c])[0]'(one_pos c)).toNat : Int) < 97 := by assumption
    go_ret
    refine ⟨ret_bool ?_, rfl⟩
    rw [one_head] at *
    unfold labB
    have h' : ¬ 97 ≤ c.toNat := by omega
    simp [h']
set_option maxHeartbeats 400000 in
theorem specLab_not (s : ByteArray) (hs : ((s.size : Int) == 1) = false) (w : World) : Calls Tryd.prog 16 #[.string s] w fun e w' => e = .returned (.bool false) ∧ w = w' := by
  go_enter Tryd.func16, Tryd.ntmps16
  go_wp2_with fail
  go_ret
  exact ⟨rfl, rfl⟩

theorem labB_not (s : ByteArray) (h : s.size ≠ 1) : labB s = false := by
  unfold labB
  split
  · rename_i c e
    exact absurd (by have := congrArg List.length e; simpa using this) h
  · rfl

/-- IsLabel of the model. -/
theorem specLab (s : ByteArray) (w : World) : Calls Tryd.prog 16 #[.string s] w fun e w' => e = .returned (.bool (labB s)) ∧ w = w' := by
  by_cases h : s.size = 1
  · obtain ⟨c, rfl⟩ := one_of_size s h
    exact specLab_one c w
  · rw [labB_not s h]
    exact specLab_not s (beq_eq_false_iff_ne.2 (by omega)) w
end Go.Proofs.YtfppglfajbmapaaDoor
