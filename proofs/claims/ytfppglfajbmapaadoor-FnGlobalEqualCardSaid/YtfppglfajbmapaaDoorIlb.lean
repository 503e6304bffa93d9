/- IsLabel of the program. -/
import Derived.Test.YtfppglfajbmapaaDoorIla
namespace Go.Proofs.YtfppglfajbmapaaDoor
open Go.RowKit
theorem run_bytes (s : ByteArray) (c : Int) (w : World) : (callFunc ( /- f -/ 189) #[.string s, .int .u8 c]).run Tryd.prog w = .ok (.value (.int .i64 (Lib.indexByte s.data.toList c.toNat.toUInt8))) w := by
  rw [run_callFunc_extern Tryd.func189 (by kernel_rfl) (by kernel_rfl) (by kernel_rfl) (e := Extern.BytealgIndexByte.indexByte) (by kernel_rfl), Lib.run_indexByteString]
  rfl

theorem idx_lab (c : UInt8) : decide (0 ≤ Lib.indexByte [97, 98, 99, 100] c) = labB ⟨#[c]⟩ := by
  unfold labB
  by_cases h1 : c = 97
  · subst h1; decide
  by_cases h2 : c = 98
  · subst h2; decide
  by_cases h3 : c = 99
  · subst h3; decide
  by_cases h4 : c = 100
  · subst h4; decide
  have n1 : ¬ (97 ≤ c.toNat ∧ c.toNat ≤ 100) := by
    intro h
    have hh : c.toNat = 97 ∨ c.toNat = 98 ∨ c.toNat = 99 ∨ c.toNat = 100 := by omega
    rcases hh with hh | hh | hh | hh
    · exact h1 (UInt8.toNat_inj.1 hh)
    · exact h2 (UInt8.toNat_inj.1 hh)
    · exact h3 (UInt8.toNat_inj.1 hh)
    · exact h4 (UInt8.toNat_inj.1 hh)
  have e1 : (97 : UInt8) ≠ c := Ne.symm h1
  have e2 : (98 : UInt8) ≠ c := Ne.symm h2
  have e3 : (99 : UInt8) ≠ c := Ne.symm h3
  have e4 : (100 : UInt8) ≠ c := Ne.symm h4
  simp only [decide_eq_false n1]
  simp [Lib.indexByte, e1, e2, e3, e4]

set_option maxHeartbeats 400000 in
theorem contains_labs (c : UInt8) (w : World) : Calls Tryd.prog 48 #[.string ⟨#[97, 98, 99, 100]⟩, .string ⟨#[c]⟩] w fun e w' => e = .returned (.bool (labB ⟨#[c]⟩)) ∧ w = w' := by
  have h72 := run_bytes
  go_enter Tryd.func48, Tryd.ntmps48
  go_wp2
  go_ret
  rw [← idx_lab]
  exact ⟨ret_bool (by rw [one_head]), rfl⟩

set_option maxHeartbeats 400000 in
theorem implLab_one (c : UInt8) (w : World) : Calls Tryd.prog 15 #[.string ⟨#[c]⟩] w fun e w' => e = .returned (.bool (labB ⟨#[c]⟩)) ∧ w = w' := by
  go_enter Tryd.func15, Tryd.ntmps15
  go_wp2_with (go_at_call 48; refine (contains_labs _ _).mono ?_; rintro e w' ⟨rfl, rfl⟩)
  go_ret
  exact ⟨rfl, rfl⟩
set_option maxHeartbeats 400000 in
theorem implLab_not (s : ByteArray) (hs : ((s.size : Int) == 1) = false) (w : World) : Calls Tryd.prog 15 #[.string s] w fun e w' => e = .returned (.bool false) ∧ w = w' := by
  go_enter Tryd.func15, Tryd.ntmps15
  go_wp2_with fail
  go_ret
  exact ⟨rfl, rfl⟩
/-- IsLabel of the program. -/
theorem implLab (s : ByteArray) (w : World) : Calls Tryd.prog 15 #[.string s] w fun e w' => e = .returned (.bool (labB s)) ∧ w = w' := by
  by_cases h : s.size = 1
  · obtain ⟨c, rfl⟩ := one_of_size s h
    exact implLab_one c w
  · rw [labB_not s h]
    exact implLab_not s (beq_eq_false_iff_ne.2 (by omega)) w
end Go.Proofs.YtfppglfajbmapaaDoor
