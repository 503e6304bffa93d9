/- Bytes of strings. -/
import Derived.Test.YtnlihdcjpeabfaaGreatDoorTree
import Derived.Laws.Strings
namespace Go.Proofs.YtnlihdcjpeabfaaGreatDoor
open Go.RowKit

theorem drop_byte {s : ByteArray} {k : Nat} (h : k < s.size) : s.data.toList.drop k = s[k]'h :: s.data.toList.drop (k + 1) := by
  rw [List.drop_eq_getElem_cons (by rw [Array.length_toList]; exact h)]
  rfl
theorem extract_byte {s : ByteArray} {k : Nat} (h : k < s.size) : s.extract k (k + 1) = ⟨#[s[k]'h]⟩ := by
  apply ByteArray.ext
  apply Array.toList_inj.1
  rw [ByteArray.data_extract, Array.toList_extract, List.extract_eq_take_drop, show k + 1 - k = 1 by omega, drop_byte h]
  rfl
end Go.Proofs.YtnlihdcjpeabfaaGreatDoor
