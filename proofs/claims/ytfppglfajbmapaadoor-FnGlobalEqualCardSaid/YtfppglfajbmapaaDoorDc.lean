/- l10Dec of the model, below a hundred. -/
import Derived.Test.YtfppglfajbmapaaDoorIs
import Derived.BigQuiet
import Derived.Deep.QuietTactic
import Derived.Test.YtfppglfajbmapaaDoorTx
import Derived.Laws.IdiomStrings
namespace Go.Proofs.YtfppglfajbmapaaDoor
open Go.RowKit

theorem one_byte (w : World) (x : Int) (d : Nat) (hx : x = 48 + (d : Int)) (hd : d ≤ 9) :
    (convert ( /- t -/ 22) ( /- t -/ 9) (.slice (some ⟨w.heap.size, 0, none⟩) 1 1)).run Tryd.prog (w.alloc (.cells #[.int .u8 x] ( /- t -/ 5))) = .ok (.string ⟨#[UInt8.ofNat (48 + d)]⟩) (w.alloc (.cells #[.int .u8 x] ( /- t -/ 5))) := by
  have := run_convert_bytes_back (P := Tryd.prog) (w.alloc (.cells #[.int .u8 x] ( /- t -/ 5))) ( /- t -/ 22) ( /- t -/ 9) ( /- t -/ 5) ⟨w.heap.size, 0, none⟩ 1 [UInt8.ofNat (48 + d)] (by kernel_rfl) (by kernel_rfl) (by kernel_rfl) (by
    intro j hj
    have : j = 0 := by simpa using hj
    subst this
    have hz : (UInt8.ofNat (48 + d)).toNat = 48 + d := by
      rw [UInt8.toNat_ofNat']
      exact Nat.mod_eq_of_lt (by omega)
    show (w.alloc (.cells #[.int .u8 x] ( /- t -/ 5))).cell? ⟨w.heap.size, 0, none⟩ = _
    rw [cell_of_heap (cs := #[.int .u8 x]) (t := ( /- t -/ 5)) (z := (0, 0)) (by show (w.heap.push _)[w.heap.size]? = _; simp)]
    simp only [List.getElem_cons_zero, hz, hx]
    rfl)
  exact this

set_option maxHeartbeats 400000 in
set_option maxRecDepth 100000 in
theorem dec_calls (i : Nat) (hi : i < 100) (w : World) :
    Calls Tryd.prog 107 #[.int .i64 i] w fun e w' => e = .returned (.string ⟨(Lib.decDigits i).toArray⟩) ∧ Below w.heap.size w w' := by
  go_enter Tryd.func107, Tryd.ntmps107
  go_wp2_with fail
  go_loopw [3, 0] (fun ov nv wr => ∃ (s : ByteArray) (m : Nat), ov = .string s ∧ nv = .int .i64 m ∧ m ≤ i ∧ s.size + m ≤ i ∧ Lib.decDigits i = Lib.decDigits m ++ s.data.toList ∧ Below w.heap.size w wr) (fun _ nv _ => (intOf nv).toNat)
  case atStart => exact ⟨⟨#[]⟩, i, rfl, rfl, Nat.le_refl _, by show 0 + i ≤ i; omega, by simp, Below.refl _ _⟩
  case round =>
    obtain ⟨s, m, rfl, rfl, hm, hs, hd, hb⟩ := hrel
    have HD := hide hd
    have HB := hide hb
    have hsz : s.size ≤ 100 := by omega
    clear hd hb
    by_cases h9 : 9 < m
    · have n1 := one_byte wr (48 + (m : Int) % 10) (m % 10) (by omega) (by omega)
      go_wp2_with fail
      refine ⟨⟨⟨#[48 + UInt8.ofNat (m % 10)]⟩ ++ s, m / 10, rfl, by go_num, by omega, ?_, ?_, HB.out.trans ((alloc_below _ _).mono HB.out.size)⟩, ?_⟩
      · rw [ByteArray.size_append]
        show 1 + s.size + m / 10 ≤ i
        omega
      · rw [HD.out]
        conv => lhs; unfold Lib.decDigits
        rw [dif_neg (by omega)]
        simp [ByteArray.data_append, UInt8.ofNat_add]
      · simp [intOf]
        omega
    · have n1 := one_byte wr (48 + (m : Int)) m (by omega) (by omega)
      go_wp2_with fail
      go_ret
      refine ⟨?_, HB.out.trans ((alloc_below _ _).mono HB.out.size)⟩
      congr 1
      rw [HD.out]
      unfold Lib.decDigits
      rw [dif_pos (by omega)]
      simp [UInt8.ofNat_add]
      apply ByteArray.ext
      simp [ByteArray.data_append]
end Go.Proofs.YtfppglfajbmapaaDoor
