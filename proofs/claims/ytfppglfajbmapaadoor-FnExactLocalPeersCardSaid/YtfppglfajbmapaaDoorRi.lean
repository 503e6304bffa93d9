/- rolesIn of the program: which of the three letters lie in a text. -/
import Derived.Test.YtfppglfajbmapaaDoorBr
import Derived.Test.YtfppglfajbmapaaDoorKp
import Derived.Test.YtfppglfajbmapaaDoorBl
import Derived.Test.YtfppglfajbmapaaDoorTx
import Derived.Test.YtfppglfajbmapaaDoorRows
import Derived.WalkKit
import Derived.WalkSpells
import Derived.WalkLawsBesides
import Derived.Lib.UnsafeStr
import Derived.Lib.IndexAny
namespace Go.Proofs.YtfppglfajbmapaaDoor
open Go.RowKit

/-- The letters A, B, C for which p holds. -/
def setL (p : UInt8 → Bool) : List UInt8 := [65, 66, 67].filter p
def setS (p : UInt8 → Bool) : ByteArray := ⟨(setL p).toArray⟩
theorem setL_congr {p q : UInt8 → Bool} (h : ∀ c, c = 65 ∨ c = 66 ∨ c = 67 → p c = q c) : setL p = setL q := by
  unfold setL
  simp only [List.filter_cons, List.filter_nil]
  rw [h 65 (Or.inl rfl), h 66 (Or.inr (Or.inl rfl)), h 67 (Or.inr (Or.inr rfl))]
theorem setS_congr {p q : UInt8 → Bool} (h : ∀ c, c = 65 ∨ c = 66 ∨ c = 67 → p c = q c) : setS p = setS q := by
  unfold setS
  rw [setL_congr h]
/-- The first k of them. -/
def setK (p : UInt8 → Bool) (k : Nat) : List UInt8 := ([65, 66, 67].take k).filter p

theorem setK_three (p : UInt8 → Bool) : setK p 3 = setL p := rfl
theorem setK_len (p : UInt8 → Bool) (k : Nat) : (setK p k).length ≤ 3 := by
  unfold setK
  refine Nat.le_trans (List.length_filter_le _ _) ?_
  rw [List.length_take]
  exact Nat.min_le_right _ _
theorem setK_yes {p : UInt8 → Bool} {k : Nat} {c : UInt8} (hc : [65, 66, 67][k]? = some c) (h : p c = true) : setK p (k + 1) = setK p k ++ [c] := by
  unfold setK
  rw [List.take_add_one, hc, List.filter_append]
  simp [h]
theorem setK_no {p : UInt8 → Bool} {k : Nat} {c : UInt8} (hc : [65, 66, 67][k]? = some c) (h : p c = false) : setK p (k + 1) = setK p k := by
  unfold setK
  rw [List.take_add_one, hc, List.filter_append]
  simp [h]

def hasB (s : ByteArray) (c : UInt8) : Bool := s.data.toList.contains c
theorem contains_rune (s : ByteArray) (r : Int) (c : UInt8) (hc : r = c.toNat) (h : c.toNat < 128) (w : World) :
    Calls Tryd.prog 104 #[.string s, .int .i32 r] w fun e w' => e = .returned (.bool (hasB s c)) ∧ w' = w := by
  have h0 := Tryd.strings_ContainsRune_ascii s r w (by omega) (by omega)
  have e : r.toNat.toUInt8 = c := by
    rw [hc, Int.toNat_natCast]
    exact UInt8.ofNat_toNat
  rw [e, ← Lib.contains_iff_indexByte] at h0
  exact h0
def bABC : ByteArray := ⟨#[65, 66, 67]⟩

set_option maxHeartbeats 1600000 in
set_option maxRecDepth 100000 in
/-- rolesIn of the program. -/
theorem rolesIn_calls (s : ByteArray) (w : World) :
    Calls Tryd.prog 63 #[.string s] w fun e w' => e = .returned (.string (setS (hasB s))) ∧ Below w.heap.size w w' := by
  have hI0 : Lib.IsBuilderF ( /- t -/ 83) ( /- t -/ 5) w.heap.size w.heap.size (Lib.byteCells (setK (hasB s) 0)) ((w.alloc (.cells #[.pointer none, .slice none 0 0] ( /- t -/ 83))).iter bABC 0) :=
    bu_below (Lib.IsBuilderF.of (Lib.fresh_isBuilder _ _ _)) (alloc_below _ _)
  have hk0 : ((w.alloc (.cells #[.pointer none, .slice none 0 0] ( /- t -/ 83))).iter bABC 0).heap[w.heap.size + 1]? = some (.stringIter bABC 0) := by
    have h5 := World.iter_heap (w.alloc (.cells #[.pointer none, .slice none 0 0] ( /- t -/ 83))) bABC 0
    simpa using h5
  have hb0 : Below w.heap.size w ((w.alloc (.cells #[.pointer none, .slice none 0 0] ( /- t -/ 83))).iter bABC 0) := ((Below.refl _ w).alloc (Nat.le_refl _) _).alloc (by simp) _
  have HI0 := hide hI0
  have HK0 := hide hk0
  have HB0 := hide hb0
  clear hI0 hk0 hb0
  go_enter Tryd.func63, Tryd.ntmps63
  go_wp2_with fail
  go_loopw [5] (fun _ wr => ∃ pos : Nat, pos ≤ 3 ∧ wr.heap[w.heap.size + 1]? = some (.stringIter bABC pos) ∧ Lib.IsBuilderF ( /- t -/ 83) ( /- t -/ 5) w.heap.size w.heap.size (Lib.byteCells (setK (hasB s) pos)) wr ∧ Below w.heap.size w wr)
    (fun _ wr => 3 - wr.iterPos (w.heap.size + 1))
  case atStart => exact ⟨0, Nat.zero_le _, HK0.out, HI0.out, HB0.out⟩
  case round =>
    obtain ⟨pos, hps, hk, hI, hnx⟩ := hrel
    have hsz : bABC.size = 3 := rfl
    by_cases hp : pos < 3
    · have hp' : pos < bABC.size := hp
      have hc : (bABC[pos]'hp').toNat = 65 + pos := by
        rcases (show pos = 0 ∨ pos = 1 ∨ pos = 2 by omega) with rfl | rfl | rfl <;> rfl
      have hg : [65, 66, 67][pos]? = some (bABC[pos]'hp') := by
        rcases (show pos = 0 ∨ pos = 1 ∨ pos = 2 by omega) with rfl | rfl | rfl <;> rfl
      have hnext : ∀ ty, (Instr.next (.pointer (some ⟨w.heap.size + 1, 0, none⟩)) true ty).run Tryd.prog wr = _ := fun ty => Lib.run_next_ascii_at wr (w.heap.size + 1) bABC pos ty hk hp' (by omega)
      have hI1 := hI.iterAt hk (pos + 1)
      have hk1 := Lib.iterAt_heap wr (w.heap.size + 1) bABC pos (pos + 1) hk
      have hnx1 : Below w.heap.size w (wr.iterAt (w.heap.size + 1) bABC (pos + 1)) := Lib.below_iterAt hnx (by omega) bABC (pos + 1)
      have hmu : wr.iterPos (w.heap.size + 1) = pos := by simp [World.iterPos, hk]
      generalize wr.iterAt (w.heap.size + 1) bABC (pos + 1) = W1 at hnext hI1 hk1 hnx1
      generalize (bABC[pos]'hp') = c at *
      have hlen : (Lib.byteCells (setK (hasB s) pos)).length ≤ 3 := by rw [Lib.byteCells_length]; exact setK_len _ _
      have HI1 := hide hI1
      have HK1 := hide hk1
      have HNX := hide hnx1
      have HG := hide hg
      have HMU := hide hmu
      have HCC := hide hc
      have hc128 : c.toNat < 128 := by omega
      clear hI1 hk1 hnx1 hg hI hnx hmu hk hc
      cases hh : hasB s c with
      | false =>
        go_wp2_with (first | (go_at_call 104; refine (contains_rune s _ c rfl hc128 _).mono ?_; rintro e w' ⟨rfl, hw'⟩; obtain rfl := hw'.symm) | fail)
        refine ⟨⟨pos + 1, by omega, HK1.out, ?_, HNX.out⟩, ?_⟩
        · rw [setK_no HG.out hh]
          exact HI1.out
        · have hmu2 : W1.iterPos (w.heap.size + 1) = pos + 1 := by
            have h9 := HK1.out
            simp [World.iterPos, h9]
          rw [HMU.out, hmu2]
          omega
      | true =>
        go_wp2_with (first | (go_at_call 104; refine (contains_rune s _ c rfl hc128 _).mono ?_; rintro e w' ⟨rfl, hw'⟩; obtain rfl := hw'.symm) | fail)
        refine (write_rune w.heap.size w.heap.size _ _ (by omega) (by omega) _ HI1.out (by omega) HNX.out.size).mono ?_
        rintro e W2 ⟨rfl, hat, hb2, hkept⟩
        have hk2 := hkept.iter HK1.out (by omega)
        have HAT := hide hat
        have HK2 := hide hk2
        have HB2 := hide hb2
        clear hat hk2 hb2 hkept
        go_wp2_with fail
        refine ⟨⟨pos + 1, by omega, HK2.out, ?_, HNX.out.trans HB2.out⟩, ?_⟩
        · rw [setK_yes HG.out hh]
          have e9 : Lib.byteCells (setK (hasB s) pos ++ [c]) = Lib.byteCells (setK (hasB s) pos) ++ [.int .u8 (c.toNat : Int)] := by
            unfold Lib.byteCells
            rw [List.map_append]
            rfl
          rw [e9]
          exact Or.inr HAT.out
        · have hmu2 : W2.iterPos (w.heap.size + 1) = pos + 1 := by
            have h9 := HK2.out
            simp [World.iterPos, h9]
          rw [HMU.out, hmu2]
          omega
    · have hp' : ¬ pos < bABC.size := hp
      have hnext : ∀ ty, (Instr.next (.pointer (some ⟨w.heap.size + 1, 0, none⟩)) true ty).run Tryd.prog wr = _ := fun ty => Lib.run_next_end_at wr (w.heap.size + 1) bABC pos ty hk hp'
      obtain rfl : pos = 3 := by omega
      have HI := hide hI
      have HNX := hide hnx
      clear hI hnx hk
      go_wp2_with fail
      refine (Tryd.Builder_String_any_k w.heap.size w.heap.size (setL (hasB s)) wr HI.out HNX.out.size).mono ?_
      rintro e W2 ⟨rfl, -, hb2, -⟩
      go_wp2_with fail
      go_ret
      exact ⟨rfl, HNX.out.trans hb2⟩
end Go.Proofs.YtfppglfajbmapaaDoor
