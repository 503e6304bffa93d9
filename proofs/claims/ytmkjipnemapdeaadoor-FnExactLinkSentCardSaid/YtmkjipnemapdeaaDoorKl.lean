/- Whether a string consists of labels: areLabels of the program, l7Labels of the model. -/
import Derived.Test.YtmkjipnemapdeaaDoorIla
import Derived.Test.YtmkjipnemapdeaaDoorBt
import Derived.Test.YtmkjipnemapdeaaDoorShelf
import Derived.Shelf.Strings.SlTrimAscii
namespace Go.Proofs.YtmkjipnemapdeaaDoor.Tk
open Go.RowKit Go.Shelf

def labC (c : UInt8) : Bool := decide (97 ≤ c.toNat ∧ c.toNat ≤ 100)
/-- All bytes are labels. -/
def labsB (s : ByteArray) : Bool := s.data.toList.all labC
theorem labB_one (c : UInt8) : labB ⟨#[c]⟩ = labC c := rfl
theorem set_lab (c : UInt8) : [(97 : UInt8), 98, 99, 100].contains c = labC c := by
  unfold labC
  by_cases h1 : c = 97
  · subst h1; decide
  by_cases h2 : c = 98
  · subst h2; decide
  by_cases h3 : c = 99
  · subst h3; decide
  by_cases h4 : c = 100
  · subst h4; decide
  have n1 : ¬ (97 ≤ c.toNat ∧ c.toNat ≤ 100) := by
    intro h
    have hh : c.toNat = 97 ∨ c.toNat = 98 ∨ c.toNat = 99 ∨ c.toNat = 100 := by omega
    rcases hh with hh | hh | hh | hh
    · exact h1 (UInt8.toNat_inj.1 hh)
    · exact h2 (UInt8.toNat_inj.1 hh)
    · exact h3 (UInt8.toNat_inj.1 hh)
    · exact h4 (UInt8.toNat_inj.1 hh)
  rw [decide_eq_false n1]
  simp [h1, h2, h3, h4]

theorem dropWhile_nil {p : UInt8 → Bool} : ∀ l : List UInt8, (l.dropWhile p).isEmpty = l.all p
  | [] => rfl
  | x :: l => by
    cases h : p x with
    | true => simp [List.dropWhile, h, dropWhile_nil l]
    | false => simp [List.dropWhile, h]
theorem dropWhile_head {p : UInt8 → Bool} : ∀ (l : List UInt8) {x : UInt8} {r : List UInt8}, l.dropWhile p = x :: r → p x = false
  | [], _, _, h => by simp at h
  | y :: l, x, r, h => by
    cases hy : p y with
    | true => rw [List.dropWhile_cons, if_pos hy] at h; exact dropWhile_head l h
    | false =>
      rw [List.dropWhile_cons, if_neg (by simp [hy])] at h
      obtain ⟨rfl, -⟩ := List.cons.inj h
      exact hy
/-- What is left behind Trim is empty just if all bytes lie in the set. -/
theorem trim_nil (l cs : List UInt8) : (Lib.trimS l cs).isEmpty = l.all (cs.contains ·) := by
  show ((l.reverse.dropWhile (fun c => cs.contains c)).reverse.dropWhile (fun c => cs.contains c)).isEmpty = l.all (fun c => cs.contains c)
  rw [dropWhile_nil, List.all_reverse, show l.all (fun c => cs.contains c) = (l.reverse.dropWhile (fun c => cs.contains c)).isEmpty from by rw [dropWhile_nil, List.all_reverse]]
  generalize hr : l.reverse.dropWhile (fun c => cs.contains c) = r
  cases r with
  | nil => rfl
  | cons x r =>
    have h := dropWhile_head _ hr
    simp only [List.all_cons, h, Bool.false_and]
    rfl
theorem trim_labs (s : ByteArray) : (Lib.trimS s.data.toList [97, 98, 99, 100]).isEmpty = labsB s := by
  rw [trim_nil]
  unfold labsB
  congr 1
  funext c
  exact set_lab c

set_option maxHeartbeats 1000000 in
/-- areLabels of the program. -/
theorem implLabs (s : ByteArray) (w : World) (hs : s.size ≤ 9223372036854775807) :
    Calls Tryd.prog 26 #[.string s] w fun e w' => e = .returned (.bool (labsB s)) ∧ Below w.heap.size w w' := by
  have hcon := Any.strings_Trim_laid Tryd.lays160 (by kernel_rfl) s ⟨#[97, 98, 99, 100]⟩ w hs (by decide) (ascii_of_all (by decide))
  have hl := trim_labs s
  change Calls Tryd.prog 44 _ _ (fun e w' => e = .returned (.string ⟨(Lib.trimS s.data.toList [97, 98, 99, 100]).toArray⟩) ∧ Below w.heap.size w w') at hcon
  generalize Lib.trimS s.data.toList [97, 98, 99, 100] = r at hcon hl
  have hq2 : (ByteArray.mk r.toArray).toList.isEmpty = labsB s := by
    rw [← hl, ByteArray.toList_eq]
  generalize ByteArray.mk r.toArray = t at *
  have HL := hide hq2
  clear hl hq2
  go_enter Tryd.func26, Tryd.ntmps26
  go_wp2_with (go_at_call 44; refine hcon.mono ?_; rintro e w' ⟨rfl, hB⟩)
  go_ret
  exact ⟨ret_bool HL.out, hB⟩

set_option maxHeartbeats 800000 in
/-- l7Labels of the model. -/
theorem specLabs (s : ByteArray) (w : World) (hs : s.size ≤ 1048576) :
    Calls Tryd.prog 21 #[.string s] w fun e w' => e = .returned (.bool (labsB s)) ∧ w = w' := by
  go_enter Tryd.func21, Tryd.ntmps21
  go_wp2_with fail
  go_loopw [3] (fun iv wr => ∃ k : Nat, iv = .int .i64 k ∧ k ≤ s.size ∧ (s.data.toList.drop k).all labC = labsB s ∧ wr = w) (fun iv _ => s.size - (intOf iv).toNat)
  case atStart => exact ⟨0, rfl, Nat.zero_le _, rfl, rfl⟩
  case round =>
    obtain ⟨k, rfl, hk, hc, rfl⟩ := hrel
    have HC := hide hc
    clear hc
    by_cases hlt : k < s.size
    · have hl : (k : Int) < (s.size : Int) := by omega
      have he := extract_byte hlt
      have hd := drop_byte hlt
      generalize s[k]'hlt = x at *
      cases hx : labC x with
      | false =>
        have HR := hide (show labsB s = false by rw [← HC.out, hd]; simp [hx])
        have HX := hide (show labB ⟨#[x]⟩ = false by rw [labB_one]; exact hx)
        clear hd hx
        go_wp2_with (go_at_call 42; refine (specLab _ _).mono ?_; rintro e w' ⟨rfl, rfl⟩; rw [HX.out])
        go_ret
        exact ⟨by rw [HR.out]; rfl, rfl⟩
      | true =>
        have HR := hide (show (s.data.toList.drop (k + 1)).all labC = labsB s by
          rw [← HC.out, hd, List.all_cons, hx, Bool.true_and])
        have HX := hide (show labB ⟨#[x]⟩ = true by rw [labB_one]; exact hx)
        clear hd hx
        go_wp2_with (go_at_call 42; refine (specLab _ _).mono ?_; rintro e w' ⟨rfl, rfl⟩; rw [HX.out])
        exact ⟨⟨k + 1, by go_num, by omega, HR.out, trivial⟩, by simp [intOf]; omega⟩
    · have hl : ¬ (k : Int) < (s.size : Int) := by omega
      have HR := hide (show labsB s = true by
        rw [← HC.out, List.drop_eq_nil_of_le (by rw [Array.length_toList]; show s.size ≤ k; omega)]
        rfl)
      go_wp2_with fail
      go_ret
      exact ⟨by rw [HR.out]; rfl, rfl⟩
end Go.Proofs.YtmkjipnemapdeaaDoor.Tk
