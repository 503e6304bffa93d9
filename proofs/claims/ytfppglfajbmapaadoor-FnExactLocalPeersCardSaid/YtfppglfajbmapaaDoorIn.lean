/- l1Insert of the model: a letter put into an ascending string. -/
import Derived.Test.YtfppglfajbmapaaDoorRi
import Derived.Test.YtfppglfajbmapaaDoorRl
import Derived.Laws.IdiomStrings
import Derived.RegionTactic
namespace Go.Proofs.YtfppglfajbmapaaDoor
open Go.RowKit

/-- A letter put into an ascending list. -/
def insB (c : UInt8) : List UInt8 → List UInt8
  | [] => [c]
  | x :: xs => if x.toNat < c.toNat then x :: insB c xs else if x = c then x :: xs else c :: x :: xs

theorem one_letter (c : UInt8) (b : Nat) (W : World) (h : W.cell? ⟨b, 0, none⟩ = some (.int .u8 c.toNat)) :
    (convert ( /- t -/ 22) ( /- t -/ 9) (.slice (some ⟨b, 0, none⟩) 1 1)).run Tryd.prog W = .ok (.string ⟨#[c]⟩) W :=
  run_convert_bytes_back (P := Tryd.prog) W ( /- t -/ 22) ( /- t -/ 9) ( /- t -/ 5) ⟨b, 0, none⟩ 1 [c] (by kernel_rfl) (by kernel_rfl) (by kernel_rfl) (by
    intro j hj
    have : j = 0 := by simpa using hj
    subst this
    exact h)

theorem insB_stop {c : UInt8} {l : List UInt8} {k : Nat} (h : insB c l = l.take k ++ insB c (l.drop k)) (hk : k < l.length) (he : l[k] = c) : insB c l = l := by
  rw [h, List.drop_eq_getElem_cons hk, he]
  have : insB c (c :: l.drop (k + 1)) = c :: l.drop (k + 1) := by simp [insB]
  rw [this]
  conv => lhs; rw [← he]
  rw [← List.drop_eq_getElem_cons hk, List.take_append_drop]
theorem insB_step {c : UInt8} {l : List UInt8} {k : Nat} (h : insB c l = l.take k ++ insB c (l.drop k)) (hk : k < l.length) (hc : l[k].toNat < c.toNat) : insB c l = l.take (k + 1) ++ insB c (l.drop (k + 1)) := by
  rw [h, List.drop_eq_getElem_cons hk]
  have : insB c (l[k] :: l.drop (k + 1)) = l[k] :: insB c (l.drop (k + 1)) := by simp [insB, hc]
  rw [this, List.take_succ_eq_append_getElem hk, List.append_assoc]
  rfl
theorem insB_put {c : UInt8} {l : List UInt8} {k : Nat} (h : insB c l = l.take k ++ insB c (l.drop k)) (hk : ∀ h : k < l.length, ¬ l[k].toNat < c.toNat ∧ ¬ l[k] = c) : insB c l = l.take k ++ c :: l.drop k := by
  rw [h]
  by_cases hl : k < l.length
  · rw [List.drop_eq_getElem_cons hl]
    simp [insB, (hk hl).1, (hk hl).2]
  · rw [List.drop_eq_nil_of_le (by omega)]
    rfl

/-- Into the letters for which p holds. -/
theorem insB_setL (p : UInt8 → Bool) (c : UInt8) (hc : c = 65 ∨ c = 66 ∨ c = 67) : insB c (setL p) = setL (fun x => x == c || p x) := by
  unfold setL
  simp only [List.filter_cons, List.filter_nil]
  generalize p 65 = a
  generalize p 66 = b
  generalize p 67 = d
  rcases hc with rfl | rfl | rfl <;> cases a <;> cases b <;> cases d <;> rfl

theorem str_eta (s : ByteArray) : s = ⟨s.data.toList.toArray⟩ := by
  cases s
  simp
theorem str_put (s : ByteArray) (c : UInt8) (k : Nat) (h : k ≤ s.size) : s.extract 0 k ++ ⟨#[c]⟩ ++ s.extract k s.size = ⟨(s.data.toList.take k ++ c :: s.data.toList.drop k).toArray⟩ := by
  have hl : s.data.toList.length = s.size := (Lib.size_eq s).symm
  apply ByteArray.ext
  apply Array.ext'
  simp only [ByteArray.data_append, ByteArray.data_extract, Array.toList_append, Array.toList_extract, List.extract_eq_take_drop, List.drop_zero, Nat.sub_zero, List.append_assoc, List.singleton_append]
  rw [List.take_of_length_le (l := List.drop k s.data.toList) (by rw [List.length_drop]; omega)]

set_option maxHeartbeats 1600000 in
set_option maxRecDepth 100000 in
theorem ins_walk (s : ByteArray) (c : UInt8) (hs : s.size ≤ 3) (w : World) :
    Calls Tryd.prog 114 #[.string s, .int .u8 c.toNat] w fun e w' => e = .returned (.string ⟨(insB c s.data.toList).toArray⟩) ∧ Below w.heap.size w w' := by
  have hsl : s.data.toList.length = s.size := (Lib.size_eq s).symm
  go_enter Tryd.func114, Tryd.ntmps114
  go_wp2_with fail
  go_loopw [5] (fun iv wr => ∃ k : Nat, iv = .int .i64 k ∧ k ≤ s.size ∧ insB c s.data.toList = s.data.toList.take k ++ insB c (s.data.toList.drop k) ∧ wr = w) (fun iv _ => s.size - (intOf iv).toNat)
  case atStart => exact ⟨0, rfl, Nat.zero_le _, rfl, rfl⟩
  case round =>
    obtain ⟨k, rfl, hk, hins, rfl⟩ := hrel
    have HI := hide hins
    clear hins
    have hconv : (convert ( /- t -/ 22) ( /- t -/ 9) (.slice (some ⟨wr.heap.size, 0, none⟩) 1 1)).run Tryd.prog ((wr.alloc (.cells #[.int .u8 c.toNat] ( /- t -/ 5))).drew) = .ok (.string ⟨#[c]⟩) ((wr.alloc (.cells #[.int .u8 c.toNat] ( /- t -/ 5))).drew) :=
      one_letter c wr.heap.size _ (by
        show (wr.alloc (.cells #[.int .u8 c.toNat] ( /- t -/ 5))).cell? ⟨wr.heap.size, 0, none⟩ = _
        rw [cell_of_heap (cs := #[.int .u8 c.toNat]) (t := ( /- t -/ 5)) (z := (0, 0)) (by show (wr.heap.push _)[wr.heap.size]? = _; simp)]
        rfl)
    by_cases hkl : k < s.size
    · have hbs : k < s.data.toList.length := by omega
      have hget : s.data.toList[k] = s[k] := by rw [Array.getElem_toList]; rfl
      by_cases hlt : s[k].toNat < c.toNat
      · have HL := hide hlt
        have HST := hide (insB_step HI.out hbs (by rw [hget]; exact hlt))
        clear hconv hget
        go_wp2_with fail
        refine ⟨⟨k + 1, by go_num, by omega, HST.out, trivial⟩, by simp [intOf]; omega⟩
      · by_cases heq : s[k] = c
        · have HST := hide (insB_stop HI.out hbs (by rw [hget]; exact heq))
          have hbe : ((s[k].toNat : Int) == (c.toNat : Int)) = true := by rw [heq]; exact beq_self_eq_true _
          clear hconv hget
          go_wp2_with fail
          go_ret
          refine ⟨?_, Below.refl _ _⟩
          rw [HST.out]
          exact congrArg (fun x => Ending.returned (Value.string x)) (str_eta s)
        · have HST := hide (insB_put HI.out (fun h => ⟨by rw [hget]; exact hlt, by rw [hget]; exact heq⟩))
          have hbe : ((s[k].toNat : Int) == (c.toNat : Int)) = false := beq_eq_false_iff_ne.2 (fun h => heq (UInt8.toNat_inj.1 (by omega)))
          clear hget
          go_wp2_with fail
          go_region
          go_wp2_with fail
          go_ret
          refine ⟨?_, (alloc_below _ _).drew⟩
          rw [HST.out]
          exact congrArg (fun x => Ending.returned (Value.string x)) (str_put s c k hk)
    · have HST := hide (insB_put HI.out (fun h => absurd h (by omega)))
      go_wp2_with fail
      go_region
      go_wp2_with fail
      go_ret
      refine ⟨?_, (alloc_below _ _).drew⟩
      rw [HST.out]
      exact congrArg (fun x => Ending.returned (Value.string x)) (str_put s c k hk)

theorem setS_size (p : UInt8 → Bool) : (setS p).size ≤ 3 := by
  have h : (setS p).size = (setL p).length := by simp [setS, ByteArray.size]
  rw [h]
  exact setK_len p 3
/-- l1Insert of the model, at the letters for which p holds. -/
theorem ins_set (p : UInt8 → Bool) (c : UInt8) (hc : c = 65 ∨ c = 66 ∨ c = 67) (w : World) :
    Calls Tryd.prog 114 #[.string (setS p), .int .u8 c.toNat] w fun e w' => e = .returned (.string (setS (fun x => x == c || p x))) ∧ Below w.heap.size w w' := by
  have h := ins_walk (setS p) c (setS_size p) w
  have e : (⟨(insB c (setS p).data.toList).toArray⟩ : ByteArray) = setS (fun x => x == c || p x) := by
    have e1 : (setS p).data.toList = setL p := rfl
    rw [e1, insB_setL p c hc]
    rfl
  rw [e] at h
  exact h
theorem hasB_iff (s : ByteArray) (c : UInt8) : hasB s c = true ↔ inB c s := by
  unfold hasB inB
  exact List.contains_iff_mem
/-- A role is one of three letters. -/
theorem role_one {s : ByteArray} (h : roleB s = true) : ∃ hs : 0 < s.size, (s[0] = 65 ∨ s[0] = 66 ∨ s[0] = 67) ∧ ∀ c, hasB s c = (c == s[0]) := by
  obtain ⟨x, rfl, hx⟩ : ∃ x : UInt8, s = ⟨#[x]⟩ ∧ (x = 65 ∨ x = 66 ∨ x = 67) := by
    simp only [roleB, Bool.or_eq_true, beq_iff_eq, ByteArray.toList_eq] at h
    rcases h with (h | h) | h
    · exact ⟨65, by rw [str_eta s, h], Or.inl rfl⟩
    · exact ⟨66, by rw [str_eta s, h], Or.inr (Or.inl rfl)⟩
    · exact ⟨67, by rw [str_eta s, h], Or.inr (Or.inr rfl)⟩
  refine ⟨Nat.zero_lt_one, hx, fun c => ?_⟩
  show [x].contains c = (c == x)
  simp only [List.contains, List.elem]
  cases c == x <;> rfl
end Go.Proofs.YtfppglfajbmapaaDoor
