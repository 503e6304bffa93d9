/- localFieldsFit of the program. -/
import Derived.Test.YtfppglfajbmapaaDoorLLf
import Derived.Test.YtfppglfajbmapaaDoorLTx
namespace Go.Proofs.YtfppglfajbmapaaDoor.Lo
open Go.RowKit

/-- What localFieldsFit owes. -/
def NoPost (w : World) (v : Bool) (e : Ending) (w' : World) : Prop := e = .returned (.bool v) ∧ Below w.heap.size w w'

theorem len0 (n : Nat) : (((n : Nat) : Int) == 0) = decide (n = 0) := by
  by_cases h : n = 0
  · rw [h]; rfl
  · rw [decide_eq_false h]
    exact beq_eq_false_iff_ne.2 (by omega)

set_option maxHeartbeats 400000 in
set_option maxRecDepth 100000 in
theorem no_end (w : World) (ix : Int) (fr : ByteArray) (sv : Value) (kids : F) (hs : Sl w sv kids) :
    Calls Tryd.prog 152 #[.agg #[.int .i64 1, .string fr, .int .i64 ix, sv]] w (NoPost w (shapeB 1 fr ix kids)) := by
  obtain ⟨a, cap, rfl, hlen, -⟩ := hs.at
  unfold maxLen at hlen
  clear hs
  have hl := len0 kids.len
  have hv : shapeB 1 fr ix kids = (fr.toList.isEmpty && ix == 0 && decide (kids.len = 0)) := rfl
  rw [hv]
  clear hv
  go_enter Tryd.func152, Tryd.ntmps152
  go_wp2_with fail
  all_goals go_ret
  all_goals refine ⟨ret_bool ?_, alloc_below _ _⟩
  all_goals simp_all

set_option maxHeartbeats 400000 in
set_option maxRecDepth 100000 in
theorem no_var (w : World) (ix : Int) (fr : ByteArray) (sv : Value) (kids : F) (hs : Sl w sv kids) :
    Calls Tryd.prog 152 #[.agg #[.int .i64 5, .string fr, .int .i64 ix, sv]] w (NoPost w (shapeB 5 fr ix kids)) := by
  obtain ⟨a, cap, rfl, hlen, -⟩ := hs.at
  unfold maxLen at hlen
  clear hs
  have hl := len0 kids.len
  have hv : shapeB 5 fr ix kids = (fr.toList.isEmpty && decide (kids.len = 0)) := rfl
  rw [hv]
  clear hv
  go_enter Tryd.func152, Tryd.ntmps152
  go_wp2_with fail
  all_goals go_ret
  all_goals refine ⟨ret_bool ?_, alloc_below _ _⟩
  all_goals simp_all

set_option maxHeartbeats 400000 in
set_option maxRecDepth 100000 in
theorem no_other (w : World) (k ix : Int) (fr : ByteArray) (sv : Value) (kids : F) (h1 : ¬ k = 1) (h2 : ¬ k = 2) (h3 : ¬ k = 3) (h4 : ¬ k = 4) (h5 : ¬ k = 5) :
    Calls Tryd.prog 152 #[.agg #[.int .i64 k, .string fr, .int .i64 ix, sv]] w (NoPost w (shapeB k fr ix kids)) := by
  have hv : shapeB k fr ix kids = false := by simp [shapeB, h1, h2, h3, h4, h5]
  rw [hv]
  have e1 : (k == 1) = false := beq_eq_false_iff_ne.2 h1
  have e2 : (k == 2) = false := beq_eq_false_iff_ne.2 h2
  have e3 : (k == 3) = false := beq_eq_false_iff_ne.2 h3
  have e4 : (k == 4) = false := beq_eq_false_iff_ne.2 h4
  have e5 : (k == 5) = false := beq_eq_false_iff_ne.2 h5
  clear hv h1 h2 h3 h4 h5
  go_enter Tryd.func152, Tryd.ntmps152
  go_wp2_with fail
  go_ret
  exact ⟨rfl, alloc_below _ _⟩

set_option maxHeartbeats 400000 in
set_option maxRecDepth 100000 in
theorem no_rec (w : World) (ix : Int) (fr : ByteArray) (sv : Value) (kids : F) (hs : Sl w sv kids) :
    Calls Tryd.prog 152 #[.agg #[.int .i64 4, .string fr, .int .i64 ix, sv]] w (NoPost w (shapeB 4 fr ix kids)) := by
  obtain ⟨a, cap, rfl, hlen, hat⟩ := hs.at
  unfold maxLen at hlen
  have hv : shapeB 4 fr ix kids = (fr.toList.isEmpty && ix == 0 && decide (kids.len = 1) && bareB kids) := rfl
  rw [hv]
  clear hv hs
  by_cases hl : kids.len = 1
  · cases kids with
    | nil => simp [F.len] at hl
    | cons lab k' fr' ix' kids' rest =>
      have hr : rest = .nil := nil_of_len (by simp only [F.len] at hl; omega)
      subst hr
      obtain ⟨b', o', rfl, -, -, -, -, d0, -⟩ := hat.head
      simp only [Nat.zero_mul, Nat.add_zero] at d0
      have hbw := World.block_lt_of_cell? _ _ d0
      have hv : (fr.toList.isEmpty && ix == 0 && decide ((F.cons lab k' fr' ix' kids' .nil).len = 1) && bareB (F.cons lab k' fr' ix' kids' .nil)) = (fr.toList.isEmpty && ix == 0 && lab.toList.isEmpty) := by
        simp [F.len, bareB]
      rw [hv]
      clear hv hat hl
      change Calls Tryd.prog 152 #[.agg #[.int .i64 4, .string fr, .int .i64 ix, .slice (some ⟨b', o', none⟩) 1 cap]] w _
      go_enter Tryd.func152, Tryd.ntmps152
      go_wp2_with fail
      all_goals go_ret
      all_goals refine ⟨ret_bool ?_, alloc_below _ _⟩
      all_goals simp_all
  · have hlb : (((kids.len : Nat) : Int) == 1) = false := beq_eq_false_iff_ne.2 (by omega)
    rw [decide_eq_false hl, Bool.and_false, Bool.false_and]
    clear hl hat
    go_enter Tryd.func152, Tryd.ntmps152
    go_wp2_with fail
    all_goals go_ret
    all_goals exact ⟨rfl, alloc_below _ _⟩

set_option maxHeartbeats 400000 in
set_option maxRecDepth 100000 in
theorem no_act (w : World) (k ix : Int) (fr : ByteArray) (sv : Value) (kids : F) (hk : k = 2 ∨ k = 3) (hs : Sl w sv kids) :
    Calls Tryd.prog 152 #[.agg #[.int .i64 k, .string fr, .int .i64 ix, sv]] w (NoPost w (shapeB k fr ix kids)) := by
  obtain ⟨a, cap, rfl, hlen, -⟩ := hs.at
  unfold maxLen at hlen
  have hv : shapeB k fr ix kids = (roleB fr && ix == 0 && branchesB kids) := by
    rcases hk with rfl | rfl <;> rfl
  rw [hv]
  have HS := hide (hs.still (Still.of_below (alloc_below w (.cells #[.int .i64 k, .string fr, .int .i64 ix, .slice a kids.len cap] ( /- t -/ 35)))))
  have BX := Box4.now w (.int .i64 k) (.string fr) (.int .i64 ix) (.slice a kids.len cap) ( /- t -/ 35)
  have HBX := hide BX
  clear hv hs BX
  rcases hk with rfl | rfl
  all_goals
    go_enter Tryd.func152, Tryd.ntmps152
    cases hr : roleB fr with
    | false =>
      go_wp2_with (first | (go_at_call 13; refine (implRole _ _).mono ?_; rintro e w' ⟨rfl, rfl⟩) | fail)
      go_ret
      exact ⟨rfl, alloc_below _ _⟩
    | true =>
      cases hi : (ix == 0) with
      | false =>
        go_wp2_with (first | (go_at_call 13; refine (implRole _ _).mono ?_; rintro e w' ⟨rfl, rfl⟩) | fail)
        go_ret
        exact ⟨rfl, alloc_below _ _⟩
      | true =>
        go_wp2_with (first | (go_at_call 13; refine (implRole _ _).mono ?_; rintro e w' ⟨rfl, rfl⟩) | fail)
        refine (implFit _ w.heap.size kids _ HS.out HBX.out.cells.2.2.2).mono ?_
        rintro e w1 ⟨rfl, hb⟩
        have hb2 := alloc_then hb
        clear hb
        cases hbr : branchesB kids with
        | false =>
          go_wp2_with fail
          go_ret
          exact ⟨ret_bool (by rw [hbr]; rfl), hb2⟩
        | true =>
          go_wp2_with fail
          go_ret
          exact ⟨ret_bool (by rw [hbr]; rfl), hb2⟩

/-- localFieldsFit of the program. -/
theorem implShape (w : World) (k ix : Int) (fr : ByteArray) (sv : Value) (kids : F) (hs : Sl w sv kids) :
    Calls Tryd.prog 152 #[.agg #[.int .i64 k, .string fr, .int .i64 ix, sv]] w fun e w' => e = .returned (.bool (shapeB k fr ix kids)) ∧ Below w.heap.size w w' := by
  by_cases h1 : k = 1
  · subst h1; exact no_end w ix fr sv kids hs
  by_cases h4 : k = 4
  · subst h4; exact no_rec w ix fr sv kids hs
  by_cases h5 : k = 5
  · subst h5; exact no_var w ix fr sv kids hs
  by_cases h2 : k = 2 ∨ k = 3
  · exact no_act w k ix fr sv kids h2 hs
  · exact no_other w k ix fr sv kids h1 (by omega) (by omega) h4 h5

end Go.Proofs.YtfppglfajbmapaaDoor.Lo
