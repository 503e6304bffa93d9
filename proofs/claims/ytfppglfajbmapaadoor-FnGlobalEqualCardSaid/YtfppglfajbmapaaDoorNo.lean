/- globalNodeOf of the program. -/
import Derived.Test.YtfppglfajbmapaaDoorLf
namespace Go.Proofs.YtfppglfajbmapaaDoor
open Go.RowKit

theorem node_msg (w : World) (ix : Int) (fr to : ByteArray) (sv : Value) (kids : F) (hs : Sl w sv kids) (h1 : roleB fr = true) (h2 : roleB to = true) (h3 : ¬ fr.toList = to.toList) (h4 : ix = 0) (h5 : branchesB kids = true) :
    Calls Tryd.prog 93 #[.agg #[.int .i64 2, .string fr, .string to, .int .i64 ix, sv]] w fun e w' => e = .returned (.iface ( /- t -/ 155) (.agg #[.string fr, .string to, sv])) ∧ Below w.heap.size w w' := by
  have hfe : ¬ fr.toList = [] := by
    intro e
    rw [show roleB fr = false from by simp [roleB, e]] at h1
    cases h1
  have hbe : (fr.toList == to.toList) = false := beq_eq_false_iff_ne.2 h3
  subst h4
  obtain ⟨a, cap, rfl, -, -⟩ := hs.at
  have HS := hide hs
  have H5 := hide h5
  have HBX := hide (Box5.now w (.int .i64 2) (.string fr) (.string to) (.int .i64 0) (.slice a kids.len cap) ( /- t -/ 25))
  clear hs h5
  go_enter Tryd.func93, Tryd.ntmps93
  go_wp2_with (first | (go_at_call 13; refine (implRole _ _).mono ?_; rintro e w' ⟨rfl, rfl⟩) | fail)
  refine (implFit _ w.heap.size kids _ (HS.out.still (Still.of_below (alloc_below _ _))) HBX.out.cells.2.2.2.2).mono ?_
  rintro e w1 ⟨rfl, hb⟩
  rw [H5.out]
  obtain ⟨c0, c1, c2, c3, c4, hlt, hb2⟩ := box5 hb
  clear hb
  go_wp2_with fail
  go_ret
  exact ⟨rfl, hb2⟩

set_option maxHeartbeats 400000 in
theorem node_end (w : World) (ix : Int) (fr to : ByteArray) (sv : Value) (kids : F) (hs : Sl w sv kids) (h1 : fr.toList = []) (h2 : to.toList = []) (h4 : ix = 0) (h5 : kids = .nil) :
    Calls Tryd.prog 93 #[.agg #[.int .i64 1, .string fr, .string to, .int .i64 ix, sv]] w fun e w' => e = .returned (.iface ( /- t -/ 150) (.agg #[])) ∧ Below w.heap.size w w' := by
  subst h4 h5
  obtain ⟨a, cap, rfl, hlen, -⟩ := hs.at
  change Calls Tryd.prog 93 #[.agg #[.int .i64 1, .string fr, .string to, .int .i64 0, .slice a 0 cap]] w _
  go_enter Tryd.func93, Tryd.ntmps93
  go_wp2_with fail
  go_ret
  exact ⟨rfl, alloc_below _ _⟩

set_option maxHeartbeats 400000 in
theorem node_var (w : World) (ix : Int) (fr to : ByteArray) (sv : Value) (kids : F) (hs : Sl w sv kids) (h1 : fr.toList = []) (h2 : to.toList = []) (h4 : 0 ≤ ix) (h5 : kids = .nil) :
    Calls Tryd.prog 93 #[.agg #[.int .i64 4, .string fr, .string to, .int .i64 ix, sv]] w fun e w' => e = .returned (.iface ( /- t -/ 161) (.agg #[.int .i64 ix])) ∧ Below w.heap.size w w' := by
  subst h5
  obtain ⟨a, cap, rfl, hlen, -⟩ := hs.at
  change Calls Tryd.prog 93 #[.agg #[.int .i64 4, .string fr, .string to, .int .i64 ix, .slice a 0 cap]] w _
  go_enter Tryd.func93, Tryd.ntmps93
  go_wp2_with fail
  go_ret
  exact ⟨rfl, alloc_below _ _⟩

set_option maxHeartbeats 400000 in
theorem node_rec (w : World) (ix : Int) (fr to : ByteArray) (b o cap : Nat) (lab : ByteArray) (k' ix' : Int) (fr' to' : ByteArray) (sv' : Value) (h1 : fr.toList = []) (h2 : to.toList = []) (h4 : ix = 0) (h5 : lab.toList = [])
    (c0 : w.cell? ⟨b, o, none⟩ = some (.string lab)) (c1 : w.cell? ⟨b, o + 1, none⟩ = some (.int .i64 k')) (c2 : w.cell? ⟨b, o + 2, none⟩ = some (.string fr')) (c3 : w.cell? ⟨b, o + 3, none⟩ = some (.string to'))
    (c4 : w.cell? ⟨b, o + 4, none⟩ = some (.int .i64 ix')) (c5 : w.cell? ⟨b, o + 5, none⟩ = some sv') :
    Calls Tryd.prog 93 #[.agg #[.int .i64 3, .string fr, .string to, .int .i64 ix, .slice (some ⟨b, o, none⟩) 1 cap]] w
      fun e w' => e = .returned (.iface ( /- t -/ 159) (.agg #[.int .i64 k', .string fr', .string to', .int .i64 ix', sv'])) ∧ Below w.heap.size w w' := by
  subst h4
  have hbw : b < w.heap.size := World.block_lt_of_cell? _ _ c0
  go_enter Tryd.func93, Tryd.ntmps93
  go_wp2_with fail
  go_ret
  exact ⟨rfl, alloc_below _ _⟩

set_option maxHeartbeats 800000 in
theorem bad_msg (w : World) (ix : Int) (fr to : ByteArray) (sv : Value) (kids : F) (hs : Sl w sv kids) (h : shapeB 2 fr to ix kids = false) :
    Calls Tryd.prog 93 #[.agg #[.int .i64 2, .string fr, .string to, .int .i64 ix, sv]] w fun e w' => e = .returned .nilIface ∧ Below w.heap.size w w' := by
  obtain ⟨a, cap, rfl, -, -⟩ := hs.at
  have HS := hide (hs.still (Still.of_below (alloc_below w (.cells #[.int .i64 2, .string fr, .string to, .int .i64 ix, .slice a kids.len cap] ( /- t -/ 25)))))
  have H := hide h
  have HBX := hide (Box5.now w (.int .i64 2) (.string fr) (.string to) (.int .i64 ix) (.slice a kids.len cap) ( /- t -/ 25))
  clear hs h
  go_enter Tryd.func93, Tryd.ntmps93
  go_wp2_with (first | (go_at_call 13; refine (implRole _ _).mono ?_; rintro e w' ⟨rfl, rfl⟩) | fail)
  · go_ret
    exact ⟨rfl, alloc_below _ _⟩
  · exfalso
    have e1 : fr.toList = [] := by assumption
    have e2 : roleB fr = true := by assumption
    rw [show roleB fr = false from by simp [roleB, e1]] at e2
    cases e2
  · go_ret
    exact ⟨rfl, alloc_below _ _⟩
  · go_ret
    exact ⟨rfl, alloc_below _ _⟩
  · go_ret
    exact ⟨rfl, alloc_below _ _⟩
  · go_ret
    exact ⟨rfl, alloc_below _ _⟩
  · have e1 : roleB fr = true := by assumption
    have e2 : roleB to = true := by assumption
    have e3 : ¬ fr.toList = to.toList := by assumption
    have e4 : ix = 0 := by assumption
    have e5 : branchesB kids = false := by
      have h0 := H.out
      simpa [shapeB, e1, e2, e3, e4] using h0
    have E5 := hide e5
    subst e4
    refine (implFit _ w.heap.size kids _ HS.out HBX.out.cells.2.2.2.2).mono ?_
    rintro e w1 ⟨rfl, hb⟩
    rw [E5.out]
    obtain ⟨-, -, -, -, -, -, hb2⟩ := box5 hb
    clear hb e5
    go_wp2_with fail
    go_ret
    exact ⟨rfl, hb2⟩
  · go_ret
    exact ⟨rfl, alloc_below _ _⟩
  · go_ret
    exact ⟨rfl, alloc_below _ _⟩
  · go_ret
    exact ⟨rfl, alloc_below _ _⟩

set_option maxHeartbeats 800000 in
theorem bad_end (w : World) (ix : Int) (fr to : ByteArray) (sv : Value) (kids : F) (hs : Sl w sv kids) (h : shapeB 1 fr to ix kids = false) :
    Calls Tryd.prog 93 #[.agg #[.int .i64 1, .string fr, .string to, .int .i64 ix, sv]] w fun e w' => e = .returned .nilIface ∧ Below w.heap.size w w' := by
  obtain ⟨a, cap, rfl, -, -⟩ := hs.at
  have H := hide h
  clear hs h
  go_enter Tryd.func93, Tryd.ntmps93
  go_wp2_with fail
  · exfalso
    have e1 : fr.toList = [] := by assumption
    have e2 : to.toList = [] := by assumption
    have e3 : ix = 0 := by assumption
    have e4 : ((kids.len : Int) == 0) = true := by assumption
    have e5 : kids.len = 0 := by have := beq_iff_eq.1 e4; omega
    have h0 := H.out
    simp [shapeB, e1, e2, e3, e5] at h0
  all_goals go_ret
  all_goals exact ⟨rfl, alloc_below _ _⟩

set_option maxHeartbeats 800000 in
theorem bad_var (w : World) (ix : Int) (fr to : ByteArray) (sv : Value) (kids : F) (hs : Sl w sv kids) (h : shapeB 4 fr to ix kids = false) :
    Calls Tryd.prog 93 #[.agg #[.int .i64 4, .string fr, .string to, .int .i64 ix, sv]] w fun e w' => e = .returned .nilIface ∧ Below w.heap.size w w' := by
  obtain ⟨a, cap, rfl, -, -⟩ := hs.at
  have H := hide h
  clear hs h
  go_enter Tryd.func93, Tryd.ntmps93
  go_wp2_with fail
  · exfalso
    have e1 : fr.toList = [] := by assumption
    have e2 : to.toList = [] := by assumption
    have e3 : 0 ≤ ix := by assumption
    have e4 : ((kids.len : Int) == 0) = true := by assumption
    have e5 : kids.len = 0 := by have := beq_iff_eq.1 e4; omega
    have h0 := H.out
    simp [shapeB, e1, e2, e3, e5] at h0
  all_goals go_ret
  all_goals exact ⟨rfl, alloc_below _ _⟩

set_option maxHeartbeats 800000 in
theorem bad_rec_len (w : World) (ix : Int) (fr to : ByteArray) (sv : Value) (kids : F) (hs : Sl w sv kids) (h : ¬ kids.len = 1) :
    Calls Tryd.prog 93 #[.agg #[.int .i64 3, .string fr, .string to, .int .i64 ix, sv]] w fun e w' => e = .returned .nilIface ∧ Below w.heap.size w w' := by
  obtain ⟨a, cap, rfl, -, -⟩ := hs.at
  have hlb : (((kids.len : Nat) : Int) == 1) = false := beq_eq_false_iff_ne.2 (by omega)
  have H := hide h
  clear hs h
  go_enter Tryd.func93, Tryd.ntmps93
  go_wp2_with fail
  all_goals go_ret
  all_goals exact ⟨rfl, alloc_below _ _⟩

set_option maxHeartbeats 800000 in
theorem bad_rec_one (w : World) (ix : Int) (fr to : ByteArray) (b o cap : Nat) (lab : ByteArray) (h : (fr.toList.isEmpty && to.toList.isEmpty && ix == 0 && lab.toList.isEmpty) = false)
    (c0 : w.cell? ⟨b, o, none⟩ = some (.string lab)) :
    Calls Tryd.prog 93 #[.agg #[.int .i64 3, .string fr, .string to, .int .i64 ix, .slice (some ⟨b, o, none⟩) 1 cap]] w fun e w' => e = .returned .nilIface ∧ Below w.heap.size w w' := by
  have hbw : b < w.heap.size := World.block_lt_of_cell? _ _ c0
  have H := hide h
  clear h
  go_enter Tryd.func93, Tryd.ntmps93
  go_wp2_with fail
  all_goals first
    | (exfalso
       have h0 := H.out
       have e1 : fr.toList = [] := by assumption
       have e2 : to.toList = [] := by assumption
       have e3 : ix = 0 := by assumption
       have e4 : lab.toList.isEmpty = true := by assumption
       simp [e1, e2, e3, e4] at h0
       done)
    | (go_ret
       exact ⟨rfl, alloc_below _ _⟩)

set_option maxHeartbeats 800000 in
theorem bad_else (w : World) (k ix : Int) (fr to : ByteArray) (sv : Value) (kids : F) (hs : Sl w sv kids) (h1 : (k == 1) = false) (h2 : (k == 2) = false) (h3 : (k == 3) = false) (h4 : (k == 4) = false) :
    Calls Tryd.prog 93 #[.agg #[.int .i64 k, .string fr, .string to, .int .i64 ix, sv]] w fun e w' => e = .returned .nilIface ∧ Below w.heap.size w w' := by
  obtain ⟨a, cap, rfl, -, -⟩ := hs.at
  clear hs
  go_enter Tryd.func93, Tryd.ntmps93
  go_wp2_with fail
  all_goals go_ret
  all_goals exact ⟨rfl, alloc_below _ _⟩
/-- globalNodeOf at a node whose fields do not fit its kind. -/
theorem node_bad (w : World) (k ix : Int) (fr to : ByteArray) (sv : Value) (kids : F) (hs : Sl w sv kids) (h : shapeB k fr to ix kids = false) :
    Calls Tryd.prog 93 #[.agg #[.int .i64 k, .string fr, .string to, .int .i64 ix, sv]] w fun e w' => e = .returned .nilIface ∧ Below w.heap.size w w' := by
  by_cases h1 : k = 1
  · subst h1; exact bad_end w ix fr to sv kids hs h
  by_cases h2 : k = 2
  · subst h2; exact bad_msg w ix fr to sv kids hs h
  by_cases h4 : k = 4
  · subst h4; exact bad_var w ix fr to sv kids hs h
  by_cases h3 : k = 3
  · subst h3
    by_cases hl : kids.len = 1
    · cases kids with
      | nil => simp [F.len] at hl
      | cons lab k' fr' to' ix' kids' rest =>
        have hr : rest = .nil := nil_of_len (by simp only [F.len] at hl; omega)
        subst hr
        obtain ⟨a, cap, rfl, -, hat⟩ := hs.at
        obtain ⟨b', o', rfl, _, _, _, _, _, d0, _⟩ := hat.head
        simp only [Nat.zero_mul, Nat.add_zero] at d0
        refine bad_rec_one w ix fr to b' o' cap lab ?_ d0
        have e : shapeB 3 fr to ix (.cons lab k' fr' to' ix' kids' .nil) = (fr.toList.isEmpty && to.toList.isEmpty && ix == 0 && lab.toList.isEmpty) := by simp [shapeB, bareB, F.len]
        rw [← e]
        exact h
    · exact bad_rec_len w ix fr to sv kids hs hl
  exact bad_else w k ix fr to sv kids hs (beq_eq_false_iff_ne.2 h1) (beq_eq_false_iff_ne.2 h2) (beq_eq_false_iff_ne.2 h3) (beq_eq_false_iff_ne.2 h4)

end Go.Proofs.YtfppglfajbmapaaDoor
