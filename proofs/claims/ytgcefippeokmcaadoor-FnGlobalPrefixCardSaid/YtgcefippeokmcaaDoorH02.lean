/- No, Cg, Ul, Uq, Ft -/
import Derived.Test.YtgcefippeokmcaaDoorH01
import Derived.RegionTactic
import Derived.Test.YtgcefippeokmcaaDoorH00
import Derived.Deep.LoopGhost
/- globalNodeOf of the program. -/
namespace Go.Proofs.YtgcefippeokmcaaDoor
open Go.RowKit

theorem node_msg (w : World) (ix : Int) (fr tq : ByteArray) (sv : Value) (kids : F) (hs : Sl w sv kids) (h1 : roleB fr = true) (h2 : roleB tq = true) (h3 : ¬ fr.toList = tq.toList) (h4 : ix = 0) (h5 : branchesB kids = true) :
    Calls Tryd.prog 126 #[.agg #[.int .i64 2, .string fr, .string tq, .int .i64 ix, sv]] w fun e w' => e = .returned (.iface ( /- t -/ 187) (.agg #[.string fr, .string tq, sv])) ∧ Below w.heap.size w w' := by
  have hfe : ¬ fr.toList = [] := by
    intro e
    rw [show roleB fr = false from by simp [roleB, e]] at h1
    cases h1
  have hbe : (fr.toList == tq.toList) = false := beq_eq_false_iff_ne.2 h3
  subst h4
  obtain ⟨a, cap, rfl, -, -⟩ := hs.at
  have HS := hide hs
  have H5 := hide h5
  have HBX := hide (Box5.now w (.int .i64 2) (.string fr) (.string tq) (.int .i64 0) (.slice a kids.len cap) ( /- t -/ 39))
  clear hs h5
  go_enter Tryd.func126, Tryd.ntmps126
  go_wp2_with (first | (go_at_call 20; refine (implRole _ _).mono ?_; rintro e w' ⟨rfl, rfl⟩) | fail)
  refine (implFit _ w.heap.size kids _ (HS.out.still (Still.of_below (alloc_below _ _))) HBX.out.cells.2.2.2.2).mono ?_
  rintro e w1 ⟨rfl, hb⟩
  rw [H5.out]
  obtain ⟨c0, c1, c2, c3, c4, hlt, hb2⟩ := box5 hb
  clear hb
  go_wp2_with fail
  go_ret
  exact ⟨rfl, hb2⟩

set_option maxHeartbeats 400000 in
theorem node_end (w : World) (ix : Int) (fr tq : ByteArray) (sv : Value) (kids : F) (hs : Sl w sv kids) (h1 : fr.toList = []) (h2 : tq.toList = []) (h4 : ix = 0) (h5 : kids = .nil) :
    Calls Tryd.prog 126 #[.agg #[.int .i64 1, .string fr, .string tq, .int .i64 ix, sv]] w fun e w' => e = .returned (.iface ( /- t -/ 185) (.agg #[])) ∧ Below w.heap.size w w' := by
  subst h4 h5
  obtain ⟨a, cap, rfl, hlen, -⟩ := hs.at
  change Calls Tryd.prog 126 #[.agg #[.int .i64 1, .string fr, .string tq, .int .i64 0, .slice a 0 cap]] w _
  go_enter Tryd.func126, Tryd.ntmps126
  go_wp2_with fail
  go_ret
  exact ⟨rfl, alloc_below _ _⟩

set_option maxHeartbeats 400000 in
theorem node_var (w : World) (ix : Int) (fr tq : ByteArray) (sv : Value) (kids : F) (hs : Sl w sv kids) (h1 : fr.toList = []) (h2 : tq.toList = []) (h4 : 0 ≤ ix) (h5 : kids = .nil) :
    Calls Tryd.prog 126 #[.agg #[.int .i64 4, .string fr, .string tq, .int .i64 ix, sv]] w fun e w' => e = .returned (.iface ( /- t -/ 169) (.agg #[.int .i64 ix])) ∧ Below w.heap.size w w' := by
  subst h5
  obtain ⟨a, cap, rfl, hlen, -⟩ := hs.at
  change Calls Tryd.prog 126 #[.agg #[.int .i64 4, .string fr, .string tq, .int .i64 ix, .slice a 0 cap]] w _
  go_enter Tryd.func126, Tryd.ntmps126
  go_wp2_with fail
  go_ret
  exact ⟨rfl, alloc_below _ _⟩

set_option maxHeartbeats 400000 in
theorem node_rec (w : World) (ix : Int) (fr tq : ByteArray) (b o cap : Nat) (lab : ByteArray) (k' ix' : Int) (fr' tq' : ByteArray) (sv' : Value) (h1 : fr.toList = []) (h2 : tq.toList = []) (h4 : ix = 0) (h5 : lab.toList = [])
    (c0 : w.cell? ⟨b, o, none⟩ = some (.string lab)) (c1 : w.cell? ⟨b, o + 1, none⟩ = some (.int .i64 k')) (c2 : w.cell? ⟨b, o + 2, none⟩ = some (.string fr')) (c3 : w.cell? ⟨b, o + 3, none⟩ = some (.string tq'))
    (c4 : w.cell? ⟨b, o + 4, none⟩ = some (.int .i64 ix')) (c5 : w.cell? ⟨b, o + 5, none⟩ = some sv') :
    Calls Tryd.prog 126 #[.agg #[.int .i64 3, .string fr, .string tq, .int .i64 ix, .slice (some ⟨b, o, none⟩) 1 cap]] w
      fun e w' => e = .returned (.iface ( /- t -/ 189) (.agg #[.int .i64 k', .string fr', .string tq', .int .i64 ix', sv'])) ∧ Below w.heap.size w w' := by
  subst h4
  have hbw : b < w.heap.size := World.block_lt_of_cell? _ _ c0
  go_enter Tryd.func126, Tryd.ntmps126
  go_wp2_with fail
  go_ret
  exact ⟨rfl, alloc_below _ _⟩

set_option maxHeartbeats 800000 in
theorem bad_msg (w : World) (ix : Int) (fr tq : ByteArray) (sv : Value) (kids : F) (hs : Sl w sv kids) (h : shapeB 2 fr tq ix kids = false) :
    Calls Tryd.prog 126 #[.agg #[.int .i64 2, .string fr, .string tq, .int .i64 ix, sv]] w fun e w' => e = .returned .nilIface ∧ Below w.heap.size w w' := by
  obtain ⟨a, cap, rfl, -, -⟩ := hs.at
  have HS := hide (hs.still (Still.of_below (alloc_below w (.cells #[.int .i64 2, .string fr, .string tq, .int .i64 ix, .slice a kids.len cap] ( /- t -/ 39)))))
  have H := hide h
  have HBX := hide (Box5.now w (.int .i64 2) (.string fr) (.string tq) (.int .i64 ix) (.slice a kids.len cap) ( /- t -/ 39))
  clear hs h
  go_enter Tryd.func126, Tryd.ntmps126
  go_wp2_with (first | (go_at_call 20; refine (implRole _ _).mono ?_; rintro e w' ⟨rfl, rfl⟩) | fail)
  · go_ret
    exact ⟨rfl, alloc_below _ _⟩
  · exfalso
    have e1 : fr.toList = [] := by assumption
    have e2 : roleB fr = true := by assumption
    rw [show roleB fr = false from by simp [roleB, e1]] at e2
    cases e2
  · go_ret
    exact ⟨rfl, alloc_below _ _⟩
  · go_ret
    exact ⟨rfl, alloc_below _ _⟩
  · go_ret
    exact ⟨rfl, alloc_below _ _⟩
  · go_ret
    exact ⟨rfl, alloc_below _ _⟩
  · have e1 : roleB fr = true := by assumption
    have e2 : roleB tq = true := by assumption
    have e3 : ¬ fr.toList = tq.toList := by assumption
    have e4 : ix = 0 := by assumption
    have e5 : branchesB kids = false := by
      have h0 := H.out
      simpa [shapeB, e1, e2, e3, e4] using h0
    have E5 := hide e5
    subst e4
    refine (implFit _ w.heap.size kids _ HS.out HBX.out.cells.2.2.2.2).mono ?_
    rintro e w1 ⟨rfl, hb⟩
    rw [E5.out]
    obtain ⟨-, -, -, -, -, -, hb2⟩ := box5 hb
    clear hb e5
    go_wp2_with fail
    go_ret
    exact ⟨rfl, hb2⟩
  · go_ret
    exact ⟨rfl, alloc_below _ _⟩
  · go_ret
    exact ⟨rfl, alloc_below _ _⟩
  · go_ret
    exact ⟨rfl, alloc_below _ _⟩

set_option maxHeartbeats 800000 in
theorem bad_end (w : World) (ix : Int) (fr tq : ByteArray) (sv : Value) (kids : F) (hs : Sl w sv kids) (h : shapeB 1 fr tq ix kids = false) :
    Calls Tryd.prog 126 #[.agg #[.int .i64 1, .string fr, .string tq, .int .i64 ix, sv]] w fun e w' => e = .returned .nilIface ∧ Below w.heap.size w w' := by
  obtain ⟨a, cap, rfl, -, -⟩ := hs.at
  have H := hide h
  clear hs h
  go_enter Tryd.func126, Tryd.ntmps126
  go_wp2_with fail
  · exfalso
    have e1 : fr.toList = [] := by assumption
    have e2 : tq.toList = [] := by assumption
    have e3 : ix = 0 := by assumption
    have e4 : ((kids.len : Int) == 0) = true := by assumption
    have e5 : kids.len = 0 := by have := beq_iff_eq.1 e4; omega
    have h0 := H.out
    simp [shapeB, e1, e2, e3, e5] at h0
  all_goals go_ret
  all_goals exact ⟨rfl, alloc_below _ _⟩

set_option maxHeartbeats 800000 in
theorem bad_var (w : World) (ix : Int) (fr tq : ByteArray) (sv : Value) (kids : F) (hs : Sl w sv kids) (h : shapeB 4 fr tq ix kids = false) :
    Calls Tryd.prog 126 #[.agg #[.int .i64 4, .string fr, .string tq, .int .i64 ix, sv]] w fun e w' => e = .returned .nilIface ∧ Below w.heap.size w w' := by
  obtain ⟨a, cap, rfl, -, -⟩ := hs.at
  have H := hide h
  clear hs h
  go_enter Tryd.func126, Tryd.ntmps126
  go_wp2_with fail
  · exfalso
    have e1 : fr.toList = [] := by assumption
    have e2 : tq.toList = [] := by assumption
    have e3 : 0 ≤ ix := by assumption
    have e4 : ((kids.len : Int) == 0) = true := by assumption
    have e5 : kids.len = 0 := by have := beq_iff_eq.1 e4; omega
    have h0 := H.out
    simp [shapeB, e1, e2, e3, e5] at h0
  all_goals go_ret
  all_goals exact ⟨rfl, alloc_below _ _⟩

set_option maxHeartbeats 800000 in
theorem bad_rec_len (w : World) (ix : Int) (fr tq : ByteArray) (sv : Value) (kids : F) (hs : Sl w sv kids) (h : ¬ kids.len = 1) :
    Calls Tryd.prog 126 #[.agg #[.int .i64 3, .string fr, .string tq, .int .i64 ix, sv]] w fun e w' => e = .returned .nilIface ∧ Below w.heap.size w w' := by
  obtain ⟨a, cap, rfl, -, -⟩ := hs.at
  have hlb : (((kids.len : Nat) : Int) == 1) = false := beq_eq_false_iff_ne.2 (by omega)
  have H := hide h
  clear hs h
  go_enter Tryd.func126, Tryd.ntmps126
  go_wp2_with fail
  all_goals go_ret
  all_goals exact ⟨rfl, alloc_below _ _⟩

set_option maxHeartbeats 800000 in
theorem bad_rec_one (w : World) (ix : Int) (fr tq : ByteArray) (b o cap : Nat) (lab : ByteArray) (h : (fr.toList.isEmpty && tq.toList.isEmpty && ix == 0 && lab.toList.isEmpty) = false)
    (c0 : w.cell? ⟨b, o, none⟩ = some (.string lab)) :
    Calls Tryd.prog 126 #[.agg #[.int .i64 3, .string fr, .string tq, .int .i64 ix, .slice (some ⟨b, o, none⟩) 1 cap]] w fun e w' => e = .returned .nilIface ∧ Below w.heap.size w w' := by
  have hbw : b < w.heap.size := World.block_lt_of_cell? _ _ c0
  have H := hide h
  clear h
  go_enter Tryd.func126, Tryd.ntmps126
  go_wp2_with fail
  all_goals first
    | (exfalso
       have h0 := H.out
       have e1 : fr.toList = [] := by assumption
       have e2 : tq.toList = [] := by assumption
       have e3 : ix = 0 := by assumption
       have e4 : lab.toList.isEmpty = true := by assumption
       simp [e1, e2, e3, e4] at h0
       done)
    | (go_ret
       exact ⟨rfl, alloc_below _ _⟩)

set_option maxHeartbeats 800000 in
theorem bad_else (w : World) (k ix : Int) (fr tq : ByteArray) (sv : Value) (kids : F) (hs : Sl w sv kids) (h1 : (k == 1) = false) (h2 : (k == 2) = false) (h3 : (k == 3) = false) (h4 : (k == 4) = false) :
    Calls Tryd.prog 126 #[.agg #[.int .i64 k, .string fr, .string tq, .int .i64 ix, sv]] w fun e w' => e = .returned .nilIface ∧ Below w.heap.size w w' := by
  obtain ⟨a, cap, rfl, -, -⟩ := hs.at
  clear hs
  go_enter Tryd.func126, Tryd.ntmps126
  go_wp2_with fail
  all_goals go_ret
  all_goals exact ⟨rfl, alloc_below _ _⟩
/-- globalNodeOf at a node whose fields do not fit its kind. -/
theorem node_bad (w : World) (k ix : Int) (fr tq : ByteArray) (sv : Value) (kids : F) (hs : Sl w sv kids) (h : shapeB k fr tq ix kids = false) :
    Calls Tryd.prog 126 #[.agg #[.int .i64 k, .string fr, .string tq, .int .i64 ix, sv]] w fun e w' => e = .returned .nilIface ∧ Below w.heap.size w w' := by
  by_cases h1 : k = 1
  · subst h1; exact bad_end w ix fr tq sv kids hs h
  by_cases h2 : k = 2
  · subst h2; exact bad_msg w ix fr tq sv kids hs h
  by_cases h4 : k = 4
  · subst h4; exact bad_var w ix fr tq sv kids hs h
  by_cases h3 : k = 3
  · subst h3
    by_cases hl : kids.len = 1
    · cases kids with
      | nil => simp [F.len] at hl
      | cons lab k' fr' tq' ix' kids' rest =>
        have hr : rest = .nil := nil_of_len (by simp only [F.len] at hl; omega)
        subst hr
        obtain ⟨a, cap, rfl, -, hat⟩ := hs.at
        obtain ⟨b', o', rfl, _, _, _, _, _, d0, _⟩ := hat.head
        simp only [Nat.zero_mul, Nat.add_zero] at d0
        refine bad_rec_one w ix fr tq b' o' cap lab ?_ d0
        have e : shapeB 3 fr tq ix (.cons lab k' fr' tq' ix' kids' .nil) = (fr.toList.isEmpty && tq.toList.isEmpty && ix == 0 && lab.toList.isEmpty) := by simp [shapeB, bareB, F.len]
        rw [← e]
        exact h
    · exact bad_rec_len w ix fr tq sv kids hs hl
  exact bad_else w k ix fr tq sv kids hs (beq_eq_false_iff_ne.2 h1) (beq_eq_false_iff_ne.2 h2) (beq_eq_false_iff_ne.2 h3) (beq_eq_false_iff_ne.2 h4)

end Go.Proofs.YtgcefippeokmcaaDoor

/- countGlobal of the program. -/
namespace Go.Proofs.YtgcefippeokmcaaDoor
open Go.RowKit

/-- What countGlobal owes: it is valid and the nodes are within the limit, or not; where they are, they are counted. -/
def CgPost (c : Nat) (w : World) (m : Nat) (size : Nat) (v : Bool) (e : Ending) (w' : World) : Prop :=
  ∃ m' : Nat, e = .returned (.bool (v && decide (m + size ≤ 400))) ∧ Only c w w' ∧ Ctr w' c m' ∧ ((v && decide (m + size ≤ 400)) = true → m' = m + size)

def CgAt (n : Nat) : Prop := ∀ (w : World) (k ix depth recs ung : Int) (fr tq : ByteArray) (sv : Value) (kids : F) (c m : Nat), kids.sz < n → Sl w sv kids → Ctr w c m → m ≤ 400 →
  1 ≤ depth → depth ≤ 41 → 0 ≤ recs → recs + 1 ≤ depth → 0 ≤ ung → ung + 1 ≤ depth →
  Calls Tryd.prog 95 #[.agg #[.int .i64 k, .string fr, .string tq, .int .i64 ix, sv], .agg #[.int .i64 depth, .int .i64 recs, .int .i64 ung], .pointer (some ⟨c, 0, none⟩)] w
    (CgPost c w m (kids.sz + 1) (vldN k fr tq ix kids recs ung (41 - depth)))

/-! ### The type switch -/
theorem ta_nilEnd (w : World) : (Instr.typeAssert .nilIface ( /- t -/ 172) ( /- t -/ 185) true).run Tryd.prog w = .ok (.tuple #[.agg #[], .bool false]) w := by kernel_rfl
theorem taEndEnd (v : Value) (w : World) : (Instr.typeAssert (.iface ( /- t -/ 185) v) ( /- t -/ 172) ( /- t -/ 185) true).run Tryd.prog w = .ok (.tuple #[v, .bool true]) w := by kernel_rfl
theorem taMsgEnd (v : Value) (w : World) : (Instr.typeAssert (.iface ( /- t -/ 187) v) ( /- t -/ 172) ( /- t -/ 185) true).run Tryd.prog w = .ok (.tuple #[.agg #[], .bool false]) w := by kernel_rfl
theorem taRecEnd (v : Value) (w : World) : (Instr.typeAssert (.iface ( /- t -/ 189) v) ( /- t -/ 172) ( /- t -/ 185) true).run Tryd.prog w = .ok (.tuple #[.agg #[], .bool false]) w := by kernel_rfl
theorem taVarEnd (v : Value) (w : World) : (Instr.typeAssert (.iface ( /- t -/ 169) v) ( /- t -/ 172) ( /- t -/ 185) true).run Tryd.prog w = .ok (.tuple #[.agg #[], .bool false]) w := by kernel_rfl
theorem ta_nilMsg (w : World) : (Instr.typeAssert .nilIface ( /- t -/ 172) ( /- t -/ 187) true).run Tryd.prog w = .ok (.tuple #[.agg #[.string ⟨#[]⟩, .string ⟨#[]⟩, .slice none 0 0], .bool false]) w := by kernel_rfl
theorem taEndMsg (v : Value) (w : World) : (Instr.typeAssert (.iface ( /- t -/ 185) v) ( /- t -/ 172) ( /- t -/ 187) true).run Tryd.prog w = .ok (.tuple #[.agg #[.string ⟨#[]⟩, .string ⟨#[]⟩, .slice none 0 0], .bool false]) w := by kernel_rfl
theorem taMsgMsg (v : Value) (w : World) : (Instr.typeAssert (.iface ( /- t -/ 187) v) ( /- t -/ 172) ( /- t -/ 187) true).run Tryd.prog w = .ok (.tuple #[v, .bool true]) w := by kernel_rfl
theorem taRecMsg (v : Value) (w : World) : (Instr.typeAssert (.iface ( /- t -/ 189) v) ( /- t -/ 172) ( /- t -/ 187) true).run Tryd.prog w = .ok (.tuple #[.agg #[.string ⟨#[]⟩, .string ⟨#[]⟩, .slice none 0 0], .bool false]) w := by kernel_rfl
theorem taVarMsg (v : Value) (w : World) : (Instr.typeAssert (.iface ( /- t -/ 169) v) ( /- t -/ 172) ( /- t -/ 187) true).run Tryd.prog w = .ok (.tuple #[.agg #[.string ⟨#[]⟩, .string ⟨#[]⟩, .slice none 0 0], .bool false]) w := by kernel_rfl
theorem ta_nilRec (w : World) : (Instr.typeAssert .nilIface ( /- t -/ 172) ( /- t -/ 189) true).run Tryd.prog w = .ok (.tuple #[.agg #[.int .i64 0, .string ⟨#[]⟩, .string ⟨#[]⟩, .int .i64 0, .slice none 0 0], .bool false]) w := by kernel_rfl
theorem taEndRec (v : Value) (w : World) : (Instr.typeAssert (.iface ( /- t -/ 185) v) ( /- t -/ 172) ( /- t -/ 189) true).run Tryd.prog w = .ok (.tuple #[.agg #[.int .i64 0, .string ⟨#[]⟩, .string ⟨#[]⟩, .int .i64 0, .slice none 0 0], .bool false]) w := by kernel_rfl
theorem taMsgRec (v : Value) (w : World) : (Instr.typeAssert (.iface ( /- t -/ 187) v) ( /- t -/ 172) ( /- t -/ 189) true).run Tryd.prog w = .ok (.tuple #[.agg #[.int .i64 0, .string ⟨#[]⟩, .string ⟨#[]⟩, .int .i64 0, .slice none 0 0], .bool false]) w := by kernel_rfl
theorem taRecRec (v : Value) (w : World) : (Instr.typeAssert (.iface ( /- t -/ 189) v) ( /- t -/ 172) ( /- t -/ 189) true).run Tryd.prog w = .ok (.tuple #[v, .bool true]) w := by kernel_rfl
theorem taVarRec (v : Value) (w : World) : (Instr.typeAssert (.iface ( /- t -/ 169) v) ( /- t -/ 172) ( /- t -/ 189) true).run Tryd.prog w = .ok (.tuple #[.agg #[.int .i64 0, .string ⟨#[]⟩, .string ⟨#[]⟩, .int .i64 0, .slice none 0 0], .bool false]) w := by kernel_rfl
theorem ta_nilVar (w : World) : (Instr.typeAssert .nilIface ( /- t -/ 172) ( /- t -/ 169) true).run Tryd.prog w = .ok (.tuple #[.agg #[.int .i64 0], .bool false]) w := by kernel_rfl
theorem taEndVar (v : Value) (w : World) : (Instr.typeAssert (.iface ( /- t -/ 185) v) ( /- t -/ 172) ( /- t -/ 169) true).run Tryd.prog w = .ok (.tuple #[.agg #[.int .i64 0], .bool false]) w := by kernel_rfl
theorem taMsgVar (v : Value) (w : World) : (Instr.typeAssert (.iface ( /- t -/ 187) v) ( /- t -/ 172) ( /- t -/ 169) true).run Tryd.prog w = .ok (.tuple #[.agg #[.int .i64 0], .bool false]) w := by kernel_rfl
theorem taRecVar (v : Value) (w : World) : (Instr.typeAssert (.iface ( /- t -/ 189) v) ( /- t -/ 172) ( /- t -/ 169) true).run Tryd.prog w = .ok (.tuple #[.agg #[.int .i64 0], .bool false]) w := by kernel_rfl
theorem taVarVar (v : Value) (w : World) : (Instr.typeAssert (.iface ( /- t -/ 169) v) ( /- t -/ 172) ( /- t -/ 169) true).run Tryd.prog w = .ok (.tuple #[v, .bool true]) w := by kernel_rfl

theorem shape_end {fr tq : ByteArray} {ix : Int} {kids : F} (h : shapeB 1 fr tq ix kids = true) : fr.toList = [] ∧ tq.toList = [] ∧ ix = 0 ∧ kids = .nil := by
  have h' : (fr.toList.isEmpty && tq.toList.isEmpty && ix == 0 && decide (kids.len = 0)) = true := h
  simp only [Bool.and_eq_true, List.isEmpty_iff, beq_iff_eq, decide_eq_true_eq] at h'
  exact ⟨h'.1.1.1, h'.1.1.2, h'.1.2, nil_of_len h'.2⟩
theorem shape_var {fr tq : ByteArray} {ix : Int} {kids : F} (h : shapeB 4 fr tq ix kids = true) : fr.toList = [] ∧ tq.toList = [] ∧ 0 ≤ ix ∧ kids = .nil := by
  have h' : (fr.toList.isEmpty && tq.toList.isEmpty && decide (0 ≤ ix) && decide (kids.len = 0)) = true := h
  simp only [Bool.and_eq_true, List.isEmpty_iff, decide_eq_true_eq] at h'
  exact ⟨h'.1.1.1, h'.1.1.2, h'.1.2, nil_of_len h'.2⟩
theorem shape_msg {fr tq : ByteArray} {ix : Int} {kids : F} (h : shapeB 2 fr tq ix kids = true) : roleB fr = true ∧ roleB tq = true ∧ ¬ fr.toList = tq.toList ∧ ix = 0 ∧ branchesB kids = true := by
  have h' : (roleB fr && roleB tq && !(fr.toList == tq.toList) && ix == 0 && branchesB kids) = true := h
  simp only [Bool.and_eq_true, beq_iff_eq, Bool.not_eq_true', beq_eq_false_iff_ne] at h'
  exact ⟨h'.1.1.1.1, h'.1.1.1.2, h'.1.1.2, h'.1.2, h'.2⟩
theorem shape_rec {fr tq : ByteArray} {ix : Int} {kids : F} (h : shapeB 3 fr tq ix kids = true) : fr.toList = [] ∧ tq.toList = [] ∧ ix = 0 ∧ ∃ lab k' fr' tq' ix' kids', kids = .cons lab k' fr' tq' ix' kids' .nil ∧ lab.toList = [] := by
  have h' : (fr.toList.isEmpty && tq.toList.isEmpty && ix == 0 && decide (kids.len = 1) && bareB kids) = true := h
  simp only [Bool.and_eq_true, List.isEmpty_iff, beq_iff_eq, decide_eq_true_eq] at h'
  refine ⟨h'.1.1.1.1, h'.1.1.1.2, h'.1.1.2, ?_⟩
  obtain ⟨⟨-, hl⟩, hb⟩ := h'
  cases kids with
  | nil => simp [F.len] at hl
  | cons lab k' fr' tq' ix' kids' rest =>
    have hr : rest = .nil := nil_of_len (by simp only [F.len] at hl; omega)
    subst hr
    exact ⟨lab, k', fr', tq', ix', kids', rfl, List.isEmpty_iff.1 hb⟩

theorem alloc_last (w : World) (cs : Array Value) (t : TypeId) : (w.alloc (.cells cs t)).heap[w.heap.size]? = some (.cells cs t (0, 0)) := by
  show (w.heap.push _)[w.heap.size]? = _
  simp

/-- The world in which the node is asked for its kind, and each one behind it. -/
theorem cg_start {w w1 : World} {c m : Nat} {v0 v1 v2 v3 v4 x0 x1 x2 y0 y1 y2 : Value} {t u : TypeId} (hc : Ctr w c m)
    (hb : Below (w.heap.size + 3) ((((w.setCell ⟨c, 0, none⟩ (.int .i64 ((m : Int) + 1))).alloc (.cells #[v0, v1, v2, v3, v4] t)).alloc (.cells #[x0, x1, x2] u)).alloc (.cells #[y0, y1, y2] u)) w1) :
    Only c w w1 ∧ Ctr w1 c ((m + 1 : Nat) : Int) ∧ w.heap.size + 2 < w1.heap.size ∧
    w1.cell? ⟨w.heap.size, 0, none⟩ = some v0 ∧ w1.cell? ⟨w.heap.size, 1, none⟩ = some v1 ∧ w1.cell? ⟨w.heap.size, 2, none⟩ = some v2 ∧ w1.cell? ⟨w.heap.size, 3, none⟩ = some v3 ∧ w1.cell? ⟨w.heap.size, 4, none⟩ = some v4 ∧
    w1.cell? ⟨w.heap.size + 1, 0, none⟩ = some x0 ∧ w1.cell? ⟨w.heap.size + 1, 1, none⟩ = some x1 ∧ w1.cell? ⟨w.heap.size + 1, 2, none⟩ = some x2 ∧
    w1.cell? ⟨w.heap.size + 1 + 1, 0, none⟩ = some y0 ∧ w1.cell? ⟨w.heap.size + 1 + 1, 1, none⟩ = some y1 ∧ w1.cell? ⟨w.heap.size + 1 + 1, 2, none⟩ = some y2 ∧
    ∃ T, w1.heap[w.heap.size + 2]? = some (.cells #[y0, y1, y2] T (0, 0)) := by
  have hlt := hc.lt
  have o1 : Only c w (w.setCell ⟨c, 0, none⟩ (.int .i64 ((m : Int) + 1))) := (Only.refl c w).setCell (Or.inl rfl) _
  have k1 : Ctr (w.setCell ⟨c, 0, none⟩ (.int .i64 ((m : Int) + 1))) c ((m + 1 : Nat) : Int) := by
    have := hc.set ((m : Int) + 1)
    rwa [show ((m + 1 : Nat) : Int) = (m : Int) + 1 by omega]
  have s1 : (w.setCell ⟨c, 0, none⟩ (.int .i64 ((m : Int) + 1))).heap.size = w.heap.size := World.size_setCell ..
  generalize (w.setCell ⟨c, 0, none⟩ (.int .i64 ((m : Int) + 1))) = w0 at *
  have a1 := alloc_last w0 #[v0, v1, v2, v3, v4] t
  have a2 := alloc_last (w0.alloc (.cells #[v0, v1, v2, v3, v4] t)) #[x0, x1, x2] u
  have a3 := alloc_last ((w0.alloc (.cells #[v0, v1, v2, v3, v4] t)).alloc (.cells #[x0, x1, x2] u)) #[y0, y1, y2] u
  have z1 : (w0.alloc (.cells #[v0, v1, v2, v3, v4] t)).heap.size = w0.heap.size + 1 := by simp
  have z2 : ((w0.alloc (.cells #[v0, v1, v2, v3, v4] t)).alloc (.cells #[x0, x1, x2] u)).heap.size = w0.heap.size + 2 := by simp
  have z3 : (((w0.alloc (.cells #[v0, v1, v2, v3, v4] t)).alloc (.cells #[x0, x1, x2] u)).alloc (.cells #[y0, y1, y2] u)).heap.size = w0.heap.size + 3 := by simp
  rw [z1] at a2
  rw [z2] at a3
  have e1 : w1.heap[w.heap.size]? = some (.cells #[v0, v1, v2, v3, v4] t (0, 0)) := by
    rw [hb.block _ (by omega), Below.heap_alloc _ _ _ (by omega), Below.heap_alloc _ _ _ (by omega), ← s1]; exact a1
  have e2 : w1.heap[w.heap.size + 1]? = some (.cells #[x0, x1, x2] u (0, 0)) := by
    rw [hb.block _ (by omega), Below.heap_alloc _ _ _ (by omega), ← s1]; exact a2
  have e3 : w1.heap[w.heap.size + 2]? = some (.cells #[y0, y1, y2] u (0, 0)) := by
    rw [hb.block _ (by omega), ← s1]; exact a3
  have hs := hb.size
  refine ⟨?_, ?_, by omega, ?_, ?_, ?_, ?_, ?_, ?_, ?_, ?_, ?_, ?_, ?_, u, e3⟩
  · exact ((((o1.alloc _).alloc _).alloc _).trans ⟨hb.os, hb.tape, hb.output, hb.size, fun i hi _ => hb.block i (by omega)⟩)
  · exact (((k1.alloc _).alloc _).alloc _).same (hb.block _ (by omega))
  all_goals first
    | (rw [cell_of_heap e1]; rfl)
    | (rw [cell_of_heap e2]; rfl)
    | (rw [cell_of_heap e3]; rfl)

set_option maxHeartbeats 400000 in
set_option maxRecDepth 100000 in
theorem cg_full (w : World) (k ix depth recs ung : Int) (fr tq : ByteArray) (sv : Value) (kids : F) (c m : Nat) (hc : Ctr w c m) (hm : 400 ≤ m) (hm2 : m ≤ 400) :
    Calls Tryd.prog 95 #[.agg #[.int .i64 k, .string fr, .string tq, .int .i64 ix, sv], .agg #[.int .i64 depth, .int .i64 recs, .int .i64 ung], .pointer (some ⟨c, 0, none⟩)] w
    (CgPost c w m (kids.sz + 1) (vldN k fr tq ix kids recs ung (41 - depth))) := by
  have h0 := hc.cell
  have h1 : w.frozen? ⟨c, 0, none⟩ = false := hc.frozen
  have h2 := hc.lt
  go_enter Tryd.func95, Tryd.ntmps95
  go_wp2_with fail
  go_ret
  refine ⟨m + 1, ?_, ?_, ?_, ?_⟩
  · rw [decide_eq_false (by omega), Bool.and_false]
    rfl
  · exact ((((Only.refl c w).setCell (Or.inl rfl) _).alloc _).alloc _)
  · have := ((hc.set ((m : Int) + 1)).alloc (.cells #[.int .i64 k, .string fr, .string tq, .int .i64 ix, sv] ( /- t -/ 39))).alloc (.cells #[.int .i64 depth, .int .i64 recs, .int .i64 ung] ( /- t -/ 109))
    rwa [show ((m + 1 : Nat) : Int) = (m : Int) + 1 by omega]
  · rw [decide_eq_false (by omega), Bool.and_false]
    intro h
    cases h

set_option maxHeartbeats 400000 in
set_option maxRecDepth 100000 in
theorem cg_deep (w : World) (k ix depth recs ung : Int) (fr tq : ByteArray) (sv : Value) (kids : F) (c m : Nat) (hc : Ctr w c m) (hm : m ≤ 399) (hd : 40 < depth) :
    Calls Tryd.prog 95 #[.agg #[.int .i64 k, .string fr, .string tq, .int .i64 ix, sv], .agg #[.int .i64 depth, .int .i64 recs, .int .i64 ung], .pointer (some ⟨c, 0, none⟩)] w
    (CgPost c w m (kids.sz + 1) (vldN k fr tq ix kids recs ung (41 - depth))) := by
  have h0 := hc.cell
  have h1 : w.frozen? ⟨c, 0, none⟩ = false := hc.frozen
  have h2 := hc.lt
  go_enter Tryd.func95, Tryd.ntmps95
  go_wp2_with fail
  go_ret
  have hv : vldN k fr tq ix kids recs ung (41 - depth) = false := by
    unfold vldN nodeB
    rw [decide_eq_false (by omega)]
    rfl
  refine ⟨m + 1, ?_, ?_, ?_, ?_⟩
  · rw [hv]; rfl
  · exact ((((Only.refl c w).setCell (Or.inl rfl) _).alloc _).alloc _)
  · have := ((hc.set ((m : Int) + 1)).alloc (.cells #[.int .i64 k, .string fr, .string tq, .int .i64 ix, sv] ( /- t -/ 39))).alloc (.cells #[.int .i64 depth, .int .i64 recs, .int .i64 ung] ( /- t -/ 109))
    rwa [show ((m + 1 : Nat) : Int) = (m : Int) + 1 by omega]
  · rw [hv]
    intro h
    cases h

set_option maxHeartbeats 400000 in
set_option maxRecDepth 100000 in
theorem cg_bad (w : World) (k ix depth recs ung : Int) (fr tq : ByteArray) (sv : Value) (kids : F) (c m : Nat) (hs : Sl w sv kids) (hc : Ctr w c m) (hm : m ≤ 399) (hd0 : 1 ≤ depth) (hd : depth ≤ 40) (hu : 0 ≤ ung) (hsh : shapeB k fr tq ix kids = false) :
    Calls Tryd.prog 95 #[.agg #[.int .i64 k, .string fr, .string tq, .int .i64 ix, sv], .agg #[.int .i64 depth, .int .i64 recs, .int .i64 ung], .pointer (some ⟨c, 0, none⟩)] w
    (CgPost c w m (kids.sz + 1) (vldN k fr tq ix kids recs ung (41 - depth))) := by
  have h0 := hc.cell
  have h1 : w.frozen? ⟨c, 0, none⟩ = false := hc.frozen
  have h2 := hc.lt
  have HS := hide hs
  have HSH := hide hsh
  clear hs hsh
  go_enter Tryd.func95, Tryd.ntmps95
  go_wp2_with fail
  have q0 := cg_start (v0 := .int .i64 k) (v1 := .string fr) (v2 := .string tq) (v3 := .int .i64 ix) (v4 := sv) (t := ( /- t -/ 39)) (x0 := .int .i64 depth) (x1 := .int .i64 recs) (x2 := .int .i64 ung) (y0 := .int .i64 (depth + 1)) (y1 := .int .i64 recs) (y2 := .int .i64 0) (u := ( /- t -/ 109)) hc (Below.refl _ _)
  refine (node_bad _ k ix fr tq sv kids (HS.out.only hc q0.1) HSH.out).mono ?_
  clear q0
  rintro e w1 ⟨rfl, hb⟩
  obtain ⟨p1, p2, -⟩ := cg_start hc (hb.mono (by simp))
  clear hb
  have n1 := ta_nilEnd; have n2 := ta_nilMsg; have n3 := ta_nilRec; have n4 := ta_nilVar
  go_wp2_with fail
  go_ret
  have hv : vldN k fr tq ix kids recs ung (41 - depth) = false := by
    unfold vldN
    rw [nodeB_shape _ _ _ _ _ _ _ _ hu, HSH.out, Bool.and_false, Bool.false_and]
  exact ⟨m + 1, by rw [hv]; rfl, p1, p2, by rw [hv]; intro h; cases h⟩

set_option maxHeartbeats 400000 in
set_option maxRecDepth 100000 in
theorem cg_end (w : World) (ix depth recs ung : Int) (fr tq : ByteArray) (sv : Value) (kids : F) (c m : Nat) (hs : Sl w sv kids) (hc : Ctr w c m) (hm : m ≤ 399) (hd0 : 1 ≤ depth) (hd : depth ≤ 40) (hu : 0 ≤ ung) (hsh : shapeB 1 fr tq ix kids = true) :
    Calls Tryd.prog 95 #[.agg #[.int .i64 1, .string fr, .string tq, .int .i64 ix, sv], .agg #[.int .i64 depth, .int .i64 recs, .int .i64 ung], .pointer (some ⟨c, 0, none⟩)] w
    (CgPost c w m (kids.sz + 1) (vldN 1 fr tq ix kids recs ung (41 - depth))) := by
  have h0 := hc.cell
  have h1 : w.frozen? ⟨c, 0, none⟩ = false := hc.frozen
  have h2 := hc.lt
  have HS := hide hs
  have HSH := hide hsh
  clear hs hsh
  go_enter Tryd.func95, Tryd.ntmps95
  go_wp2_with fail
  have q0 := cg_start (v0 := .int .i64 1) (v1 := .string fr) (v2 := .string tq) (v3 := .int .i64 ix) (v4 := sv) (t := ( /- t -/ 39)) (x0 := .int .i64 depth) (x1 := .int .i64 recs) (x2 := .int .i64 ung) (y0 := .int .i64 (depth + 1)) (y1 := .int .i64 recs) (y2 := .int .i64 0) (u := ( /- t -/ 109)) hc (Below.refl _ _)
  have hk := shape_end HSH.out
  refine (node_end _ ix fr tq sv kids (HS.out.only hc q0.1) hk.1 hk.2.1 hk.2.2.1 hk.2.2.2).mono ?_
  have HK := hide hk
  clear q0 hk
  rintro e w1 ⟨rfl, hb⟩
  obtain ⟨p1, p2, -⟩ := cg_start hc (hb.mono (by simp))
  clear hb
  have n1 := taEndEnd
  go_wp2_with fail
  go_ret
  have hv : vldN 1 fr tq ix kids recs ung (41 - depth) = true := by
    unfold vldN
    rw [nodeB_shape _ _ _ _ _ _ _ _ hu, HSH.out, decide_eq_true (by omega)]
    rfl
  have h1 : kids.sz = 0 := by rw [HK.out.2.2.2]; rfl
  have h3 : decide (m + (kids.sz + 1) ≤ 400) = true := decide_eq_true (by omega)
  exact ⟨m + 1, by rw [hv, h3]; rfl, p1.alloc _, p2.alloc _, fun _ => by rw [h1]⟩

set_option maxHeartbeats 400000 in
set_option maxRecDepth 100000 in
theorem cg_var (w : World) (ix depth recs ung : Int) (fr tq : ByteArray) (sv : Value) (kids : F) (c m : Nat) (hs : Sl w sv kids) (hc : Ctr w c m) (hm : m ≤ 399) (hd0 : 1 ≤ depth) (hd : depth ≤ 40) (hu : 0 ≤ ung) (hsh : shapeB 4 fr tq ix kids = true) :
    Calls Tryd.prog 95 #[.agg #[.int .i64 4, .string fr, .string tq, .int .i64 ix, sv], .agg #[.int .i64 depth, .int .i64 recs, .int .i64 ung], .pointer (some ⟨c, 0, none⟩)] w
    (CgPost c w m (kids.sz + 1) (vldN 4 fr tq ix kids recs ung (41 - depth))) := by
  have h0 := hc.cell
  have h1 : w.frozen? ⟨c, 0, none⟩ = false := hc.frozen
  have h2 := hc.lt
  have HS := hide hs
  have HSH := hide hsh
  clear hs hsh
  go_enter Tryd.func95, Tryd.ntmps95
  go_wp2_with fail
  have q0 := cg_start (v0 := .int .i64 4) (v1 := .string fr) (v2 := .string tq) (v3 := .int .i64 ix) (v4 := sv) (t := ( /- t -/ 39)) (x0 := .int .i64 depth) (x1 := .int .i64 recs) (x2 := .int .i64 ung) (y0 := .int .i64 (depth + 1)) (y1 := .int .i64 recs) (y2 := .int .i64 0) (u := ( /- t -/ 109)) hc (Below.refl _ _)
  have hk := shape_var HSH.out
  refine (node_var _ ix fr tq sv kids (HS.out.only hc q0.1) hk.1 hk.2.1 hk.2.2.1 hk.2.2.2).mono ?_
  have HK := hide hk
  clear q0 hk
  rintro e w1 ⟨rfl, hb⟩
  obtain ⟨p1, p2, hz, -, -, -, -, -, x0, x1, x2, -⟩ := cg_start hc (hb.mono (by simp))
  have hz1 : w.heap.size + 1 < w1.heap.size := by omega
  clear hb
  have n1 := taVarEnd; have n2 := taVarMsg; have n3 := taVarRec; have n4 := taVarVar
  go_wp2_with fail
  all_goals go_ret
  all_goals
    have hv : vldN 4 fr tq ix kids recs ung (41 - depth) = (decide (ung ≤ ix) && decide (ix < recs)) := by
      unfold vldN
      rw [nodeB_shape _ _ _ _ _ _ _ _ hu, HSH.out, decide_eq_true (by omega)]
      rfl
    have h1 : kids.sz = 0 := by rw [HK.out.2.2.2]; rfl
    have h3 : decide (m + (kids.sz + 1) ≤ 400) = true := decide_eq_true (by omega)
  · have h4 : ung ≤ ix := by assumption
    exact ⟨m + 1, by rw [hv, h3, decide_eq_true h4]; simp, p1.alloc _, p2.alloc _, fun _ => by rw [h1]⟩
  · have h4 : ¬ ung ≤ ix := Int.not_le.2 (by assumption)
    exact ⟨m + 1, by rw [hv, h3, decide_eq_false h4]; simp, p1.alloc _, p2.alloc _, fun _ => by rw [h1]⟩
end Go.Proofs.YtgcefippeokmcaaDoor

/- l1Copy, l1Unfold and UnfoldGlobal of the model. -/
namespace Go.Proofs.YtgcefippeokmcaaDoor
open Go.RowKit

theorem Box5.setAll {w : World} {b : Nat} {v0 v1 v2 v3 v4 : Value} (h : Box5 w b v0 v1 v2 v3 v4) (u0 u1 u2 u3 u4 : Value) :
    Box5 (((((w.setCell ⟨b, 0, none⟩ u0).setCell ⟨b, 1, none⟩ u1).setCell ⟨b, 2, none⟩ u2).setCell ⟨b, 3, none⟩ u3).setCell ⟨b, 4, none⟩ u4) b u0 u1 u2 u3 u4 := by
  obtain ⟨t, h⟩ := h
  exact ⟨t, by simp [World.setCell, Array.getElem?_modify, h]⟩

theorem kept_none (j m : Nat) : ((kept j)[m]?).join = none := by
  unfold kept
  rw [List.getElem?_replicate]
  split <;> rfl
theorem cp_kept : ∀ (f : F) (j : Nat), cpF (kept j) f = f := by
  intro f
  induction f with
  | nil => intro j; rw [cpF]
  | cons lab k fr tg ix kids rest ihk ihr =>
    intro j
    unfold cpF
    by_cases h4 : k = 4
    · simp only [if_pos h4, kept_none, ihk j, ihr j]
    · simp only [if_neg h4, ihr j]
      by_cases h3 : k = 3
      · rw [if_pos h3, show none :: kept j = kept (j + 1) from rfl, ihk]
      · rw [if_neg h3, ihk]
theorem cpN_nil (g : Nd) : cpN [] g = g := by
  obtain ⟨k, fr, tg, ix, kids⟩ := g
  have := cp_kept (.cons ⟨#[]⟩ k fr tg ix kids .nil) 0
  rw [show kept 0 = ([] : List (Option Nd)) from rfl, cpF_cons] at this
  simp only [F.cons.injEq] at this
  obtain ⟨_, h1, h2, h3, h4, h5, _⟩ := this
  cases hc : cpN [] ⟨k, fr, tg, ix, kids⟩
  rw [hc] at h1 h2 h3 h4 h5
  simp only at h1 h2 h3 h4 h5
  rw [h1, h2, h3, h4, h5]

theorem cpN_fit {s : List (Option Nd)} {g : Nd} (hs : ∀ U, some U ∈ s → Fit U) (hg : Fit g) : Fit (cpN s g) := by
  unfold cpN
  split
  · split
    · rename_i U hU
      exact hs U (mem_of_join hU)
    · exact hg
  · exact hg

/-- A valid node in a place without a guarded recursion is no variable. -/
theorem not_var {g : Nd} {b : Int} (h : wN g b b = true) : g.k ≠ 4 := by
  intro h4
  unfold wN at h
  simp only [Bool.and_eq_true] at h
  have := h.2
  rw [if_pos h4] at this
  simp only [Bool.and_eq_true, decide_eq_true_eq] at this
  omega
theorem cpN_k {s : List (Option Nd)} {g : Nd} (h : g.k ≠ 4) : cpN s g = ⟨g.k, g.fr, g.tg, g.ix, cpF (if g.k = 3 then none :: s else s) g.kids⟩ := by
  unfold cpN
  rw [if_neg h]

/-- A recursion: its one branch. -/
theorem rec_kid {g : Nd} {b u : Int} (h : wN g b u = true) (h3 : g.k = 3) : ∃ lab k fr tg ix kids, g.kids = .cons lab k fr tg ix kids .nil ∧ wN ⟨k, fr, tg, ix, kids⟩ (b + 1) (u + 1) = true := by
  unfold wN at h
  simp only [Bool.and_eq_true] at h
  obtain ⟨h1, h2⟩ := h
  rw [h3] at h1
  obtain ⟨_, _, _, lab, k', fr', tg', ix', kids', e, _⟩ := shape_rec h1
  rw [if_neg (by omega), if_pos h3, e] at h2
  simp only [wF, Bool.and_true] at h2
  exact ⟨lab, k', fr', tg', ix', kids', e, h2⟩

/-- What holds at each head of the unfolding loop. -/
structure UlIs (T : Nd) (n : Nat) (s : List (Option Nd)) (N : Nd) : Prop where
  eq : unfN n s N = T
  sz : N.kids.sz < n
  va : VaS s
  w : wN N (s.length : Int) (s.length : Int) = true
  hs : ∀ U, some U ∈ s → hN U ≤ 41 * s.length
  h : s.length + hN N ≤ 41
  fit : ∀ U, some U ∈ s → Fit U

theorem UlIs.start {g : Nd} (hw : wN g 0 0 = true) (hh : hN g ≤ 40) : UlIs (unf g) (g.kids.sz + 1) [] g :=
  ⟨rfl, Nat.lt_succ_self _, fun x hx => by simp at hx, hw, fun U hU => by simp at hU, by simp; omega, fun U hU => by simp at hU⟩
/-- One recursion more. -/
theorem UlIs.step {T : Nd} {n : Nat} {s : List (Option Nd)} {N : Nd} (h : UlIs T (n + 1) s N) (h3 : N.k = 3) (hf : Fit (cpN s N)) {lab : ByteArray} {k : Int} {fr tg : ByteArray} {ix : Int} {kids : F} (hk : N.kids = .cons lab k fr tg ix kids .nil)
    (hw : wN ⟨k, fr, tg, ix, kids⟩ ((s.length : Int) + 1) ((s.length : Int) + 1) = true) : UlIs T n (some (cpN s N) :: s) ⟨k, fr, tg, ix, kids⟩ := by
  have hc := cpN_w s h.va N (wN_u _ _ _ _ h.w (by omega))
  have hh := cpN_h (41 * s.length) N s h.hs
  have h2 := h.h
  have hkh : hN N = 1 + (1 + hF kids) := by unfold hN; rw [hk]; simp [hF]
  have hsz := h.sz
  rw [hk] at hsz
  simp only [F.sz] at hsz
  refine ⟨?_, by simp only; omega, ?_, ?_, ?_, ?_, ?_⟩
  · have := h.eq
    unfold unfN at this
    rw [if_pos h3, hk] at this
    exact this
  · intro x hx
    rcases List.mem_cons.1 hx with rfl | hx
    · exact ⟨_, rfl, hc⟩
    · exact h.va x hx
  · rw [show (((some (cpN s N) :: s).length : Nat) : Int) = (s.length : Int) + 1 by simp]
    exact hw
  · intro U hU
    simp only [List.length_cons]
    rcases List.mem_cons.1 hU with hU | hU
    · cases hU
      omega
    · have := h.hs U hU
      omega
  · simp only [List.length_cons]
    unfold hN at hkh h2 ⊢
    simp only
    omega
  · intro U hU
    rcases List.mem_cons.1 hU with hU | hU
    · cases hU
      exact hf
    · exact h.fit U hU
theorem UlIs.stop {T : Nd} {n : Nat} {s : List (Option Nd)} {N : Nd} (h : UlIs T n s N) (h3 : N.k ≠ 3) : cpN s N = T := by
  have h1 := h.eq
  have h2 := h.sz
  cases n with
  | zero => omega
  | succ n =>
    unfold unfN at h1
    rw [if_neg h3] at h1
    exact h1

set_option maxHeartbeats 1000000 in
set_option maxRecDepth 100000 in
theorem copy_calls (w : World) (U : Nd) (su : Value) (hsu : Sl w su U.kids) (hc : CopyOk U) :
    Calls Tryd.prog 129 #[.agg #[.int .i64 U.k, .string U.fr, .string U.tg, .int .i64 U.ix, su]] w (MadeN U.k U.fr U.tg U.ix U.kids w) := by
  have HC := hide hc
  have HS := hide hsu
  clear hc hsu
  go_enter Tryd.func129, Tryd.ntmps129
  go_wp2_with fail
  refine (HC.out _ su (HS.out.still (Still.of_below ?_))).mono ?_
  · exact (alloc_below _ _).alloc (by simp) _
  rintro e w1 ⟨u, bs, rfl, how, hge, hnd, hb⟩
  obtain ⟨ua, uc, rfl⟩ := how.val
  have HO := hide how
  have HG := hide hge
  clear how hge
  obtain ⟨hc, hf⟩ := bcell hb
  have hz := hb.size
  simp at hz
  go_wp2_with fail
  refine bodyPost_ret (v := .agg #[.int .i64 U.k, .string U.fr, .string U.tg, .int .i64 U.ix, .slice ua U.kids.len uc]) (by simp [results, Tryd.results129, go_sem, hc]) rfl ?_
  have hB : Below w.heap.size w w1 := (((alloc_below w _).alloc (by simp) _).trans (hb.mono (by simp; omega)))
  have q : ∀ b, b ∈ bs → w.heap.size + 2 ≤ b := fun b h => by have := HG.out b h; simp at this; omega
  refine ⟨_, bs, rfl, HO.out.same ?_, fun b h => by have := q b h; omega, hnd, ?_⟩
  · repeat (refine Same.setCell ?_ (fun b h => by have := q b h; simp; omega) _)
    exact Same.refl _ _
  · repeat (refine Below.setCell ?_ (by first | (simp; done) | (simp; omega)) _)
    exact hB

/-- The loop's relation in memory. -/
def UlRel (w : World) (T : Nd) (n : Nat) (wr : World) : Prop :=
  ∃ s N sv, UlIs T n s N ∧ Box5 wr w.heap.size (.int .i64 (cpN s N).k) (.string (cpN s N).fr) (.string (cpN s N).tg) (.int .i64 (cpN s N).ix) sv ∧
    Sl wr sv (cpN s N).kids ∧ Fit (cpN s N) ∧ Box5 wr (w.heap.size + 1) (.int .i64 0) (.string ⟨#[]⟩) (.string ⟨#[]⟩) (.int .i64 0) (.slice none 0 0) ∧ Below w.heap.size w wr

set_option maxHeartbeats 2000000 in
set_option maxRecDepth 100000 in
/-- l1Unfold of the model. -/
theorem unf_calls (w : World) (g : Nd) (sv : Value) (hs : Sl w sv g.kids) (hw : wN g 0 0 = true) (hh : hN g ≤ 40) (hf : Fit g) :
    Calls Tryd.prog 84 #[.agg #[.int .i64 g.k, .string g.fr, .string g.tg, .int .i64 g.ix, sv]] w (MadeN (unf g).k (unf g).fr (unf g).tg (unf g).ix (unf g).kids w) := by
  have HST : Hid (UlRel w (unf g) (g.kids.sz + 1) ((w.alloc (.cells #[.int .i64 g.k, .string g.fr, .string g.tg, .int .i64 g.ix, sv] ( /- t -/ 39))).alloc (.cells #[.int .i64 0, .string ⟨#[]⟩, .string ⟨#[]⟩, .int .i64 0, .slice none 0 0] ( /- t -/ 39)))) := by
    have h1 := (Box5.now w (.int .i64 g.k) (.string g.fr) (.string g.tg) (.int .i64 g.ix) sv ( /- t -/ 39)).below (alloc_below _ (.cells #[.int .i64 0, .string ⟨#[]⟩, .string ⟨#[]⟩, .int .i64 0, .slice none 0 0] ( /- t -/ 39)))
    have h2 := Box5.now (w.alloc (.cells #[.int .i64 g.k, .string g.fr, .string g.tg, .int .i64 g.ix, sv] ( /- t -/ 39))) (.int .i64 0) (.string ⟨#[]⟩) (.string ⟨#[]⟩) (.int .i64 0) (.slice none 0 0) ( /- t -/ 39)
    rw [show (w.alloc (.cells #[.int .i64 g.k, .string g.fr, .string g.tg, .int .i64 g.ix, sv] ( /- t -/ 39))).heap.size = w.heap.size + 1 from by simp] at h2
    have h3 := (alloc_below w (.cells #[.int .i64 g.k, .string g.fr, .string g.tg, .int .i64 g.ix, sv] ( /- t -/ 39))).alloc (by simp) (.cells #[.int .i64 0, .string ⟨#[]⟩, .string ⟨#[]⟩, .int .i64 0, .slice none 0 0] ( /- t -/ 39))
    refine hide ⟨[], g, sv, UlIs.start hw hh, ?_, ?_, ?_, h2, h3⟩
    · rw [cpN_nil]; exact h1
    · rw [cpN_nil]; exact hs.still (Still.of_below h3)
    · rw [cpN_nil]; exact hf
  generalize unf g = T at *
  clear hw hh hf hs
  go_enter Tryd.func84, Tryd.ntmps84
  go_wp2_with fail
  go_loopg [3] (g.kids.sz + 1) (fun n v wr => UlRel w T n wr)
  case atStart => exact HST.out
  case round =>
    obtain ⟨s, N, sv', hul, hx, hsl, hft, hz, hb⟩ := hrel
    obtain ⟨x0, x1, x2, x3, x4⟩ := hx.cells
    have fx := hx.frozen
    have hxl := hx.lt
    have hnv := not_var hul.w
    by_cases h3 : N.k = 3
    · have hk : (cpN s N).k = 3 := by rw [cpN_k hnv]; exact h3
      obtain ⟨lab, k', fr', tg', ix', kids', hkid, hw'⟩ := rec_kid hul.w h3
      obtain ⟨C, hC⟩ : ∃ C, C = cpN s N := ⟨_, rfl⟩
      obtain ⟨M, hM⟩ : ∃ M, M = cpN (none :: s) ⟨k', fr', tg', ix', kids'⟩ := ⟨_, rfl⟩
      have hCk : C.kids = .cons lab M.k M.fr M.tg M.ix M.kids .nil := by
        rw [hC, cpN_k hnv, if_pos h3, hkid, cpF_cons, hM]
        simp only [cpF]
      rw [← hC] at x0 x1 x2 x3 hsl hft hx hk
      obtain ⟨a, cap, rfl, hlen, hat⟩ := hsl.at
      rw [hCk] at hat
      obtain ⟨b', o, rfl, l1, l2, l3, l4, l5, c0, c1, c2, c3, c4, ⟨sv2, c5, hsv⟩, -⟩ := hat.head
      simp only [Nat.zero_mul, Nat.add_zero] at c0 c1 c2 c3 c4 c5
      have hl1 : C.kids.len = 1 := by rw [hCk]; rfl
      cases gk with
      | zero => exact absurd hul.sz (by omega)
      | succ n =>
      have hva := cpN_w s hul.va N (wN_u _ _ _ _ hul.w (by omega))
      rw [← hC] at hva
      have hCh : hN C ≤ 2000 := by
        have h1 := cpN_h (41 * s.length) N s hul.hs
        have h2 := hul.h
        rw [hC]
        omega
      have hMw : ∃ b u, 0 ≤ u ∧ wN M b u = true := by
        have h1 := cp_w s hul.va (.cons ⟨#[]⟩ k' fr' tg' ix' kids' .nil) 1 ((s.length : Int) + 1) (by omega) (by
          rw [show ((1 + s.length : Nat) : Int) = (s.length : Int) + 1 by omega]
          simp only [wF, Bool.and_true]
          exact hw')
        rw [show kept 1 ++ s = none :: s from rfl, cpF_cons, ← hM] at h1
        simp only [wF, cpF, Bool.and_true] at h1
        exact ⟨_, _, by omega, h1⟩
      have hMh : hF M.kids ≤ 4000 := by
        have h1 := cpN_h (41 * s.length) ⟨k', fr', tg', ix', kids'⟩ (none :: s) (fun U hU => by
          rcases List.mem_cons.1 hU with h | h
          · cases h
          · exact hul.hs U h)
        have h2 := hul.h
        have h3 : hN N = 1 + (1 + hF kids') := by unfold hN; rw [hkid]; simp [hF]
        rw [← hM] at h1
        unfold hN at h1 h2 h3
        simp only at h1
        omega
      have hstep := hul.step h3 (by rw [← hC]; exact hft) hkid hw'
      rw [← hC] at hstep
      have hsub : subN C M 0 = cpN (some C :: s) ⟨k', fr', tg', ix', kids'⟩ := by
        rw [hM]
        exact sub_cpN C s hul.va.cl _ _ (scN_of_w _ _ _ (by omega) hw')
      have hok : CopyOk C := copy_ok C 0 0 (by omega) (by omega) hva hft (by omega)
      have hdr : Still wr wr.drew := fun _ _ h => h
      have HCALL : Hid (Calls Tryd.prog 128 #[.agg #[.int .i64 M.k, .string M.fr, .string M.tg, .int .i64 M.ix, sv2], .agg #[.int .i64 C.k, .string C.fr, .string C.tg, .int .i64 C.ix, .slice (some ⟨b', o, none⟩) C.kids.len cap], .int .i64 0] wr.drew (MadeN (subN C M 0).k (subN C M 0).fr (subN C M 0).tg (subN C M 0).ix (subN C M 0).kids wr.drew)) :=
        hide (sub_all (M.kids.sz + 1) wr.drew M.k M.ix 0 M.fr M.tg sv2 M.kids C _ (Nat.lt_succ_self _) (hsv.still hdr) (hsl.still hdr) ⟨l2, l3, l4, l5⟩ hft (by omega) (by omega) hMw (Or.inr hok))
      have HFM : Hid (Fit (cpN (some C :: s) ⟨k', fr', tg', ix', kids'⟩)) := hide (by rw [← hsub]; exact subN_fit ⟨l2, l3, l4, l5⟩ hft)
      rw [hsub] at HCALL
      have HSTEP := hide hstep
      have HB := hide hb
      have HZ := hide hz
      have HX := hide hx
      have hlt : (0 : Int) < (C.kids.len : Int) := by rw [hl1]; decide
      have hlt2 : 0 < C.kids.len := by omega
      have hq : (C.k == 3) = true := beq_iff_eq.2 hk
      clear hl1 hk hul hsl hft hz hb hx hC hM hCk hat hva hCh hMw hMh hstep hsub hok hdr hsv hkid hw' h3 l1 l2 l3 l4 l5 hlen c0 hnv
      go_wp2_with fail
      refine wp_region_T (fun w' => w'.cell? ⟨w.heap.size, 0, none⟩ = some (.int .i64 C.k) ∧ w'.cell? ⟨w.heap.size, 1, none⟩ = some (.string C.fr) ∧ w'.cell? ⟨w.heap.size, 2, none⟩ = some (.string C.tg) ∧ w'.cell? ⟨w.heap.size, 3, none⟩ = some (.int .i64 C.ix) ∧ w'.cell? ⟨w.heap.size, 4, none⟩ = some (.slice (some ⟨b', o, none⟩) C.kids.len cap) ∧
        w'.cell? ⟨b', o + 1, none⟩ = some (.int .i64 M.k) ∧ w'.cell? ⟨b', o + 2, none⟩ = some (.string M.fr) ∧ w'.cell? ⟨b', o + 3, none⟩ = some (.string M.tg) ∧ w'.cell? ⟨b', o + 4, none⟩ = some (.int .i64 M.ix) ∧ w'.cell? ⟨b', o + 5, none⟩ = some sv2) 7 (by kernel_rfl) ⟨x0, x1, x2, x3, x4, c1, c2, c3, c4, c5⟩ (fun hHeld => ?_)
      refine wpAnyT_take (L := 7) (i := 0) (v := ?v0) rfl (by kernel_rfl) (by kernel_rfl) (by kernel_rfl) (by kernel_rfl) (fun _ _ _ h => h) hHeld (Or.inl ⟨by rfl, ?hy0⟩) ?rest0
      case hy0 => ((intro w' hw'); (try dsimp only at hw'); (go_simp); (try with_reducible rfl))
      (try simp only [Act.put]); (try simp only [List.setIfInBounds_toArray]); (try simp only [List.set_cons_zero]); (try simp only [List.set_cons_succ])
      refine wpAnyT_take (L := 7) (i := 1) (v := ?v1) rfl (by kernel_rfl) (by kernel_rfl) (by kernel_rfl) (by kernel_rfl) (fun _ _ _ h => h) hHeld (Or.inl ⟨by rfl, ?hy1⟩) ?rest1
      case hy1 => ((intro w' hw'); (try dsimp only at hw'); (go_simp); (try with_reducible rfl))
      (try simp only [Act.put]); (try simp only [List.setIfInBounds_toArray]); (try simp only [List.set_cons_zero]); (try simp only [List.set_cons_succ])
      refine wpAnyT_take (L := 7) (i := 2) (v := ?v2) rfl (by kernel_rfl) (by kernel_rfl) (by kernel_rfl) (by kernel_rfl) (fun _ _ _ h => h) hHeld (Or.inl ⟨by rfl, ?hy2⟩) ?rest2
      case hy2 => ((intro w' hw'); (try dsimp only at hw'); (go_simp); (try with_reducible rfl))
      (try simp only [Act.put]); (try simp only [List.setIfInBounds_toArray]); (try simp only [List.set_cons_zero]); (try simp only [List.set_cons_succ])
      refine wpAnyT_take (L := 7) (i := 3) (v := ?v3) rfl (by kernel_rfl) (by kernel_rfl) (by kernel_rfl) (by kernel_rfl) (fun _ _ _ h => h) hHeld (Or.inl ⟨by rfl, ?hy3⟩) ?rest3
      case hy3 => ((intro w' hw'); (try dsimp only at hw'); (go_simp); (try with_reducible rfl))
      (try simp only [Act.put]); (try simp only [List.setIfInBounds_toArray]); (try simp only [List.set_cons_zero]); (try simp only [List.set_cons_succ])
      refine wpAnyT_take (L := 7) (i := 4) (v := ?v4) rfl (by kernel_rfl) (by kernel_rfl) (by kernel_rfl) (by kernel_rfl) (fun _ _ _ h => h) hHeld (Or.inl ⟨by rfl, ?hy4⟩) ?rest4
      case hy4 => ((intro w' hw'); (try dsimp only at hw'); (go_simp); (try with_reducible rfl))
      (try simp only [Act.put]); (try simp only [List.setIfInBounds_toArray]); (try simp only [List.set_cons_zero]); (try simp only [List.set_cons_succ])
      refine wpAnyT_take (L := 7) (i := 5) (v := ?v5) rfl (by kernel_rfl) (by kernel_rfl) (by kernel_rfl) (by kernel_rfl) (fun _ _ _ h => h) hHeld (Or.inl ⟨by rfl, ?hy5⟩) ?rest5
      case hy5 => ((intro w' hw'); (try dsimp only at hw'); (go_simp); (try with_reducible rfl))
      (try simp only [Act.put]); (try simp only [List.setIfInBounds_toArray]); (try simp only [List.set_cons_zero]); (try simp only [List.set_cons_succ])
      refine wpAnyT_one (L := 7) (i := 6) (by kernel_rfl) rfl (fun K hK => ?_)
      go_simp
      go_at_call 128
      (with_reducible refine HCALL.out.mono ?_)
      rintro e w5 ⟨u, ks, rfl, how, hks, hknd, hb5⟩
      obtain ⟨ua, uc, rfl⟩ := how.val
      have hst := Still.of_below hb5
      refine hK.out _ _ (fun _ => ⟨hst _ _ x0, hst _ _ x1, hst _ _ x2, hst _ _ x3, hst _ _ x4, hst _ _ c1, hst _ _ c2, hst _ _ c3, hst _ _ c4, hst _ _ c5⟩) ?_
      clear hK K
      (try simp only [Act.put]); (try simp only [List.setIfInBounds_toArray]); (try simp only [List.set_cons_zero]); (try simp only [List.set_cons_succ])
      have hx5 := (HX.out.same (w' := wr.drew) rfl).below hb5
      obtain ⟨e0, e1, e2, e3, e4⟩ := hx5.cells
      have fe := hx5.frozen
      refine wpAnyT_one (L := 7) (i := 7) (by kernel_rfl) rfl (fun K hK => ?_)
      go_simp
      refine hK.out _ _ (fun h => absurd rfl h) ?_
      refine wpAnyT_done (by kernel_rfl) ?_ _
      clear hK K
      have hzz := (HZ.out.same (w' := wr.drew) rfl).below hb5
      have hbb := HB.out.drew.trans (hb5.mono HB.out.drew.size)
      have hxa := hx5.setAll (.int .i64 (cpN (some C :: s) ⟨k', fr', tg', ix', kids'⟩).k) (.string (cpN (some C :: s) ⟨k', fr', tg', ix', kids'⟩).fr) (.string (cpN (some C :: s) ⟨k', fr', tg', ix', kids'⟩).tg) (.int .i64 (cpN (some C :: s) ⟨k', fr', tg', ix', kids'⟩).ix) (.slice ua (cpN (some C :: s) ⟨k', fr', tg', ix', kids'⟩).kids.len uc)
      have HREL : Hid (UlRel w T n (((((w5.setCell ⟨w.heap.size, 0, none⟩ (.int .i64 (cpN (some C :: s) ⟨k', fr', tg', ix', kids'⟩).k)).setCell ⟨w.heap.size, 1, none⟩ (.string (cpN (some C :: s) ⟨k', fr', tg', ix', kids'⟩).fr)).setCell ⟨w.heap.size, 2, none⟩ (.string (cpN (some C :: s) ⟨k', fr', tg', ix', kids'⟩).tg)).setCell ⟨w.heap.size, 3, none⟩ (.int .i64 (cpN (some C :: s) ⟨k', fr', tg', ix', kids'⟩).ix)).setCell ⟨w.heap.size, 4, none⟩ (.slice ua (cpN (some C :: s) ⟨k', fr', tg', ix', kids'⟩).kids.len uc))) := by
        have q : ∀ b, b ∈ ks → w.heap.size < b := fun b hb => by have := hks b hb; simp at this; omega
        refine hide ⟨some C :: s, ⟨k', fr', tg', ix', kids'⟩, _, HSTEP.out, hxa, (how.same ?_).sl, HFM.out, ?_, ?_⟩
        · repeat (refine Same.setCell ?_ (fun b h => by have := q b h; simp; omega) _)
          exact Same.refl _ _
        · exact ((((hzz.setOther (by simp) _).setOther (by simp) _).setOther (by simp) _).setOther (by simp) _).setOther (by simp) _
        · exact ((((hbb.setCell (by simp) _).setCell (by simp) _).setCell (by simp) _).setCell (by simp) _).setCell (by simp) _
      clear hzz hbb hxa how hks hknd hx5 e0 e1 e2 e3 e4 fe
      go_wp2_with fail
      go_roundg n
      case rel => exact HREL.out
      case measure => omega
    · have hT := hul.stop h3
      have hk : (cpN s N).k ≠ 3 := by rw [cpN_k hnv]; exact h3
      have hva := cpN_w s hul.va N (wN_u _ _ _ _ hul.w (by omega))
      have hTh : hN T ≤ 2000 := by
        have h1 := cpN_h (41 * s.length) N s hul.hs
        have h2 := hul.h
        rw [← hT]
        omega
      rw [hT] at x0 x1 x2 x3 hsl hft hx hk hva
      have HOK : Hid (CopyOk T) := hide (copy_ok T 0 0 (by omega) (by omega) hva hft (by omega))
      have hq : (T.k == 3) = false := beq_eq_false_iff_ne.2 hk
      have HB := hide hb
      have HZ := hide hz
      have HS := hide hsl
      clear hul hft hb hz hx hT hk hva hTh hnv hsl
      go_wp2_with fail
      refine (copy_calls _ T sv' HS.out HOK.out).mono ?_
      rintro e w5 ⟨u, ks, rfl, how, hks, hknd, hb5⟩
      obtain ⟨ua, uc, rfl⟩ := how.val
      have hz5 := HZ.out.below hb5
      obtain ⟨z0, z1, z2, z3, z4⟩ := hz5.cells
      have fz := hz5.frozen
      have HO := hide how
      have HG := hide hks
      have HB5 := hide (HB.out.trans (hb5.mono HB.out.size))
      clear how hks hb5 hz5
      go_wp2_with fail
      refine bodyPost_ret (v := .agg #[.int .i64 T.k, .string T.fr, .string T.tg, .int .i64 T.ix, .slice ua T.kids.len uc]) (by simp [results, Tryd.results84, go_sem, *]) rfl ?_
      have hzl := HZ.out.lt
      have q : ∀ b, b ∈ ks → w.heap.size + 1 < b := fun b h => by have := HG.out b h; omega
      refine ⟨_, ks, rfl, HO.out.same ?_, fun b h => by have := q b h; omega, hknd, ?_⟩
      · repeat (refine Same.setCell ?_ (fun b h => by have := q b h; simp; omega) _)
        exact Same.refl _ _
      · repeat (refine Below.setCell ?_ (by first | (simp; done) | (simp; omega)) _)
        exact HB5.out

end Go.Proofs.YtgcefippeokmcaaDoor

/- l1Substitute and l1Copy of the model at any tree of moderate width. -/
namespace Go.Proofs.YtgcefippeokmcaaDoor
open Go.RowKit

/-- A node in new memory whose slice may grow. -/
def MadeH (k : Int) (fr tg : ByteArray) (ix : Int) (f : F) (w : World) (e : Ending) (w' : World) : Prop :=
  ∃ u bs, e = .returned (.agg #[.int .i64 k, .string fr, .string tg, .int .i64 ix, u]) ∧ Gr w' w.heap.size u f bs ∧ Below w.heap.size w w'
theorem MadeH.made {k : Int} {fr tg : ByteArray} {ix : Int} {f : F} {w : World} {e : Ending} {w' : World} (h : MadeH k fr tg ix f w e w') : MadeN k fr tg ix f w e w' := by
  obtain ⟨u, bs, h1, h2, h3⟩ := h
  exact ⟨u, bs, h1, h2.ow, h2.ge, h2.nodup, h3⟩
theorem Gr.mono {w : World} {base base' : Nat} {v : Value} {f : F} {bs : List Nat} (h : Gr w base v f bs) (hb : base' ≤ base) : Gr w base' v f bs := by
  rcases h with h | ⟨g, cap, cur, bs', h0, h1, h2, h3, h4, h5, h6, h7, h8, h9, h10⟩
  · exact Or.inl h
  · exact Or.inr ⟨g, cap, cur, bs', h0, Nat.le_trans hb h1, h2, h3, h4, h5, h6, h7, h8, fun b hm => Nat.le_trans hb (h9 b hm), h10⟩

/-- No row is longer than a thousand. -/
def lnF : F → Prop
  | .nil => True
  | .cons _ _ _ _ _ kids rest => kids.len ≤ 1000 ∧ lnF kids ∧ lnF rest
theorem lnF_app (g : F) : ∀ f : F, lnF (f.app g) ↔ lnF f ∧ lnF g
  | .nil => by simp [F.app, lnF]
  | .cons lab k fr tg ix kids rest => by simp only [F.app, lnF, lnF_app g rest, and_assoc]
theorem len_sz : ∀ f : F, f.len ≤ f.sz
  | .nil => Nat.le_refl _
  | .cons _ _ _ _ _ kids rest => by have := len_sz rest; simp only [F.len, F.sz]; omega
theorem lnF_sz : ∀ f : F, f.sz ≤ 1000 → lnF f
  | .nil, _ => trivial
  | .cons _ _ _ _ _ kids rest, h => by
    simp only [F.sz] at h
    exact ⟨by have := len_sz kids; omega, lnF_sz kids (by omega), lnF_sz rest (by omega)⟩

def SubGt (n : Nat) : Prop := ∀ (w : World) (k ix i : Int) (fr tg : ByteArray) (sv : Value) (kids : F) (U : Nd) (su : Value), kids.sz < n → Sl w sv kids → Sl w su U.kids → Fit ⟨k, fr, tg, ix, kids⟩ → Fit U →
  -1 ≤ i → i + 1 + hF kids ≤ 1000000 → kids.len ≤ 1000 ∧ lnF kids → ((kids = .nil ∧ ¬ (k = 4 ∧ ix = i)) ∨ CopyOk U) →
  Calls Tryd.prog 128 #[.agg #[.int .i64 k, .string fr, .string tg, .int .i64 ix, sv], .agg #[.int .i64 U.k, .string U.fr, .string U.tg, .int .i64 U.ix, su], .int .i64 i] w
    (MadeN (subN U ⟨k, fr, tg, ix, kids⟩ i).k (subN U ⟨k, fr, tg, ix, kids⟩ i).fr (subN U ⟨k, fr, tg, ix, kids⟩ i).tg (subN U ⟨k, fr, tg, ix, kids⟩ i).ix (subN U ⟨k, fr, tg, ix, kids⟩ i).kids w)

set_option maxHeartbeats 2000000 in
set_option maxRecDepth 100000 in
theorem subg_loop (n : Nat) (ih : SubGt n) (w : World) (k ix i : Int) (fr tg : ByteArray) (sv : Value) (kids : F) (U : Nd) (su : Value) (hn : kids.sz < n + 1) (hs : Sl w sv kids) (hsu : Sl w su U.kids) (hfit : Fit ⟨k, fr, tg, ix, kids⟩) (hfu : Fit U)
    (hi1 : -1 ≤ i) (hi2 : i + 1 + hF kids ≤ 1000000) (hw : kids.len ≤ 1000 ∧ lnF kids) (hc : (kids = .nil ∧ ¬ (k = 4 ∧ ix = i)) ∨ CopyOk U) (hne : ¬ (k = 4 ∧ ix = i)) (I : Int) (hI : I = bump k i) :
    Calls Tryd.prog 128 #[.agg #[.int .i64 k, .string fr, .string tg, .int .i64 ix, sv], .agg #[.int .i64 U.k, .string U.fr, .string U.tg, .int .i64 U.ix, su], .int .i64 i] w
    (MadeH k fr tg ix (subF U kids I) w) := by
  have HBI := hide hI
  clear hI
  obtain ⟨hlen, hw1⟩ := hw
  obtain ⟨a, cap, rfl, hl, hat⟩ := hs.at
  have HH := hide (And.intro hn (And.intro hi2 (And.intro hw1 (And.intro hc (And.intro hsu (And.intro hat (And.intro hfit hfu)))))))
  clear hs hn hi2 hw1 hc hsu hat hfit hfu hl
  go_enter Tryd.func128, Tryd.ntmps128
  go_upto_region 1 with fail
  go_cut [2, 17] from 9 to 17 (fun v2 v17 wc => v2 = .int .i64 i ∧ v17 = .bool false ∧ Box5 wc w.heap.size (.int .i64 k) (.string fr) (.string tg) (.int .i64 ix) (.slice a kids.len cap) ∧
    Box5 wc (w.heap.size + 1) (.int .i64 U.k) (.string U.fr) (.string U.tg) (.int .i64 U.ix) su ∧
    Box5 wc (w.heap.size + 2) (.int .i64 0) (.string ⟨#[]⟩) (.string ⟨#[]⟩) (.int .i64 0) (.slice none 0 0) ∧ wc.heap.size = w.heap.size + 3 ∧ Below w.heap.size w wc)
  case first =>
    by_cases h4 : k = 4
    · subst h4
      have hq : (ix == i) = false := beq_eq_false_iff_ne.2 (fun e => hne ⟨rfl, e⟩)
      go_wp2_with fail
      go_meet
      case rel => exact ⟨rfl, rfl, three_new _ _ _ _ _ _ _ _ _ _ _ _ _ _ _ _ _⟩
    · have hq : (k == 4) = false := beq_eq_false_iff_ne.2 h4
      go_wp2_with fail
      go_meet
      case rel => exact ⟨rfl, rfl, three_new _ _ _ _ _ _ _ _ _ _ _ _ _ _ _ _ _⟩
  case rest =>
    obtain ⟨rfl, rfl, hx, hy, hz, hsz, hbw⟩ := hcut
    obtain ⟨x0, x1, x2, x3, x4⟩ := hx.cells
    have hxl := hx.lt
    have HB := hide (And.intro hx (And.intro hy (And.intro hz hbw)))
    clear hx hy hz hbw
    go_upto_region 4 with fail
    go_cut [36] from 30 to 35 (fun v36 wd => ∃ bb : Bool, v36 = .bool bb ∧ Hid (bb = decide (k = 3 ∧ 0 ≤ i)) ∧ wd = wc.alloc (.cells #[.int .i64 k, .string fr, .string tg, .int .i64 ix, .slice none 0 0] ( /- t -/ 39)))
    case first =>
      by_cases h3 : k = 3
      · subst h3
        by_cases h0 : 0 ≤ i
        · have hd : decide ((3 : Int) = 3 ∧ 0 ≤ i) = true := decide_eq_true ⟨rfl, h0⟩
          go_wp2_with fail
          go_meet
          case rel => exact ⟨true, by simp, hide hd.symm, rfl⟩
        · have hd : decide ((3 : Int) = 3 ∧ 0 ≤ i) = false := decide_eq_false (fun h => h0 h.2)
          go_wp2_with fail
          go_meet
          case rel => exact ⟨false, by simp, hide hd.symm, rfl⟩
      · have hq : (k == 3) = false := beq_eq_false_iff_ne.2 h3
        go_wp2_with fail
        go_meet
        case rel => exact ⟨false, by simp, hide (decide_eq_false (fun h => h3 h.1)).symm, rfl⟩
    case rest =>
      obtain ⟨bb, rfl, hbb, rfl⟩ := hcut
      go_upto_if 36 with fail
      go_cut [2] from 37 to 38 (fun v2 wd => v2 = .int .i64 I ∧ wd = wc.alloc (.cells #[.int .i64 k, .string fr, .string tg, .int .i64 ix, .slice none 0 0] ( /- t -/ 39)))
      case first =>
        have hbi : i ≤ 1000000 := by have := HH.out.2.1; omega
        by_cases h3 : k = 3 ∧ 0 ≤ i
        · have hd : bb = true := hbb.out.trans (decide_eq_true h3)
          subst hd
          have e : I = i + 1 := by rw [HBI.out]; unfold bump; rw [if_pos h3]
          have h30 := h3.2
          go_wp2_with fail
          go_meet
          case rel => exact ⟨by rw [e], by rw [h3.1]⟩
        · have hd : bb = false := hbb.out.trans (decide_eq_false h3)
          subst hd
          have e : I = i := by rw [HBI.out]; unfold bump; rw [if_neg h3]
          go_wp2_with fail
          go_meet
          case rel => exact ⟨by rw [e], rfl⟩
      case rest =>
        obtain ⟨rfl, rfl⟩ := hcut
        obtain ⟨hx, hy, hz, hbw⟩ := HB.out
        have hbd := alloc_below wc (.cells #[.int .i64 k, .string fr, .string tg, .int .i64 ix, .slice none 0 0] ( /- t -/ 39))
        have hx := hx.below hbd
        have hy := hy.below hbd
        have hz := hz.below hbd
        have ho := Box5.now wc (.int .i64 k) (.string fr) (.string tg) (.int .i64 ix) (.slice none 0 0) ( /- t -/ 39)
        rw [hsz] at ho
        have hbe := hbw.trans (hbd.mono hbw.size)
        have HST : Hid (SubRel w U k ix fr tg (.slice a kids.len cap) su kids I a (.int .i64 0) (wc.alloc (.cells #[.int .i64 k, .string fr, .string tg, .int .i64 ix, .slice none 0 0] ( /- t -/ 39)))) :=
          hide ⟨.nil, kids, _, [], rfl, rfl, HH.out.2.2.2.2.2.1, hx, hy, hz, ho, Gr.nil _ _, hbe⟩
        clear hx hy hz hbw hbd ho hbe x0 x1 x2 x3 x4 hxl HB
        obtain ⟨i0, hi, hz0, hz1, hz2⟩ := info_parts Tryd.info54
        have HI := hide (And.intro hi (And.intro hz0 (And.intro hz1 hz2)))
        clear hi hz0 hz1 hz2
        go_wp2_with fail
        clear hsz
        go_loopw [8] (fun iv wr => SubRel w U k ix fr tg (.slice a kids.len cap) su kids I a iv wr) (fun iv _ => kids.len - (intOf iv).toNat)
        case atStart => exact HST.out
        case round =>
          obtain ⟨p, g, v, bs, hfe, rfl, hg, hx, hy, hz, ho, hgr, hb⟩ := hrel
          have x4 := hx.cells.2.2.2.2
          have hxl := hx.lt
          cases g with
          | nil =>
            have hge : kids.len ≤ p.len := by rw [hfe, F.app_nil]; exact Nat.le_refl _
            have hple : p.len ≤ kids.len := by rw [hfe, F.app_nil]; exact Nat.le_refl _
            rw [F.app_nil] at hfe
            obtain ⟨va, vc, rfl⟩ := hgr.val
            obtain ⟨o0, o1, o2, o3, o4⟩ := ho.cells
            obtain ⟨z0, z1, z2, z3, z4⟩ := hz.cells
            have fz := hz.frozen
            have hol := ho.lt
            have hzl := hz.lt
            have HG := hide hgr
            have HB := hide hb
            have HE := hide hfe
            clear hgr hb hfe hx hy hz ho hg
            go_wp2_with fail
            refine bodyPost_ret (v := .agg #[.int .i64 k, .string fr, .string tg, .int .i64 ix, .slice va (subF U p I).len vc]) (by simp [results, Tryd.results128, go_sem, *]) rfl ?_
            have hge := HG.out.ge
            rw [HE.out]
            refine ⟨_, bs, rfl, (HG.out.same ?_).mono (by omega), ?_⟩
            · repeat (refine Same.setCell ?_ (fun b h => by have := hge b h; simp; omega) _)
              exact Same.refl _ _
            · repeat (refine Below.setCell ?_ (by first | (simp; done) | (simp; omega)) _)
              exact HB.out
          | cons lab kd fr' tg' ix' kids' rest =>
            have hlt : p.len < kids.len := by rw [hfe, F.len_app]; simp only [F.len]; omega
            obtain ⟨b', o, rfl, l1, l2, l3, l4, l5, c0, c1, c2, c3, c4, ⟨sv', c5, hsv⟩, -⟩ := (hg.still (Still.of_below hb)).head
            obtain ⟨y0, y1, y2, y3, y4⟩ := hy.cells
            obtain ⟨hn, hi2, hw1, hc, hsu, hat, hfit, hfu⟩ := HH.out
            obtain ⟨N, hN⟩ : ∃ N, N = subN U ⟨kd, fr', tg', ix', kids'⟩ I := ⟨_, rfl⟩
            have hbs : -1 ≤ I ∧ I ≤ i + 1 ∧ (i = -1 → I = -1) := by
              rw [HBI.out]
              unfold bump
              split <;> omega
            have hsz2 : kids'.sz < n ∧ 1 + hF kids' ≤ hF kids ∧ (kids'.len ≤ 1000 ∧ lnF kids') := by
              rw [hfe, F.sz_app] at hn
              rw [hfe, hF_app]
              rw [hfe, lnF_app] at hw1
              simp only [F.sz, hF, lnF] at hn hw1 ⊢
              exact ⟨by omega, by omega, hw1.2.1, hw1.2.2.1⟩
            have HCALL : Hid (∀ w', Sl w' sv' kids' → Sl w' su U.kids → Calls Tryd.prog 128 #[.agg #[.int .i64 kd, .string fr', .string tg', .int .i64 ix', sv'], .agg #[.int .i64 U.k, .string U.fr, .string U.tg, .int .i64 U.ix, su], .int .i64 I] w' (MadeN N.k N.fr N.tg N.ix N.kids w')) := hide (fun w' h1 h2 => by
              rw [hN]
              refine ih w' kd ix' I fr' tg' sv' kids' U su hsz2.1 h1 h2 ⟨l2, l3, l4, l5⟩ hfu hbs.1 (by omega) hsz2.2.2 ?_
              rcases hc with hc | hc
              · exact absurd (congrArg F.len (hfe.symm.trans hc.1)) (by rw [F.len_app]; simp [F.len])
              · exact Or.inr hc)
            have HFN : Hid (Fit N) := hide (by rw [hN]; exact subN_fit ⟨l2, l3, l4, l5⟩ hfu)
            have hdr : Still wr wr.drew := fun _ _ h => h
            have HSV := hide (hsv.still hdr)
            have HSU := hide ((hsu.still (Still.of_below hb)).still hdr)
            have hpl : p.len ≤ 1000 := by omega
            have HSL : Hid ((subF U p I).len ≤ 1000) := hide (by rw [subF_len]; exact hpl)
            have HL := hide l1
            have hyl := hy.lt
            have hol := ho.lt
            have hbl := World.block_lt_of_cell? _ _ c0
            have hbw : b' < w.heap.size := by
              obtain ⟨b2, o2, e2, _, _, _, _, _, q0, _⟩ := hg.head
              simp only [Option.some.injEq, Addr.mk.injEq, and_true] at e2
              rw [e2.1]
              exact World.block_lt_of_cell? _ _ q0
            have o4 := ho.cells.2.2.2.2
            have HO := hide ho
            have HGR := hide (hgr.below (w' := wr.drew) (Below.refl _ _).drew)
            have HB := hide hb
            have HE := hide hfe
            have HNN := hide hN
            have HR := hide (And.intro hx (And.intro hy (And.intro hz hg)))
            clear hx hy hz ho hgr hb hfe hN hg hsu hsv l1 l2 l3 l4 l5 hn hi2 hw1 hc hat hfit hfu hsz2 hdr
            go_wp2_with fail
            refine wp_region_T (fun w' => w'.cell? ⟨w.heap.size, 4, none⟩ = some (.slice (some ⟨b', o, none⟩) kids.len cap) ∧ w'.cell? ⟨w.heap.size + 3, 4, none⟩ = some v ∧
                            w'.cell? ⟨b', o + p.len * 6, none⟩ = some (.string lab) ∧ w'.cell? ⟨b', o + p.len * 6 + 1, none⟩ = some (.int .i64 kd) ∧ w'.cell? ⟨b', o + p.len * 6 + 2, none⟩ = some (.string fr') ∧ w'.cell? ⟨b', o + p.len * 6 + 3, none⟩ = some (.string tg') ∧ w'.cell? ⟨b', o + p.len * 6 + 4, none⟩ = some (.int .i64 ix') ∧ w'.cell? ⟨b', o + p.len * 6 + 5, none⟩ = some sv' ∧
                            w'.cell? ⟨w.heap.size + 1, 0, none⟩ = some (.int .i64 U.k) ∧ w'.cell? ⟨w.heap.size + 1, 1, none⟩ = some (.string U.fr) ∧ w'.cell? ⟨w.heap.size + 1, 2, none⟩ = some (.string U.tg) ∧ w'.cell? ⟨w.heap.size + 1, 3, none⟩ = some (.int .i64 U.ix) ∧ w'.cell? ⟨w.heap.size + 1, 4, none⟩ = some su) 21 (by kernel_rfl) ⟨x4, o4, c0, c1, c2, c3, c4, c5, y0, y1, y2, y3, y4⟩ (fun hHeld => ?_)
            refine wpAnyT_take (L := 21) (i := 0) (v := ?v0) rfl (by kernel_rfl) (by kernel_rfl) (by kernel_rfl) (by kernel_rfl) (fun _ _ _ h => h) hHeld (Or.inl ⟨by rfl, ?hy0⟩) ?rest0
            case hy0 => ((intro w' hw'); (try dsimp only at hw'); (go_simp); (try with_reducible rfl))
            (try simp only [Act.put]); (try simp only [List.setIfInBounds_toArray]); (try simp only [List.set_cons_zero]); (try simp only [List.set_cons_succ])
            refine wpAnyT_take (L := 21) (i := 1) (v := ?v1) rfl (by kernel_rfl) (by kernel_rfl) (by kernel_rfl) (by kernel_rfl) (fun _ _ _ h => h) hHeld (Or.inl ⟨by rfl, ?hy1⟩) ?rest1
            case hy1 => ((intro w' hw'); (try dsimp only at hw'); (go_simp); (try with_reducible rfl))
            (try simp only [Act.put]); (try simp only [List.setIfInBounds_toArray]); (try simp only [List.set_cons_zero]); (try simp only [List.set_cons_succ])
            refine wpAnyT_take (L := 21) (i := 2) (v := ?v2) rfl (by kernel_rfl) (by kernel_rfl) (by kernel_rfl) (by kernel_rfl) (fun _ _ _ h => h) hHeld (Or.inl ⟨by rfl, ?hy2⟩) ?rest2
            case hy2 => ((intro w' hw'); (try dsimp only at hw'); (go_simp); (try with_reducible rfl))
            (try simp only [Act.put]); (try simp only [List.setIfInBounds_toArray]); (try simp only [List.set_cons_zero]); (try simp only [List.set_cons_succ])
            refine wpAnyT_take (L := 21) (i := 3) (v := ?v3) rfl (by kernel_rfl) (by kernel_rfl) (by kernel_rfl) (by kernel_rfl) (fun _ _ _ h => h) hHeld (Or.inl ⟨by rfl, ?hy3⟩) ?rest3
            case hy3 => ((intro w' hw'); (try dsimp only at hw'); (go_simp); (try with_reducible rfl))
            (try simp only [Act.put]); (try simp only [List.setIfInBounds_toArray]); (try simp only [List.set_cons_zero]); (try simp only [List.set_cons_succ])
            refine wpAnyT_take (L := 21) (i := 4) (v := ?v4) rfl (by kernel_rfl) (by kernel_rfl) (by kernel_rfl) (by kernel_rfl) (fun _ _ _ h => h) hHeld (Or.inl ⟨by rfl, ?hy4⟩) ?rest4
            case hy4 => ((intro w' hw'); (try dsimp only at hw'); (go_simp); (try with_reducible rfl))
            (try simp only [Act.put]); (try simp only [List.setIfInBounds_toArray]); (try simp only [List.set_cons_zero]); (try simp only [List.set_cons_succ])
            refine wpAnyT_take (L := 21) (i := 5) (v := ?v5) rfl (by kernel_rfl) (by kernel_rfl) (by kernel_rfl) (by kernel_rfl) (fun _ _ _ h => h) hHeld (Or.inl ⟨by rfl, ?hy5⟩) ?rest5
            case hy5 => ((intro w' hw'); (try dsimp only at hw'); (go_simp); (try with_reducible rfl))
            (try simp only [Act.put]); (try simp only [List.setIfInBounds_toArray]); (try simp only [List.set_cons_zero]); (try simp only [List.set_cons_succ])
            refine wpAnyT_take (L := 21) (i := 6) (v := ?v6) rfl (by kernel_rfl) (by kernel_rfl) (by kernel_rfl) (by kernel_rfl) (fun _ _ _ h => h) hHeld (Or.inl ⟨by rfl, ?hy6⟩) ?rest6
            case hy6 => ((intro w' hw'); (try dsimp only at hw'); (go_simp); (try with_reducible rfl))
            (try simp only [Act.put]); (try simp only [List.setIfInBounds_toArray]); (try simp only [List.set_cons_zero]); (try simp only [List.set_cons_succ])
            refine wpAnyT_take (L := 21) (i := 7) (v := ?v7) rfl (by kernel_rfl) (by kernel_rfl) (by kernel_rfl) (by kernel_rfl) (fun _ _ _ h => h) hHeld (Or.inl ⟨by rfl, ?hy7⟩) ?rest7
            case hy7 => ((intro w' hw'); (try dsimp only at hw'); (go_simp); (try with_reducible rfl))
            (try simp only [Act.put]); (try simp only [List.setIfInBounds_toArray]); (try simp only [List.set_cons_zero]); (try simp only [List.set_cons_succ])
            refine wpAnyT_take (L := 21) (i := 8) (v := ?v8) rfl (by kernel_rfl) (by kernel_rfl) (by kernel_rfl) (by kernel_rfl) (fun _ _ _ h => h) hHeld (Or.inl ⟨by rfl, ?hy8⟩) ?rest8
            case hy8 => ((intro w' hw'); (try dsimp only at hw'); (go_simp); (try with_reducible rfl))
            (try simp only [Act.put]); (try simp only [List.setIfInBounds_toArray]); (try simp only [List.set_cons_zero]); (try simp only [List.set_cons_succ])
            refine wpAnyT_take (L := 21) (i := 9) (v := ?v9) rfl (by kernel_rfl) (by kernel_rfl) (by kernel_rfl) (by kernel_rfl) (fun _ _ _ h => h) hHeld (Or.inl ⟨by rfl, ?hy9⟩) ?rest9
            case hy9 => ((intro w' hw'); (try dsimp only at hw'); (go_simp); (try with_reducible rfl))
            (try simp only [Act.put]); (try simp only [List.setIfInBounds_toArray]); (try simp only [List.set_cons_zero]); (try simp only [List.set_cons_succ])
            refine wpAnyT_take (L := 21) (i := 10) (v := ?v10) rfl (by kernel_rfl) (by kernel_rfl) (by kernel_rfl) (by kernel_rfl) (fun _ _ _ h => h) hHeld (Or.inl ⟨by rfl, ?hy10⟩) ?rest10
            case hy10 => ((intro w' hw'); (try dsimp only at hw'); (go_simp); (try with_reducible rfl))
            (try simp only [Act.put]); (try simp only [List.setIfInBounds_toArray]); (try simp only [List.set_cons_zero]); (try simp only [List.set_cons_succ])
            refine wpAnyT_take (L := 21) (i := 11) (v := ?v11) rfl (by kernel_rfl) (by kernel_rfl) (by kernel_rfl) (by kernel_rfl) (fun _ _ _ h => h) hHeld (Or.inl ⟨by rfl, ?hy11⟩) ?rest11
            case hy11 => ((intro w' hw'); (try dsimp only at hw'); (go_simp); (try with_reducible rfl))
            (try simp only [Act.put]); (try simp only [List.setIfInBounds_toArray]); (try simp only [List.set_cons_zero]); (try simp only [List.set_cons_succ])
            refine wpAnyT_take (L := 21) (i := 12) (v := ?v12) rfl (by kernel_rfl) (by kernel_rfl) (by kernel_rfl) (by kernel_rfl) (fun _ _ _ h => h) hHeld (Or.inl ⟨by rfl, ?hy12⟩) ?rest12
            case hy12 => ((intro w' hw'); (try dsimp only at hw'); (go_simp); (try with_reducible rfl))
            (try simp only [Act.put]); (try simp only [List.setIfInBounds_toArray]); (try simp only [List.set_cons_zero]); (try simp only [List.set_cons_succ])
            refine wpAnyT_take (L := 21) (i := 13) (v := ?v13) rfl (by kernel_rfl) (by kernel_rfl) (by kernel_rfl) (by kernel_rfl) (fun _ _ _ h => h) hHeld (Or.inl ⟨by rfl, ?hy13⟩) ?rest13
            case hy13 => ((intro w' hw'); (try dsimp only at hw'); (go_simp); (try with_reducible rfl))
            (try simp only [Act.put]); (try simp only [List.setIfInBounds_toArray]); (try simp only [List.set_cons_zero]); (try simp only [List.set_cons_succ])
            refine wpAnyT_take (L := 21) (i := 14) (v := ?v14) rfl (by kernel_rfl) (by kernel_rfl) (by kernel_rfl) (by kernel_rfl) (fun _ _ _ h => h) hHeld (Or.inl ⟨by rfl, ?hy14⟩) ?rest14
            case hy14 => ((intro w' hw'); (try dsimp only at hw'); (go_simp); (try with_reducible rfl))
            (try simp only [Act.put]); (try simp only [List.setIfInBounds_toArray]); (try simp only [List.set_cons_zero]); (try simp only [List.set_cons_succ])
            refine wpAnyT_take (L := 21) (i := 15) (v := ?v15) rfl (by kernel_rfl) (by kernel_rfl) (by kernel_rfl) (by kernel_rfl) (fun _ _ _ h => h) hHeld (Or.inl ⟨by rfl, ?hy15⟩) ?rest15
            case hy15 => ((intro w' hw'); (try dsimp only at hw'); (go_simp); (try with_reducible rfl))
            (try simp only [Act.put]); (try simp only [List.setIfInBounds_toArray]); (try simp only [List.set_cons_zero]); (try simp only [List.set_cons_succ])
            refine wpAnyT_one (L := 21) (i := 16) (by kernel_rfl) rfl (fun K hK => ?_)
            go_simp
            go_at_call 128
            (with_reducible refine (HCALL.out _ ?_ ?_).mono ?_)
            · exact HSV.out
            · exact HSU.out
            rintro e w5 ⟨u, ks, rfl, how, hks, hknd, hb5⟩
            obtain ⟨ua, uc, rfl⟩ := how.val
            have hst := Still.of_below hb5
            have HD5 := hide (And.intro (hst _ _ x4) (And.intro (hst _ _ o4) (And.intro (hst _ _ c0) (And.intro (hst _ _ c1) (And.intro (hst _ _ c2) (And.intro (hst _ _ c3) (And.intro (hst _ _ c4) (And.intro (hst _ _ c5) (And.intro (hst _ _ y0) (And.intro (hst _ _ y1) (And.intro (hst _ _ y2) (And.intro (hst _ _ y3) (hst _ _ y4)))))))))))))
            refine hK.out _ _ (fun _ => HD5.out) ?_
            clear hK K
            refine wpAnyT_take (L := 21) (i := 17) (v := ?v17) rfl (by kernel_rfl) (by kernel_rfl) (by kernel_rfl) (by kernel_rfl) (fun _ _ _ h => h) HD5.out (Or.inl ⟨by rfl, ?hy17⟩) ?rest17
            case hy17 => ((intro w' hw'); (try dsimp only at hw'); (go_simp); (try with_reducible rfl))
            (try simp only [Act.put]); (try simp only [List.setIfInBounds_toArray]); (try simp only [List.set_cons_zero]); (try simp only [List.set_cons_succ])
            refine wpAnyT_one (L := 21) (i := 18) (by kernel_rfl) rfl (fun K hK => ?_)
            go_simp
            have hst2 := Still.of_below (alloc_below w5 (.cells #[.string lab, .int .i64 N.k, .string N.fr, .string N.tg, .int .i64 N.ix, .slice ua N.kids.len uc] ( /- t -/ 54)))
            obtain ⟨s0, s1, s2, s3, s4, s5, s6, s7, s8, s9, s10, s11, s12⟩ := HD5.out
            have HD6 := hide (And.intro (hst2 _ _ s0) (And.intro (hst2 _ _ s1) (And.intro (hst2 _ _ s2) (And.intro (hst2 _ _ s3) (And.intro (hst2 _ _ s4) (And.intro (hst2 _ _ s5) (And.intro (hst2 _ _ s6) (And.intro (hst2 _ _ s7) (And.intro (hst2 _ _ s8) (And.intro (hst2 _ _ s9) (And.intro (hst2 _ _ s10) (And.intro (hst2 _ _ s11) (hst2 _ _ s12)))))))))))))
            refine hK.out _ _ (fun _ => HD6.out) ?_
            clear hK K
            (try simp only [Act.put]); (try simp only [List.setIfInBounds_toArray]); (try simp only [List.set_cons_zero]); (try simp only [List.set_cons_succ])
            refine wpAnyT_one (L := 21) (i := 19) (by kernel_rfl) rfl (fun K hK => ?_)
            have hgr5 := (HGR.out.below hb5).below (alloc_below w5 (.cells #[.string lab, .int .i64 N.k, .string N.fr, .string N.tg, .int .i64 N.ix, .slice ua N.kids.len uc] ( /- t -/ 54)))
            refine step_append_lies _ (by rfl) _ _ _ (by rfl) (w.heap.size + 4) ( /- t -/ 54) i0 _ 6 88 Tryd.underlying37 HI.out.1 HI.out.2.1 HI.out.2.2.1 HI.out.2.2.2 rfl (by omega) v (subF U p I).len (grXs (w5.alloc (.cells #[.string lab, .int .i64 N.k, .string N.fr, .string N.tg, .int .i64 N.ix, .slice ua N.kids.len uc] ( /- t -/ 54))) v (subF U p I)) (by rfl) hgr5.owns
              ⟨w5.heap.size, 0, none⟩ 1 1 [.string lab, .int .i64 N.k, .string N.fr, .string N.tg, .int .i64 N.ix, .slice ua N.kids.len uc] (by rfl) (by rfl) (World.news_of_block (cs := #[.string lab, .int .i64 N.k, .string N.fr, .string N.tg, .int .i64 N.ix, .slice ua N.kids.len uc]) (t := ( /- t -/ 54)) (fr := (0, 0)) (heap_alloc_new w5 _)) (by simp [Value.oneCell'])
              (by omega) (by have := HSL.out; unfold maxLen; omega) (by have := HSL.out; omega) (by have := hb5.size; simp at this ⊢; omega) _ rfl ?_
            intro gg cp w6 hown6 hgrow6 hat6 hlt6
            have hfar : ∀ (b o : Nat) (x : Value), b < w.heap.size + 4 → (w5.alloc (.cells #[.string lab, .int .i64 N.k, .string N.fr, .string N.tg, .int .i64 N.ix, .slice ua N.kids.len uc] ( /- t -/ 54))).cell? ⟨b, o, none⟩ = some x → w6.cell? ⟨b, o, none⟩ = some x := fun b o x hb he => by
              rw [hgrow6.cell_far ⟨b, o, none⟩ (World.block_lt_of_cell? _ _ he) (fun e => by have := hgr5.ge b (hgr5.block b e.symm); omega)]
              exact he
            obtain ⟨s0, s1, s2, s3, s4, s5, s6, s7, s8, s9, s10, s11, s12⟩ := HD6.out
            have HD7 := hide (And.intro (hfar _ _ _ (by omega) s0) (And.intro (hfar _ _ _ (by omega) s1) (And.intro (hfar _ _ _ (by omega) s2) (And.intro (hfar _ _ _ (by omega) s3) (And.intro (hfar _ _ _ (by omega) s4) (And.intro (hfar _ _ _ (by omega) s5) (And.intro (hfar _ _ _ (by omega) s6) (And.intro (hfar _ _ _ (by omega) s7) (And.intro (hfar _ _ _ (by omega) s8) (And.intro (hfar _ _ _ (by omega) s9) (And.intro (hfar _ _ _ (by omega) s10) (And.intro (hfar _ _ _ (by omega) s11) (hfar _ _ _ (by omega) s12)))))))))))))
            refine hK.out _ _ (fun _ => HD7.out) ?_
            clear hK K
            (try simp only [Act.put]); (try simp only [List.setIfInBounds_toArray]); (try simp only [List.set_cons_zero]); (try simp only [List.set_cons_succ])
            refine wpAnyT_take (L := 21) (i := 20) (v := ?v20) rfl (by kernel_rfl) (by kernel_rfl) (by kernel_rfl) (by kernel_rfl) (fun _ _ _ h => h) HD7.out (Or.inl ⟨by rfl, ?hy20⟩) ?rest20
            case hy20 => ((intro w' hw'); (try dsimp only at hw'); (go_simp); (try with_reducible rfl))
            (try simp only [Act.put]); (try simp only [List.setIfInBounds_toArray]); (try simp only [List.set_cons_zero]); (try simp only [List.set_cons_succ])
            have ho6 : Box5 w6 (w.heap.size + 3) (.int .i64 k) (.string fr) (.string tg) (.int .i64 ix) v := (((HO.out.same (w' := wr.drew) rfl).below hb5).below (alloc_below w5 (.cells #[.string lab, .int .i64 N.k, .string N.fr, .string N.tg, .int .i64 N.ix, .slice ua N.kids.len uc] ( /- t -/ 54)))).same (hgrow6.block _ (by have := hb5.size; simp at this ⊢; omega) (fun e => by have := hgr5.ge _ (hgr5.block _ e.symm); omega))
            have o4 := ho6.cells.2.2.2.2
            have fo := ho6.frozen
            refine wpAnyT_one (L := 21) (i := 21) (by kernel_rfl) rfl (fun K hK => ?_)
            go_simp
            refine hK.out _ _ (fun h => absurd rfl h) ?_
            refine wpAnyT_done (by kernel_rfl) ?_ _
            clear hK K
            have hD : Below w.heap.size w w6 := by
              have h1 := HB.out.drew
              have h2 := h1.trans (hb5.mono h1.size)
              have h3 := h2.alloc h2.size (.cells #[.string lab, .int .i64 N.k, .string N.fr, .string N.tg, .int .i64 N.ix, .slice ua N.kids.len uc] ( /- t -/ 54))
              exact ⟨hgrow6.os.trans h3.os, hgrow6.tape.trans h3.tape, hgrow6.output.trans h3.output, Nat.le_trans h3.size hgrow6.size, fun b hb => (hgrow6.block b (Nat.lt_of_lt_of_le hb h3.size) (fun e => by have := hgr5.ge b (hgr5.block b e.symm); omega)).trans (h3.block b hb)⟩
            have hou := how.same (Same.of_below (alloc_below w5 (.cells #[.string lab, .int .i64 N.k, .string N.fr, .string N.tg, .int .i64 N.ix, .slice ua N.kids.len uc] ( /- t -/ 54))) how.lt)
            obtain ⟨q1, q2, q3, q4⟩ := HFN.out
            have hwr : w.heap.size + 4 ≤ wr.heap.size := by have := hol; omega
            obtain ⟨bs', hpush, -⟩ := Gr.push hgr5 (k := N.k) (ix := N.ix) hou (fun b hb => by have := hks b hb; simp at this; omega) hknd
              (fun b hb hb2 => by have h1 := HGR.out.lt b hb; have h2 := hks b hb2; omega) HL.out q1 q2 q3 q4 hown6 hgrow6 (by rcases hat6 with h | h; exact Or.inl h; exact Or.inr h)
            obtain ⟨hx, hy, hz, hg⟩ := HR.out
            have far : ∀ b, b < w.heap.size + 3 → (w6.setCell ⟨w.heap.size + 3, 4, none⟩ (.slice (some ⟨gg, 0, none⟩) ((subF U p I).len + 1) cp)).heap[b]? = wr.heap[b]? := fun b hb => by
              have h5 := hb5.size
              simp at h5
              rw [Below.heap_setCell _ _ _ _ (by simp; omega), hgrow6.block b (by simp; omega) (fun e => by have := hgr5.ge b (hgr5.block b e.symm); omega), Below.heap_alloc _ _ _ (by omega), hb5.block b (by simp; omega)]
              rfl
            have hEQ : (subF U p I).app (.cons lab N.k N.fr N.tg N.ix N.kids .nil) = subF U (p.app (.cons lab kd fr' tg' ix' kids' .nil)) I := by
              rw [subF_app, subF_cons, HNN.out]
              rfl
            rw [hEQ] at hpush
            have HREL : Hid (SubRel w U k ix fr tg (.slice (some ⟨b', o, none⟩) kids.len cap) su kids I (some ⟨b', o, none⟩) (.int .i64 ((p.len + 1 : Nat) : Int)) (w6.setCell ⟨w.heap.size + 3, 4, none⟩ (.slice (some ⟨gg, 0, none⟩) ((subF U p I).len + 1) cp))) := hide
              ⟨p.app (.cons lab kd fr' tg' ix' kids' .nil), rest, _, bs', by rw [HE.out, F.app_assoc]; rfl, by rw [F.len_app]; rfl, by rw [F.len_app]; exact hg.tail, hx.same (far _ (by omega)), hy.same (far _ (by omega)), hz.same (far _ (by omega)), ho6.set4 _,
                hpush.same (fun b hb => Below.heap_setCell _ _ _ _ (by have := hpush.ge b hb; simp; omega)), hD.setCell (by simp) _⟩
            clear hpush hx hy hz hg far hEQ hou hD hown6 hgrow6 hat6 hgr5 how hks hknd
            go_wp2_with fail
            go_roundw
            case rel => exact HREL.out
            case measure => simp [intOf]; omega

theorem subg_all : ∀ n, SubGt n := by
  intro n
  induction n with
  | zero => intro w k ix i fr tg sv kids U su hn; omega
  | succ n ih =>
    intro w k ix i fr tg sv kids U su hn hs hsu hfit hfu hi1 hi2 hw hc
    by_cases hv : k = 4 ∧ ix = i
    · obtain ⟨rfl, rfl⟩ := hv
      refine sub_var w ix fr tg sv kids U su hsu ?_
      rcases hc with hc | hc
      · exact absurd ⟨rfl, rfl⟩ hc.2
      · exact hc
    · have e : subN U ⟨k, fr, tg, ix, kids⟩ i = ⟨k, fr, tg, ix, subF U kids (bump k i)⟩ := by unfold subN; rw [if_neg hv]
      rw [e]
      exact (subg_loop n ih w k ix i fr tg sv kids U su hn hs hsu hfit hfu hi1 hi2 hw hc hv _ rfl).mono (fun _ _ h => h.made)

theorem zero_ok : CopyOk ⟨0, ⟨#[]⟩, ⟨#[]⟩, 0, .nil⟩ := by
  intro w su hs
  have := subg_all 1 w 0 0 (-1) ⟨#[]⟩ ⟨#[]⟩ su .nil ⟨0, ⟨#[]⟩, ⟨#[]⟩, 0, .nil⟩ (.slice none 0 0) (by simp [F.sz]) hs Sl.nil ⟨by decide, by decide, by decide, by decide⟩ ⟨by decide, by decide, by decide, by decide⟩ (by omega) (by simp [hF]) ⟨by simp [F.len], trivial⟩ (Or.inl ⟨rfl, by omega⟩)
  exact this

/-- What a copy is of any tree: a variable with the index -1 is replaced by the zero value. -/
def cpz (U : Nd) : Nd := subN ⟨0, ⟨#[]⟩, ⟨#[]⟩, 0, .nil⟩ U (-1)
theorem zero_okH (w : World) (su : Value) (hs : Sl w su .nil) :
    Calls Tryd.prog 128 #[.agg #[.int .i64 0, .string ⟨#[]⟩, .string ⟨#[]⟩, .int .i64 0, su], .agg #[.int .i64 0, .string ⟨#[]⟩, .string ⟨#[]⟩, .int .i64 0, .slice none 0 0], .int .i64 (-1)] w (MadeH 0 ⟨#[]⟩ ⟨#[]⟩ 0 .nil w) :=
  subg_loop 0 (subg_all 0) w 0 0 (-1) ⟨#[]⟩ ⟨#[]⟩ su .nil ⟨0, ⟨#[]⟩, ⟨#[]⟩, 0, .nil⟩ (.slice none 0 0) (by simp [F.sz]) hs Sl.nil ⟨by decide, by decide, by decide, by decide⟩ ⟨by decide, by decide, by decide, by decide⟩ (by omega) (by simp [hF]) ⟨by simp [F.len], trivial⟩ (Or.inl ⟨rfl, by omega⟩) (by omega) _ rfl
set_option maxHeartbeats 1000000 in
set_option maxRecDepth 100000 in
theorem subv_H (w : World) (fr tg : ByteArray) (sv : Value) :
    Calls Tryd.prog 128 #[.agg #[.int .i64 4, .string fr, .string tg, .int .i64 (-1), sv], .agg #[.int .i64 0, .string ⟨#[]⟩, .string ⟨#[]⟩, .int .i64 0, .slice none 0 0], .int .i64 (-1)] w
    (MadeH 0 ⟨#[]⟩ ⟨#[]⟩ 0 .nil w) := by
  go_enter Tryd.func128, Tryd.ntmps128
  go_wp2_with fail
  refine (zero_okH _ _ Sl.nil).mono ?_
  rintro e w1 ⟨u, bs, rfl, how, hb⟩
  obtain ⟨ua, uc, rfl⟩ := how.val
  have HO := hide how
  have HG := hide how.ge
  clear how
  obtain ⟨hc, hf⟩ := bcell hb
  have hz := hb.size
  simp at hz
  go_wp2_with fail
  refine bodyPost_ret (v := .agg #[.int .i64 0, .string ⟨#[]⟩, .string ⟨#[]⟩, .int .i64 0, .slice ua F.nil.len uc]) (by simp [results, Tryd.results128, go_sem, hc]) rfl ?_
  have hB : Below w.heap.size w w1 := ((((alloc_below w _).alloc (by simp) _).alloc (by simp; omega) _).trans (hb.mono (by simp; omega)))
  have q : ∀ b, b ∈ bs → w.heap.size + 3 ≤ b := fun b h => by have := HG.out b h; simp at this; omega
  refine ⟨_, bs, rfl, (HO.out.same ?_).mono (by simp; omega), ?_⟩
  · repeat (refine Same.setCell ?_ (fun b h => by have := q b h; simp; omega) _)
    exact Same.refl _ _
  · repeat (refine Below.setCell ?_ (by first | (simp; done) | (simp; omega)) _)
    exact hB
theorem copyg_sub (w : World) (U : Nd) (su : Value) (hs : Sl w su U.kids) (hf : Fit U) (hh : hF U.kids ≤ 900000) (hl : U.kids.len ≤ 1000 ∧ lnF U.kids) :
    Calls Tryd.prog 128 #[.agg #[.int .i64 U.k, .string U.fr, .string U.tg, .int .i64 U.ix, su], .agg #[.int .i64 0, .string ⟨#[]⟩, .string ⟨#[]⟩, .int .i64 0, .slice none 0 0], .int .i64 (-1)] w (MadeH (cpz U).k (cpz U).fr (cpz U).tg (cpz U).ix (cpz U).kids w) := by
  by_cases hv : U.k = 4 ∧ U.ix = -1
  · have h := subv_H w U.fr U.tg su
    have e : cpz U = ⟨0, ⟨#[]⟩, ⟨#[]⟩, 0, .nil⟩ := by unfold cpz subN; rw [if_pos hv]
    rw [e, hv.1, hv.2]
    exact h
  · have e : cpz U = ⟨U.k, U.fr, U.tg, U.ix, subF ⟨0, ⟨#[]⟩, ⟨#[]⟩, 0, .nil⟩ U.kids (bump U.k (-1))⟩ := by unfold cpz subN; rw [if_neg hv]
    rw [e]
    exact subg_loop U.kids.sz (subg_all _) w U.k U.ix (-1) U.fr U.tg su U.kids ⟨0, ⟨#[]⟩, ⟨#[]⟩, 0, .nil⟩ (.slice none 0 0) (Nat.lt_succ_self _) hs Sl.nil hf ⟨by decide, by decide, by decide, by decide⟩ (by omega) (by omega) hl (Or.inr zero_ok) hv _ rfl

set_option maxHeartbeats 1000000 in
set_option maxRecDepth 100000 in
theorem copyg_calls (w : World) (U : Nd) (su : Value) (hsu : Sl w su U.kids) (hf : Fit U) (hh : hF U.kids ≤ 900000) (hl : U.kids.len ≤ 1000 ∧ lnF U.kids) :
    Calls Tryd.prog 129 #[.agg #[.int .i64 U.k, .string U.fr, .string U.tg, .int .i64 U.ix, su]] w (MadeH (cpz U).k (cpz U).fr (cpz U).tg (cpz U).ix (cpz U).kids w) := by
  have HC := hide (fun (w' : World) (su : Value) (hs : Sl w' su U.kids) => copyg_sub w' U su hs hf hh hl)
  have HS := hide hsu
  clear hf hh hl hsu
  go_enter Tryd.func129, Tryd.ntmps129
  go_wp2_with fail
  refine (HC.out _ su (HS.out.still (Still.of_below ?_))).mono ?_
  · exact (alloc_below _ _).alloc (by simp) _
  rintro e w1 ⟨u, bs, rfl, how, hb⟩
  obtain ⟨ua, uc, rfl⟩ := how.val
  have HO := hide how
  have HG := hide how.ge
  clear how
  obtain ⟨hc, hf⟩ := bcell hb
  have hz := hb.size
  simp at hz
  go_wp2_with fail
  refine bodyPost_ret (v := .agg #[.int .i64 (cpz U).k, .string (cpz U).fr, .string (cpz U).tg, .int .i64 (cpz U).ix, .slice ua (cpz U).kids.len uc]) (by simp [results, Tryd.results129, go_sem, hc]) rfl ?_
  have hB : Below w.heap.size w w1 := (((alloc_below w _).alloc (by simp) _).trans (hb.mono (by simp; omega)))
  have q : ∀ b, b ∈ bs → w.heap.size + 2 ≤ b := fun b h => by have := HG.out b h; simp at this; omega
  refine ⟨_, bs, rfl, (HO.out.same ?_).mono (by simp; omega), ?_⟩
  · repeat (refine Same.setCell ?_ (fun b h => by have := q b h; simp; omega) _)
    exact Same.refl _ _
  · repeat (refine Below.setCell ?_ (by first | (simp; done) | (simp; omega)) _)
    exact hB
end Go.Proofs.YtgcefippeokmcaaDoor

/- l1Format of the model. -/
namespace Go.Proofs.YtgcefippeokmcaaDoor
open Go.RowKit

def FmtAt (n : Nat) : Prop := ∀ (w : World) (k ix b u d : Int) (fr tq : ByteArray) (sv : Value) (kids : F), kids.sz < n → kids.sz ≤ 400 → Sl w sv kids → 0 ≤ b → 0 ≤ u → b + d ≤ 40 → vldN k fr tq ix kids b u d = true →
  Calls Tryd.prog 98 #[.agg #[.int .i64 k, .string fr, .string tq, .int .i64 ix, sv]] w fun e w' => e = .returned (.string (txN k fr tq ix kids)) ∧ Below w.heap.size w w'

set_option maxHeartbeats 400000 in
set_option maxRecDepth 100000 in
theorem fmt_end (w : World) (ix : Int) (fr tq : ByteArray) (sv : Value) (kids : F) (hs : Sl w sv kids) :
    Calls Tryd.prog 98 #[.agg #[.int .i64 1, .string fr, .string tq, .int .i64 ix, sv]] w fun e w' => e = .returned (.string (txN 1 fr tq ix kids)) ∧ Below w.heap.size w w' := by
  obtain ⟨a, cap, rfl, -, -⟩ := hs.at
  clear hs
  go_enter Tryd.func98, Tryd.ntmps98
  go_wp2_with fail
  go_ret
  exact ⟨rfl, alloc_below _ _⟩

set_option maxHeartbeats 400000 in
set_option maxRecDepth 100000 in
theorem fmt_var (w : World) (ix : Int) (fr tq : ByteArray) (sv : Value) (kids : F) (hs : Sl w sv kids) (h0 : 0 ≤ ix) (h1 : ix < 40) :
    Calls Tryd.prog 98 #[.agg #[.int .i64 4, .string fr, .string tq, .int .i64 ix, sv]] w fun e w' => e = .returned (.string (txN 4 fr tq ix kids)) ∧ Below w.heap.size w w' := by
  obtain ⟨a, cap, rfl, -, -⟩ := hs.at
  obtain ⟨i, rfl⟩ := Int.eq_ofNat_of_zero_le h0
  have h2 : (bdec i).size ≤ 2 := by
    have := decDigits_small (i := i) (by omega)
    simpa [bdec, ByteArray.size] using this
  clear hs
  go_enter Tryd.func98, Tryd.ntmps98
  go_wp2_with fail
  refine (dec_calls i (by omega) _).mono ?_
  rintro e w1 ⟨rfl, hb⟩
  change (bdec i).size ≤ 2 at h2
  have e1 : (⟨(Lib.decDigits i).toArray⟩ : ByteArray) = bdec i := rfl
  rw [e1]
  go_wp2_with fail
  go_ret
  exact ⟨rfl, (alloc_below _ _).trans (hb.mono (by simp))⟩

set_option maxHeartbeats 800000 in
set_option maxRecDepth 100000 in
theorem fmt_rec (n : Nat) (ih : FmtAt n) (w : World) (ix b u d : Int) (fr tq : ByteArray) (sv : Value) (kids : F) (hn : kids.sz < n + 1) (hbig : kids.sz ≤ 400) (hs : Sl w sv kids) (hb : 0 ≤ b) (hu : 0 ≤ u) (hbd : b + d ≤ 40)
    (hsh : shapeB 3 fr tq ix kids = true) (hv : vldF kids (b + 1) (u + 1) (d - 1) = true) :
    Calls Tryd.prog 98 #[.agg #[.int .i64 3, .string fr, .string tq, .int .i64 ix, sv]] w fun e w' => e = .returned (.string (txN 3 fr tq ix kids)) ∧ Below w.heap.size w w' := by
  obtain ⟨e1, e2, rfl, lab, k', fr', tq', ix', kids', rfl, e3⟩ := shape_rec hsh
  have hvn : vldN k' fr' tq' ix' kids' (b + 1) (u + 1) (d - 1) = true := by
    simp only [vldF, Bool.and_true] at hv
    exact hv
  have hsz := txN_size (by omega) (by omega) (by omega) hvn
  have hsz2 : (txN k' fr' tq' ix' kids').size ≤ 3000 := by simp only [F.sz] at hbig; omega
  obtain ⟨a, cap, rfl, -, hat⟩ := hs.at
  obtain ⟨b', o', rfl, -, -, -, -, -, d0, d1, d2, d3, d4, ⟨sv', d5, hsv⟩, -⟩ := hat.head
  have hbw := World.block_lt_of_cell? _ _ d0
  simp only [Nat.zero_mul, Nat.add_zero] at d0 d1 d2 d3 d4 d5
  have HSV := hide hsv
  have HV := hide hvn
  have HN := hide hn
  have HB := hide hbig
  clear hs hsh hat hn hbig e1 e2 e3 hsv hv hvn hsz
  change Calls Tryd.prog 98 #[.agg #[.int .i64 3, .string fr, .string tq, .int .i64 0, .slice (some ⟨b', o', none⟩) 1 cap]] w _
  go_enter Tryd.func98, Tryd.ntmps98
  go_wp2_with fail
  refine (ih _ k' ix' (b + 1) (u + 1) (d - 1) fr' tq' _ kids' (by have := HN.out; simp only [F.sz] at this; omega) (by have := HB.out; simp only [F.sz] at this; omega) (HSV.out.still (Still.of_below (alloc_below _ _))) (by omega) (by omega) (by omega) HV.out).mono ?_
  rintro e w1 ⟨rfl, hb⟩
  go_wp2_with fail
  go_ret
  exact ⟨rfl, (alloc_below _ _).trans (hb.mono (by simp))⟩
end Go.Proofs.YtgcefippeokmcaaDoor
