/- countGlobal of the program. -/
import Derived.Test.YtfppglfajbmapaaDoorNo
import Derived.RegionTactic
namespace Go.Proofs.YtfppglfajbmapaaDoor
open Go.RowKit

/-- What countGlobal owes: it is valid and the nodes are within the limit, or not; where they are, they are counted. -/
def CgPost (c : Nat) (w : World) (m : Nat) (size : Nat) (v : Bool) (e : Ending) (w' : World) : Prop :=
  ∃ m' : Nat, e = .returned (.bool (v && decide (m + size ≤ 400))) ∧ Only c w w' ∧ Ctr w' c m' ∧ ((v && decide (m + size ≤ 400)) = true → m' = m + size)

def CgAt (n : Nat) : Prop := ∀ (w : World) (k ix depth recs ung : Int) (fr to : ByteArray) (sv : Value) (kids : F) (c m : Nat), kids.sz < n → Sl w sv kids → Ctr w c m → m ≤ 400 →
  1 ≤ depth → depth ≤ 41 → 0 ≤ recs → recs + 1 ≤ depth → 0 ≤ ung → ung + 1 ≤ depth →
  Calls Tryd.prog 144 #[.agg #[.int .i64 k, .string fr, .string to, .int .i64 ix, sv], .agg #[.int .i64 depth, .int .i64 recs, .int .i64 ung], .pointer (some ⟨c, 0, none⟩)] w
    (CgPost c w m (kids.sz + 1) (vldN k fr to ix kids recs ung (41 - depth)))

/-! ### The type switch -/
theorem ta_nilEnd (w : World) : (Instr.typeAssert .nilIface ( /- t -/ 147) ( /- t -/ 150) true).run Tryd.prog w = .ok (.tuple #[.agg #[], .bool false]) w := by kernel_rfl
theorem taEndEnd (v : Value) (w : World) : (Instr.typeAssert (.iface ( /- t -/ 150) v) ( /- t -/ 147) ( /- t -/ 150) true).run Tryd.prog w = .ok (.tuple #[v, .bool true]) w := by kernel_rfl
theorem taMsgEnd (v : Value) (w : World) : (Instr.typeAssert (.iface ( /- t -/ 155) v) ( /- t -/ 147) ( /- t -/ 150) true).run Tryd.prog w = .ok (.tuple #[.agg #[], .bool false]) w := by kernel_rfl
theorem taRecEnd (v : Value) (w : World) : (Instr.typeAssert (.iface ( /- t -/ 159) v) ( /- t -/ 147) ( /- t -/ 150) true).run Tryd.prog w = .ok (.tuple #[.agg #[], .bool false]) w := by kernel_rfl
theorem taVarEnd (v : Value) (w : World) : (Instr.typeAssert (.iface ( /- t -/ 161) v) ( /- t -/ 147) ( /- t -/ 150) true).run Tryd.prog w = .ok (.tuple #[.agg #[], .bool false]) w := by kernel_rfl
theorem ta_nilMsg (w : World) : (Instr.typeAssert .nilIface ( /- t -/ 147) ( /- t -/ 155) true).run Tryd.prog w = .ok (.tuple #[.agg #[.string ⟨#[]⟩, .string ⟨#[]⟩, .slice none 0 0], .bool false]) w := by kernel_rfl
theorem taEndMsg (v : Value) (w : World) : (Instr.typeAssert (.iface ( /- t -/ 150) v) ( /- t -/ 147) ( /- t -/ 155) true).run Tryd.prog w = .ok (.tuple #[.agg #[.string ⟨#[]⟩, .string ⟨#[]⟩, .slice none 0 0], .bool false]) w := by kernel_rfl
theorem taMsgMsg (v : Value) (w : World) : (Instr.typeAssert (.iface ( /- t -/ 155) v) ( /- t -/ 147) ( /- t -/ 155) true).run Tryd.prog w = .ok (.tuple #[v, .bool true]) w := by kernel_rfl
theorem taRecMsg (v : Value) (w : World) : (Instr.typeAssert (.iface ( /- t -/ 159) v) ( /- t -/ 147) ( /- t -/ 155) true).run Tryd.prog w = .ok (.tuple #[.agg #[.string ⟨#[]⟩, .string ⟨#[]⟩, .slice none 0 0], .bool false]) w := by kernel_rfl
theorem taVarMsg (v : Value) (w : World) : (Instr.typeAssert (.iface ( /- t -/ 161) v) ( /- t -/ 147) ( /- t -/ 155) true).run Tryd.prog w = .ok (.tuple #[.agg #[.string ⟨#[]⟩, .string ⟨#[]⟩, .slice none 0 0], .bool false]) w := by kernel_rfl
theorem ta_nilRec (w : World) : (Instr.typeAssert .nilIface ( /- t -/ 147) ( /- t -/ 159) true).run Tryd.prog w = .ok (.tuple #[.agg #[.int .i64 0, .string ⟨#[]⟩, .string ⟨#[]⟩, .int .i64 0, .slice none 0 0], .bool false]) w := by kernel_rfl
theorem taEndRec (v : Value) (w : World) : (Instr.typeAssert (.iface ( /- t -/ 150) v) ( /- t -/ 147) ( /- t -/ 159) true).run Tryd.prog w = .ok (.tuple #[.agg #[.int .i64 0, .string ⟨#[]⟩, .string ⟨#[]⟩, .int .i64 0, .slice none 0 0], .bool false]) w := by kernel_rfl
theorem taMsgRec (v : Value) (w : World) : (Instr.typeAssert (.iface ( /- t -/ 155) v) ( /- t -/ 147) ( /- t -/ 159) true).run Tryd.prog w = .ok (.tuple #[.agg #[.int .i64 0, .string ⟨#[]⟩, .string ⟨#[]⟩, .int .i64 0, .slice none 0 0], .bool false]) w := by kernel_rfl
theorem taRecRec (v : Value) (w : World) : (Instr.typeAssert (.iface ( /- t -/ 159) v) ( /- t -/ 147) ( /- t -/ 159) true).run Tryd.prog w = .ok (.tuple #[v, .bool true]) w := by kernel_rfl
theorem taVarRec (v : Value) (w : World) : (Instr.typeAssert (.iface ( /- t -/ 161) v) ( /- t -/ 147) ( /- t -/ 159) true).run Tryd.prog w = .ok (.tuple #[.agg #[.int .i64 0, .string ⟨#[]⟩, .string ⟨#[]⟩, .int .i64 0, .slice none 0 0], .bool false]) w := by kernel_rfl
theorem ta_nilVar (w : World) : (Instr.typeAssert .nilIface ( /- t -/ 147) ( /- t -/ 161) true).run Tryd.prog w = .ok (.tuple #[.agg #[.int .i64 0], .bool false]) w := by kernel_rfl
theorem taEndVar (v : Value) (w : World) : (Instr.typeAssert (.iface ( /- t -/ 150) v) ( /- t -/ 147) ( /- t -/ 161) true).run Tryd.prog w = .ok (.tuple #[.agg #[.int .i64 0], .bool false]) w := by kernel_rfl
theorem taMsgVar (v : Value) (w : World) : (Instr.typeAssert (.iface ( /- t -/ 155) v) ( /- t -/ 147) ( /- t -/ 161) true).run Tryd.prog w = .ok (.tuple #[.agg #[.int .i64 0], .bool false]) w := by kernel_rfl
theorem taRecVar (v : Value) (w : World) : (Instr.typeAssert (.iface ( /- t -/ 159) v) ( /- t -/ 147) ( /- t -/ 161) true).run Tryd.prog w = .ok (.tuple #[.agg #[.int .i64 0], .bool false]) w := by kernel_rfl
theorem taVarVar (v : Value) (w : World) : (Instr.typeAssert (.iface ( /- t -/ 161) v) ( /- t -/ 147) ( /- t -/ 161) true).run Tryd.prog w = .ok (.tuple #[v, .bool true]) w := by kernel_rfl

theorem shape_end {fr to : ByteArray} {ix : Int} {kids : F} (h : shapeB 1 fr to ix kids = true) : fr.toList = [] ∧ to.toList = [] ∧ ix = 0 ∧ kids = .nil := by
  have h' : (fr.toList.isEmpty && to.toList.isEmpty && ix == 0 && decide (kids.len = 0)) = true := h
  simp only [Bool.and_eq_true, List.isEmpty_iff, beq_iff_eq, decide_eq_true_eq] at h'
  exact ⟨h'.1.1.1, h'.1.1.2, h'.1.2, nil_of_len h'.2⟩
theorem shape_var {fr to : ByteArray} {ix : Int} {kids : F} (h : shapeB 4 fr to ix kids = true) : fr.toList = [] ∧ to.toList = [] ∧ 0 ≤ ix ∧ kids = .nil := by
  have h' : (fr.toList.isEmpty && to.toList.isEmpty && decide (0 ≤ ix) && decide (kids.len = 0)) = true := h
  simp only [Bool.and_eq_true, List.isEmpty_iff, decide_eq_true_eq] at h'
  exact ⟨h'.1.1.1, h'.1.1.2, h'.1.2, nil_of_len h'.2⟩
theorem shape_msg {fr to : ByteArray} {ix : Int} {kids : F} (h : shapeB 2 fr to ix kids = true) : roleB fr = true ∧ roleB to = true ∧ ¬ fr.toList = to.toList ∧ ix = 0 ∧ branchesB kids = true := by
  have h' : (roleB fr && roleB to && !(fr.toList == to.toList) && ix == 0 && branchesB kids) = true := h
  simp only [Bool.and_eq_true, beq_iff_eq, Bool.not_eq_true', beq_eq_false_iff_ne] at h'
  exact ⟨h'.1.1.1.1, h'.1.1.1.2, h'.1.1.2, h'.1.2, h'.2⟩
theorem shape_rec {fr to : ByteArray} {ix : Int} {kids : F} (h : shapeB 3 fr to ix kids = true) : fr.toList = [] ∧ to.toList = [] ∧ ix = 0 ∧ ∃ lab k' fr' to' ix' kids', kids = .cons lab k' fr' to' ix' kids' .nil ∧ lab.toList = [] := by
  have h' : (fr.toList.isEmpty && to.toList.isEmpty && ix == 0 && decide (kids.len = 1) && bareB kids) = true := h
  simp only [Bool.and_eq_true, List.isEmpty_iff, beq_iff_eq, decide_eq_true_eq] at h'
  refine ⟨h'.1.1.1.1, h'.1.1.1.2, h'.1.1.2, ?_⟩
  obtain ⟨⟨-, hl⟩, hb⟩ := h'
  cases kids with
  | nil => simp [F.len] at hl
  | cons lab k' fr' to' ix' kids' rest =>
    have hr : rest = .nil := nil_of_len (by simp only [F.len] at hl; omega)
    subst hr
    exact ⟨lab, k', fr', to', ix', kids', rfl, List.isEmpty_iff.1 hb⟩

theorem alloc_last (w : World) (cs : Array Value) (t : TypeId) : (w.alloc (.cells cs t)).heap[w.heap.size]? = some (.cells cs t (0, 0)) := by
  show (w.heap.push _)[w.heap.size]? = _
  simp

/-- The world in which the node is asked for its kind, and each one behind it. -/
theorem cg_start {w w1 : World} {c m : Nat} {v0 v1 v2 v3 v4 x0 x1 x2 y0 y1 y2 : Value} {t u : TypeId} (hc : Ctr w c m)
    (hb : Below (w.heap.size + 3) ((((w.setCell ⟨c, 0, none⟩ (.int .i64 ((m : Int) + 1))).alloc (.cells #[v0, v1, v2, v3, v4] t)).alloc (.cells #[x0, x1, x2] u)).alloc (.cells #[y0, y1, y2] u)) w1) :
    Only c w w1 ∧ Ctr w1 c ((m + 1 : Nat) : Int) ∧ w.heap.size + 2 < w1.heap.size ∧
    w1.cell? ⟨w.heap.size, 0, none⟩ = some v0 ∧ w1.cell? ⟨w.heap.size, 1, none⟩ = some v1 ∧ w1.cell? ⟨w.heap.size, 2, none⟩ = some v2 ∧ w1.cell? ⟨w.heap.size, 3, none⟩ = some v3 ∧ w1.cell? ⟨w.heap.size, 4, none⟩ = some v4 ∧
    w1.cell? ⟨w.heap.size + 1, 0, none⟩ = some x0 ∧ w1.cell? ⟨w.heap.size + 1, 1, none⟩ = some x1 ∧ w1.cell? ⟨w.heap.size + 1, 2, none⟩ = some x2 ∧
    w1.cell? ⟨w.heap.size + 1 + 1, 0, none⟩ = some y0 ∧ w1.cell? ⟨w.heap.size + 1 + 1, 1, none⟩ = some y1 ∧ w1.cell? ⟨w.heap.size + 1 + 1, 2, none⟩ = some y2 ∧
    ∃ T, w1.heap[w.heap.size + 2]? = some (.cells #[y0, y1, y2] T (0, 0)) := by
  have hlt := hc.lt
  have o1 : Only c w (w.setCell ⟨c, 0, none⟩ (.int .i64 ((m : Int) + 1))) := (Only.refl c w).setCell (Or.inl rfl) _
  have k1 : Ctr (w.setCell ⟨c, 0, none⟩ (.int .i64 ((m : Int) + 1))) c ((m + 1 : Nat) : Int) := by
    have := hc.set ((m : Int) + 1)
    rwa [show ((m + 1 : Nat) : Int) = (m : Int) + 1 by omega]
  have s1 : (w.setCell ⟨c, 0, none⟩ (.int .i64 ((m : Int) + 1))).heap.size = w.heap.size := World.size_setCell ..
  generalize (w.setCell ⟨c, 0, none⟩ (.int .i64 ((m : Int) + 1))) = w0 at *
  have a1 := alloc_last w0 #[v0, v1, v2, v3, v4] t
  have a2 := alloc_last (w0.alloc (.cells #[v0, v1, v2, v3, v4] t)) #[x0, x1, x2] u
  have a3 := alloc_last ((w0.alloc (.cells #[v0, v1, v2, v3, v4] t)).alloc (.cells #[x0, x1, x2] u)) #[y0, y1, y2] u
  have z1 : (w0.alloc (.cells #[v0, v1, v2, v3, v4] t)).heap.size = w0.heap.size + 1 := by simp
  have z2 : ((w0.alloc (.cells #[v0, v1, v2, v3, v4] t)).alloc (.cells #[x0, x1, x2] u)).heap.size = w0.heap.size + 2 := by simp
  have z3 : (((w0.alloc (.cells #[v0, v1, v2, v3, v4] t)).alloc (.cells #[x0, x1, x2] u)).alloc (.cells #[y0, y1, y2] u)).heap.size = w0.heap.size + 3 := by simp
  rw [z1] at a2
  rw [z2] at a3
  have e1 : w1.heap[w.heap.size]? = some (.cells #[v0, v1, v2, v3, v4] t (0, 0)) := by
    rw [hb.block _ (by omega), Below.heap_alloc _ _ _ (by omega), Below.heap_alloc _ _ _ (by omega), ← s1]; exact a1
  have e2 : w1.heap[w.heap.size + 1]? = some (.cells #[x0, x1, x2] u (0, 0)) := by
    rw [hb.block _ (by omega), Below.heap_alloc _ _ _ (by omega), ← s1]; exact a2
  have e3 : w1.heap[w.heap.size + 2]? = some (.cells #[y0, y1, y2] u (0, 0)) := by
    rw [hb.block _ (by omega), ← s1]; exact a3
  have hs := hb.size
  refine ⟨?_, ?_, by omega, ?_, ?_, ?_, ?_, ?_, ?_, ?_, ?_, ?_, ?_, ?_, u, e3⟩
  · exact ((((o1.alloc _).alloc _).alloc _).trans ⟨hb.os, hb.tape, hb.output, hb.size, fun i hi _ => hb.block i (by omega)⟩)
  · exact (((k1.alloc _).alloc _).alloc _).same (hb.block _ (by omega))
  all_goals first
    | (rw [cell_of_heap e1]; rfl)
    | (rw [cell_of_heap e2]; rfl)
    | (rw [cell_of_heap e3]; rfl)

set_option maxHeartbeats 400000 in
set_option maxRecDepth 100000 in
theorem cg_full (w : World) (k ix depth recs ung : Int) (fr to : ByteArray) (sv : Value) (kids : F) (c m : Nat) (hc : Ctr w c m) (hm : 400 ≤ m) (hm2 : m ≤ 400) :
    Calls Tryd.prog 144 #[.agg #[.int .i64 k, .string fr, .string to, .int .i64 ix, sv], .agg #[.int .i64 depth, .int .i64 recs, .int .i64 ung], .pointer (some ⟨c, 0, none⟩)] w
    (CgPost c w m (kids.sz + 1) (vldN k fr to ix kids recs ung (41 - depth))) := by
  have h0 := hc.cell
  have h1 : w.frozen? ⟨c, 0, none⟩ = false := hc.frozen
  have h2 := hc.lt
  go_enter Tryd.func144, Tryd.ntmps144
  go_wp2_with fail
  go_ret
  refine ⟨m + 1, ?_, ?_, ?_, ?_⟩
  · rw [decide_eq_false (by omega), Bool.and_false]
    rfl
  · exact ((((Only.refl c w).setCell (Or.inl rfl) _).alloc _).alloc _)
  · have := ((hc.set ((m : Int) + 1)).alloc (.cells #[.int .i64 k, .string fr, .string to, .int .i64 ix, sv] ( /- t -/ 25))).alloc (.cells #[.int .i64 depth, .int .i64 recs, .int .i64 ung] ( /- t -/ 228))
    rwa [show ((m + 1 : Nat) : Int) = (m : Int) + 1 by omega]
  · rw [decide_eq_false (by omega), Bool.and_false]
    intro h
    cases h

set_option maxHeartbeats 400000 in
set_option maxRecDepth 100000 in
theorem cg_deep (w : World) (k ix depth recs ung : Int) (fr to : ByteArray) (sv : Value) (kids : F) (c m : Nat) (hc : Ctr w c m) (hm : m ≤ 399) (hd : 40 < depth) :
    Calls Tryd.prog 144 #[.agg #[.int .i64 k, .string fr, .string to, .int .i64 ix, sv], .agg #[.int .i64 depth, .int .i64 recs, .int .i64 ung], .pointer (some ⟨c, 0, none⟩)] w
    (CgPost c w m (kids.sz + 1) (vldN k fr to ix kids recs ung (41 - depth))) := by
  have h0 := hc.cell
  have h1 : w.frozen? ⟨c, 0, none⟩ = false := hc.frozen
  have h2 := hc.lt
  go_enter Tryd.func144, Tryd.ntmps144
  go_wp2_with fail
  go_ret
  have hv : vldN k fr to ix kids recs ung (41 - depth) = false := by
    unfold vldN nodeB
    rw [decide_eq_false (by omega)]
    rfl
  refine ⟨m + 1, ?_, ?_, ?_, ?_⟩
  · rw [hv]; rfl
  · exact ((((Only.refl c w).setCell (Or.inl rfl) _).alloc _).alloc _)
  · have := ((hc.set ((m : Int) + 1)).alloc (.cells #[.int .i64 k, .string fr, .string to, .int .i64 ix, sv] ( /- t -/ 25))).alloc (.cells #[.int .i64 depth, .int .i64 recs, .int .i64 ung] ( /- t -/ 228))
    rwa [show ((m + 1 : Nat) : Int) = (m : Int) + 1 by omega]
  · rw [hv]
    intro h
    cases h

set_option maxHeartbeats 400000 in
set_option maxRecDepth 100000 in
theorem cg_bad (w : World) (k ix depth recs ung : Int) (fr to : ByteArray) (sv : Value) (kids : F) (c m : Nat) (hs : Sl w sv kids) (hc : Ctr w c m) (hm : m ≤ 399) (hd0 : 1 ≤ depth) (hd : depth ≤ 40) (hu : 0 ≤ ung) (hsh : shapeB k fr to ix kids = false) :
    Calls Tryd.prog 144 #[.agg #[.int .i64 k, .string fr, .string to, .int .i64 ix, sv], .agg #[.int .i64 depth, .int .i64 recs, .int .i64 ung], .pointer (some ⟨c, 0, none⟩)] w
    (CgPost c w m (kids.sz + 1) (vldN k fr to ix kids recs ung (41 - depth))) := by
  have h0 := hc.cell
  have h1 : w.frozen? ⟨c, 0, none⟩ = false := hc.frozen
  have h2 := hc.lt
  have HS := hide hs
  have HSH := hide hsh
  clear hs hsh
  go_enter Tryd.func144, Tryd.ntmps144
  go_wp2_with fail
  have q0 := cg_start (v0 := .int .i64 k) (v1 := .string fr) (v2 := .string to) (v3 := .int .i64 ix) (v4 := sv) (t := ( /- t -/ 25)) (x0 := .int .i64 depth) (x1 := .int .i64 recs) (x2 := .int .i64 ung) (y0 := .int .i64 (depth + 1)) (y1 := .int .i64 recs) (y2 := .int .i64 0) (u := ( /- t -/ 228)) hc (Below.refl _ _)
  refine (node_bad _ k ix fr to sv kids (HS.out.only hc q0.1) HSH.out).mono ?_
  clear q0
  rintro e w1 ⟨rfl, hb⟩
  obtain ⟨p1, p2, -⟩ := cg_start hc (hb.mono (by simp))
  clear hb
  have n1 := ta_nilEnd; have n2 := ta_nilMsg; have n3 := ta_nilRec; have n4 := ta_nilVar
  go_wp2_with fail
  go_ret
  have hv : vldN k fr to ix kids recs ung (41 - depth) = false := by
    unfold vldN
    rw [nodeB_shape _ _ _ _ _ _ _ _ hu, HSH.out, Bool.and_false, Bool.false_and]
  exact ⟨m + 1, by rw [hv]; rfl, p1, p2, by rw [hv]; intro h; cases h⟩

set_option maxHeartbeats 400000 in
set_option maxRecDepth 100000 in
theorem cg_end (w : World) (ix depth recs ung : Int) (fr to : ByteArray) (sv : Value) (kids : F) (c m : Nat) (hs : Sl w sv kids) (hc : Ctr w c m) (hm : m ≤ 399) (hd0 : 1 ≤ depth) (hd : depth ≤ 40) (hu : 0 ≤ ung) (hsh : shapeB 1 fr to ix kids = true) :
    Calls Tryd.prog 144 #[.agg #[.int .i64 1, .string fr, .string to, .int .i64 ix, sv], .agg #[.int .i64 depth, .int .i64 recs, .int .i64 ung], .pointer (some ⟨c, 0, none⟩)] w
    (CgPost c w m (kids.sz + 1) (vldN 1 fr to ix kids recs ung (41 - depth))) := by
  have h0 := hc.cell
  have h1 : w.frozen? ⟨c, 0, none⟩ = false := hc.frozen
  have h2 := hc.lt
  have HS := hide hs
  have HSH := hide hsh
  clear hs hsh
  go_enter Tryd.func144, Tryd.ntmps144
  go_wp2_with fail
  have q0 := cg_start (v0 := .int .i64 1) (v1 := .string fr) (v2 := .string to) (v3 := .int .i64 ix) (v4 := sv) (t := ( /- t -/ 25)) (x0 := .int .i64 depth) (x1 := .int .i64 recs) (x2 := .int .i64 ung) (y0 := .int .i64 (depth + 1)) (y1 := .int .i64 recs) (y2 := .int .i64 0) (u := ( /- t -/ 228)) hc (Below.refl _ _)
  have hk := shape_end HSH.out
  refine (node_end _ ix fr to sv kids (HS.out.only hc q0.1) hk.1 hk.2.1 hk.2.2.1 hk.2.2.2).mono ?_
  have HK := hide hk
  clear q0 hk
  rintro e w1 ⟨rfl, hb⟩
  obtain ⟨p1, p2, -⟩ := cg_start hc (hb.mono (by simp))
  clear hb
  have n1 := taEndEnd
  go_wp2_with fail
  go_ret
  have hv : vldN 1 fr to ix kids recs ung (41 - depth) = true := by
    unfold vldN
    rw [nodeB_shape _ _ _ _ _ _ _ _ hu, HSH.out, decide_eq_true (by omega)]
    rfl
  have h1 : kids.sz = 0 := by rw [HK.out.2.2.2]; rfl
  have h3 : decide (m + (kids.sz + 1) ≤ 400) = true := decide_eq_true (by omega)
  exact ⟨m + 1, by rw [hv, h3]; rfl, p1.alloc _, p2.alloc _, fun _ => by rw [h1]⟩

set_option maxHeartbeats 400000 in
set_option maxRecDepth 100000 in
theorem cg_var (w : World) (ix depth recs ung : Int) (fr to : ByteArray) (sv : Value) (kids : F) (c m : Nat) (hs : Sl w sv kids) (hc : Ctr w c m) (hm : m ≤ 399) (hd0 : 1 ≤ depth) (hd : depth ≤ 40) (hu : 0 ≤ ung) (hsh : shapeB 4 fr to ix kids = true) :
    Calls Tryd.prog 144 #[.agg #[.int .i64 4, .string fr, .string to, .int .i64 ix, sv], .agg #[.int .i64 depth, .int .i64 recs, .int .i64 ung], .pointer (some ⟨c, 0, none⟩)] w
    (CgPost c w m (kids.sz + 1) (vldN 4 fr to ix kids recs ung (41 - depth))) := by
  have h0 := hc.cell
  have h1 : w.frozen? ⟨c, 0, none⟩ = false := hc.frozen
  have h2 := hc.lt
  have HS := hide hs
  have HSH := hide hsh
  clear hs hsh
  go_enter Tryd.func144, Tryd.ntmps144
  go_wp2_with fail
  have q0 := cg_start (v0 := .int .i64 4) (v1 := .string fr) (v2 := .string to) (v3 := .int .i64 ix) (v4 := sv) (t := ( /- t -/ 25)) (x0 := .int .i64 depth) (x1 := .int .i64 recs) (x2 := .int .i64 ung) (y0 := .int .i64 (depth + 1)) (y1 := .int .i64 recs) (y2 := .int .i64 0) (u := ( /- t -/ 228)) hc (Below.refl _ _)
  have hk := shape_var HSH.out
  refine (node_var _ ix fr to sv kids (HS.out.only hc q0.1) hk.1 hk.2.1 hk.2.2.1 hk.2.2.2).mono ?_
  have HK := hide hk
  clear q0 hk
  rintro e w1 ⟨rfl, hb⟩
  obtain ⟨p1, p2, hz, -, -, -, -, -, x0, x1, x2, -⟩ := cg_start hc (hb.mono (by simp))
  have hz1 : w.heap.size + 1 < w1.heap.size := by omega
  clear hb
  have n1 := taVarEnd; have n2 := taVarMsg; have n3 := taVarRec; have n4 := taVarVar
  go_wp2_with fail
  all_goals go_ret
  all_goals
    have hv : vldN 4 fr to ix kids recs ung (41 - depth) = (decide (ung ≤ ix) && decide (ix < recs)) := by
      unfold vldN
      rw [nodeB_shape _ _ _ _ _ _ _ _ hu, HSH.out, decide_eq_true (by omega)]
      rfl
    have h1 : kids.sz = 0 := by rw [HK.out.2.2.2]; rfl
    have h3 : decide (m + (kids.sz + 1) ≤ 400) = true := decide_eq_true (by omega)
  · have h4 : ung ≤ ix := by assumption
    exact ⟨m + 1, by rw [hv, h3, decide_eq_true h4]; simp, p1.alloc _, p2.alloc _, fun _ => by rw [h1]⟩
  · have h4 : ¬ ung ≤ ix := Int.not_le.2 (by assumption)
    exact ⟨m + 1, by rw [hv, h3, decide_eq_false h4]; simp, p1.alloc _, p2.alloc _, fun _ => by rw [h1]⟩
end Go.Proofs.YtfppglfajbmapaaDoor
