/- A monitor in memory: its box and what it reads as. -/
import Derived.Test.YtnlihdcjpeabfaaGreatDoorNr
namespace Go.Proofs.YtnlihdcjpeabfaaGreatDoor.Lo.Ne
open Go.RowKit

def Box5 (w : World) (b : Nat) (v0 v1 v2 v3 v4 : Value) : Prop := ∃ t, w.heap[b]? = some (.cells #[v0, v1, v2, v3, v4] t (0, 0))
theorem Box5.same {w w' : World} {b : Nat} {v0 v1 v2 v3 v4 : Value} (h : Box5 w b v0 v1 v2 v3 v4) (e : w'.heap[b]? = w.heap[b]?) : Box5 w' b v0 v1 v2 v3 v4 := by
  obtain ⟨t, h⟩ := h
  exact ⟨t, e.trans h⟩
theorem Box5.lt {w : World} {b : Nat} {v0 v1 v2 v3 v4 : Value} (h : Box5 w b v0 v1 v2 v3 v4) : b < w.heap.size := by
  obtain ⟨t, h⟩ := h
  exact (Array.getElem?_eq_some_iff.1 h).1
theorem Box5.below {w w' : World} {b : Nat} {v0 v1 v2 v3 v4 : Value} (h : Box5 w b v0 v1 v2 v3 v4) (hb : Below w.heap.size w w') : Box5 w' b v0 v1 v2 v3 v4 := h.same (hb.block _ h.lt)
theorem Box5.now (w : World) (v0 v1 v2 v3 v4 : Value) (t : TypeId) : Box5 (w.alloc (.cells #[v0, v1, v2, v3, v4] t)) w.heap.size v0 v1 v2 v3 v4 :=
  ⟨t, by show (w.heap.push _)[w.heap.size]? = _; simp⟩
theorem Box5.cells {w : World} {b : Nat} {v0 v1 v2 v3 v4 : Value} (h : Box5 w b v0 v1 v2 v3 v4) :
    w.cell? ⟨b, 0, none⟩ = some v0 ∧ w.cell? ⟨b, 1, none⟩ = some v1 ∧ w.cell? ⟨b, 2, none⟩ = some v2 ∧ w.cell? ⟨b, 3, none⟩ = some v3 ∧ w.cell? ⟨b, 4, none⟩ = some v4 := by
  obtain ⟨t, h⟩ := h
  refine ⟨?_, ?_, ?_, ?_, ?_⟩ <;> simp [World.cell?, h]
theorem Box5.frozen {w : World} {b : Nat} {v0 v1 v2 v3 v4 : Value} (h : Box5 w b v0 v1 v2 v3 v4) (o : Nat) : w.frozen? ⟨b, o, none⟩ = false := by
  obtain ⟨t, h⟩ := h
  simp [World.frozen?, h]
theorem Box5.drew {w : World} {b : Nat} {v0 v1 v2 v3 v4 : Value} (h : Box5 w b v0 v1 v2 v3 v4) : Box5 w.drew b v0 v1 v2 v3 v4 := h

/-- A monitor's values. -/
structure Mon where
  ro : ByteArray
  k : Int
  fr : ByteArray
  ix : Int
  kids : F
/-- How much of its budget the law spends on a monitor. -/
def Mon.wt (m : Mon) : Nat := m.ro.size + (m.fr.size + (m.kids.len + m.kids.wt))
structure Mon.Fit (m : Mon) : Prop where
  ro : m.ro.size ≤ maxLen
  fr : m.fr.size ≤ maxLen
  k : (Lit.int .i64 m.k).wf = true
  ix : (Lit.int .i64 m.ix).wf = true
/-- A monitor in box b. -/
structure MA (b : Nat) (m : Mon) (sv : Value) (W : World) : Prop where
  box : Box5 W b (.string m.ro) (.int .i64 m.k) (.string m.fr) (.int .i64 m.ix) sv
  sl : Sl W sv m.kids
theorem MA.go {b : Nat} {m : Mon} {sv : Value} {W W' : World} (h : MA b m sv W) (hb : Below W.heap.size W W') : MA b m sv W' := ⟨h.box.below hb, h.sl.still (Still.of_below hb)⟩
theorem MA.drew {b : Nat} {m : Mon} {sv : Value} {W : World} (h : MA b m sv W) : MA b m sv W.drew := ⟨h.box.drew, h.sl.still (still_drew W)⟩
/-- A monitor whose memory is the call's own. -/
structure MO (m : Mon) (u : Value) (bs : List Nat) (W : World) : Prop where
  ow : Ow W u m.kids bs
theorem MO.go {m : Mon} {u : Value} {bs : List Nat} {W W' : World} (h : MO m u bs W) (hb : Below W.heap.size W W') : MO m u bs W' := ⟨h.ow.same (Same.of_below hb h.ow.lt)⟩
end Go.Proofs.YtnlihdcjpeabfaaGreatDoor.Lo.Ne
