/- A monitor in memory: its box and what it reads as; an argument that is a monitor, opened. -/
import Derived.Test.YtmkjipnemapdeaaGreatDoorLOpen
import Derived.Test.YtmkjipnemapdeaaGreatDoorNr
namespace Go.Proofs.YtmkjipnemapdeaaGreatDoor.Lo.Ne
open Go.ChangeShapes Go.WideShapes Go.RowKit

def Box5 (w : World) (b : Nat) (v0 v1 v2 v3 v4 : Value) : Prop := ∃ t, w.heap[b]? = some (.cells #[v0, v1, v2, v3, v4] t (0, 0))
theorem Box5.same {w w' : World} {b : Nat} {v0 v1 v2 v3 v4 : Value} (h : Box5 w b v0 v1 v2 v3 v4) (e : w'.heap[b]? = w.heap[b]?) : Box5 w' b v0 v1 v2 v3 v4 := by
  obtain ⟨t, h⟩ := h
  exact ⟨t, e.trans h⟩
theorem Box5.lt {w : World} {b : Nat} {v0 v1 v2 v3 v4 : Value} (h : Box5 w b v0 v1 v2 v3 v4) : b < w.heap.size := by
  obtain ⟨t, h⟩ := h
  exact (Array.getElem?_eq_some_iff.1 h).1
theorem Box5.below {w w' : World} {b : Nat} {v0 v1 v2 v3 v4 : Value} (h : Box5 w b v0 v1 v2 v3 v4) (hb : Below w.heap.size w w') : Box5 w' b v0 v1 v2 v3 v4 := h.same (hb.block _ h.lt)
theorem Box5.now (w : World) (v0 v1 v2 v3 v4 : Value) (t : TypeId) : Box5 (w.alloc (.cells #[v0, v1, v2, v3, v4] t)) w.heap.size v0 v1 v2 v3 v4 :=
  ⟨t, by show (w.heap.push _)[w.heap.size]? = _; simp⟩
theorem Box5.cells {w : World} {b : Nat} {v0 v1 v2 v3 v4 : Value} (h : Box5 w b v0 v1 v2 v3 v4) :
    w.cell? ⟨b, 0, none⟩ = some v0 ∧ w.cell? ⟨b, 1, none⟩ = some v1 ∧ w.cell? ⟨b, 2, none⟩ = some v2 ∧ w.cell? ⟨b, 3, none⟩ = some v3 ∧ w.cell? ⟨b, 4, none⟩ = some v4 := by
  obtain ⟨t, h⟩ := h
  refine ⟨?_, ?_, ?_, ?_, ?_⟩ <;> simp [World.cell?, h]
theorem Box5.frozen {w : World} {b : Nat} {v0 v1 v2 v3 v4 : Value} (h : Box5 w b v0 v1 v2 v3 v4) (o : Nat) : w.frozen? ⟨b, o, none⟩ = false := by
  obtain ⟨t, h⟩ := h
  simp [World.frozen?, h]
theorem Box5.drew {w : World} {b : Nat} {v0 v1 v2 v3 v4 : Value} (h : Box5 w b v0 v1 v2 v3 v4) : Box5 w.drew b v0 v1 v2 v3 v4 := h

/-- A monitor's values. -/
structure Mon where
  ro : ByteArray
  k : Int
  fr : ByteArray
  ix : Int
  kids : F
/-- How much of its budget the law spends on a monitor. -/
def Mon.wt (m : Mon) : Nat := m.ro.size + (m.fr.size + (m.kids.len + m.kids.wt))
structure Mon.Fit (m : Mon) : Prop where
  ro : m.ro.size ≤ maxLen
  fr : m.fr.size ≤ maxLen
  k : (Lit.int .i64 m.k).wf = true
  ix : (Lit.int .i64 m.ix).wf = true
/-- A monitor in box b. -/
structure MA (b : Nat) (m : Mon) (sv : Value) (W : World) : Prop where
  box : Box5 W b (.string m.ro) (.int .i64 m.k) (.string m.fr) (.int .i64 m.ix) sv
  sl : Sl W sv m.kids
theorem MA.go {b : Nat} {m : Mon} {sv : Value} {W W' : World} (h : MA b m sv W) (hb : Below W.heap.size W W') : MA b m sv W' := ⟨h.box.below hb, h.sl.still (Still.of_below hb)⟩
theorem MA.drew {b : Nat} {m : Mon} {sv : Value} {W : World} (h : MA b m sv W) : MA b m sv W.drew := ⟨h.box.drew, h.sl.still (still_drew W)⟩
/-- A monitor whose memory is the call's own. -/
structure MO (m : Mon) (u : Value) (bs : List Nat) (W : World) : Prop where
  ow : Ow W u m.kids bs
theorem MO.go {m : Mon} {u : Value} {bs : List Nat} {W W' : World} (h : MO m u bs W) (hb : Below W.heap.size W W') : MO m u bs W' := ⟨h.ow.same (Same.of_below hb h.ow.lt)⟩

section
variable {H : Type} {enc : TypeId × Value → H} {W : World} {sp : Nat → Bool}
theorem Tryz.cells26 : Tryz.prog.cellsOf ( /- t -/ 26) = 5 := by kernel_rfl

set_option maxRecDepth 100000 in
/-- An argument of the type laws.Monitor. -/
theorem open_monitor {b0 : Nat} {v : Value} {d : DataW H} {p : List MemPlace} (hv : Value.okWide Tryz.prog W .any b0 ( /- t -/ 26) v) (h : DataW.Trod enc Tryz.prog W 0 sp true ( /- t -/ 26) v d p) :
    ∃ (m : Mon) (sv : Value), v = .agg #[.string m.ro, .int .i64 m.k, .string m.fr, .int .i64 m.ix, sv] ∧ Sl W sv m.kids ∧ m.Fit := by
  obtain ⟨cs, rfl, hsz⟩ := okWide_struct Tryz.underlying26 hv
  obtain ⟨fuel, hf⟩ := h
  obtain ⟨xs, n, rfl, -, hlen, hxl, hf⟩ := DataW.trod_struct Tryz.underlying26 hf
  rw [Tryz.cells26] at hlen
  obtain ⟨l⟩ := cs
  simp only [Value.cells] at hlen hf
  match l, hlen, xs, hxl with
  | [c0, c1, c2, c3, c4], _, [x0, x1], _ =>
    have g0 : DataW.trod enc Tryz.prog W 0 sp true n ( /- t -/ 9) (([c0, c1, c2, c3, c4].drop 0).take (Tryz.prog.cellsOf ( /- t -/ 9))) = some x0 := hf 0 _ rfl
    have g1 : DataW.trod enc Tryz.prog W 0 sp true n ( /- t -/ 24) (([c0, c1, c2, c3, c4].drop 1).take (Tryz.prog.cellsOf ( /- t -/ 24))) = some x1 := hf 1 _ rfl
    simp only [Tryz.cells9, Tryz.cells24] at g0 g1
    obtain ⟨ro, e0, -, w0⟩ := DataW.trod_string Tryz.underlying9 g0
    obtain ⟨k, fr, ix, sv, m, y, rfl, e1, w1, w3, w4, g4⟩ := open_node g1
    simp at e0 e1
    obtain ⟨rfl, rfl, rfl, rfl⟩ := e1
    subst e0
    obtain ⟨kids, hk⟩ := open_tree m c4 y g4
    exact ⟨⟨ro, k, fr, ix, kids⟩, c4, rfl, hk, w0, w1, w3, w4⟩
end
end Go.Proofs.YtmkjipnemapdeaaGreatDoor.Lo.Ne
