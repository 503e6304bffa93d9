/- Mn, Mz, Mo, Me -/
import Derived.Test.YtbonmdkfmgahbaaDoorLOpen
import Derived.Test.YtbonmdkfmgahbaaDoorNr
import Derived.Test.YtbonmdkfmgahbaaDoorRows
import Derived.Test.YtbonmdkfmgahbaaDoorLSz
import Derived.Test.YtbonmdkfmgahbaaDoorLTo
import Derived.Test.YtbonmdkfmgahbaaDoorLEq
/- A monitor in memory: its box and what it reads as; an argument that is a monitor, opened. -/
namespace Go.Proofs.YtbonmdkfmgahbaaDoor.Lo.Ne
open Go.ChangeShapes Go.WideShapes Go.RowKit

def Box5 (w : World) (b : Nat) (v0 v1 v2 v3 v4 : Value) : Prop := ∃ t, w.heap[b]? = some (.cells #[v0, v1, v2, v3, v4] t (0, 0))
theorem Box5.same {w w' : World} {b : Nat} {v0 v1 v2 v3 v4 : Value} (h : Box5 w b v0 v1 v2 v3 v4) (e : w'.heap[b]? = w.heap[b]?) : Box5 w' b v0 v1 v2 v3 v4 := by
  obtain ⟨t, h⟩ := h
  exact ⟨t, e.trans h⟩
theorem Box5.lt {w : World} {b : Nat} {v0 v1 v2 v3 v4 : Value} (h : Box5 w b v0 v1 v2 v3 v4) : b < w.heap.size := by
  obtain ⟨t, h⟩ := h
  exact (Array.getElem?_eq_some_iff.1 h).1
theorem Box5.below {w w' : World} {b : Nat} {v0 v1 v2 v3 v4 : Value} (h : Box5 w b v0 v1 v2 v3 v4) (hb : Below w.heap.size w w') : Box5 w' b v0 v1 v2 v3 v4 := h.same (hb.block _ h.lt)
theorem Box5.now (w : World) (v0 v1 v2 v3 v4 : Value) (t : TypeId) : Box5 (w.alloc (.cells #[v0, v1, v2, v3, v4] t)) w.heap.size v0 v1 v2 v3 v4 :=
  ⟨t, by show (w.heap.push _)[w.heap.size]? = _; simp⟩
theorem Box5.cells {w : World} {b : Nat} {v0 v1 v2 v3 v4 : Value} (h : Box5 w b v0 v1 v2 v3 v4) :
    w.cell? ⟨b, 0, none⟩ = some v0 ∧ w.cell? ⟨b, 1, none⟩ = some v1 ∧ w.cell? ⟨b, 2, none⟩ = some v2 ∧ w.cell? ⟨b, 3, none⟩ = some v3 ∧ w.cell? ⟨b, 4, none⟩ = some v4 := by
  obtain ⟨t, h⟩ := h
  refine ⟨?_, ?_, ?_, ?_, ?_⟩ <;> simp [World.cell?, h]
theorem Box5.frozen {w : World} {b : Nat} {v0 v1 v2 v3 v4 : Value} (h : Box5 w b v0 v1 v2 v3 v4) (o : Nat) : w.frozen? ⟨b, o, none⟩ = false := by
  obtain ⟨t, h⟩ := h
  simp [World.frozen?, h]
theorem Box5.drew {w : World} {b : Nat} {v0 v1 v2 v3 v4 : Value} (h : Box5 w b v0 v1 v2 v3 v4) : Box5 w.drew b v0 v1 v2 v3 v4 := h

/-- A monitor's values. -/
structure Mon where
  ro : ByteArray
  k : Int
  fr : ByteArray
  ix : Int
  kids : F
/-- How much of its budget the law spends on a monitor. -/
def Mon.wt (m : Mon) : Nat := m.ro.size + (m.fr.size + (m.kids.len + m.kids.wt))
structure Mon.Fit (m : Mon) : Prop where
  ro : m.ro.size ≤ maxLen
  fr : m.fr.size ≤ maxLen
  k : (Lit.int .i64 m.k).wf = true
  ix : (Lit.int .i64 m.ix).wf = true
/-- A monitor in box b. -/
structure MA (b : Nat) (m : Mon) (sv : Value) (W : World) : Prop where
  box : Box5 W b (.string m.ro) (.int .i64 m.k) (.string m.fr) (.int .i64 m.ix) sv
  sl : Sl W sv m.kids
theorem MA.go {b : Nat} {m : Mon} {sv : Value} {W W' : World} (h : MA b m sv W) (hb : Below W.heap.size W W') : MA b m sv W' := ⟨h.box.below hb, h.sl.still (Still.of_below hb)⟩
theorem MA.drew {b : Nat} {m : Mon} {sv : Value} {W : World} (h : MA b m sv W) : MA b m sv W.drew := ⟨h.box.drew, h.sl.still (still_drew W)⟩
/-- A monitor whose memory is the call's own. -/
structure MO (m : Mon) (u : Value) (bs : List Nat) (W : World) : Prop where
  ow : Ow W u m.kids bs
theorem MO.go {m : Mon} {u : Value} {bs : List Nat} {W W' : World} (h : MO m u bs W) (hb : Below W.heap.size W W') : MO m u bs W' := ⟨h.ow.same (Same.of_below hb h.ow.lt)⟩

section
variable {H : Type} {enc : TypeId × Value → H} {W : World} {sp : Nat → Bool}
theorem Tryd.cells26 : Tryd.prog.cellsOf ( /- t -/ 26) = 5 := by kernel_rfl

set_option maxRecDepth 100000 in
/-- An argument of the type laws.Monitor. -/
theorem open_monitor {b0 : Nat} {v : Value} {d : DataW H} {p : List MemPlace} (hv : Value.okWide Tryd.prog W .any b0 ( /- t -/ 26) v) (h : DataW.Trod enc Tryd.prog W 0 sp true ( /- t -/ 26) v d p) :
    ∃ (m : Mon) (sv : Value), v = .agg #[.string m.ro, .int .i64 m.k, .string m.fr, .int .i64 m.ix, sv] ∧ Sl W sv m.kids ∧ m.Fit := by
  obtain ⟨cs, rfl, hsz⟩ := okWide_struct Tryd.underlying26 hv
  obtain ⟨fuel, hf⟩ := h
  obtain ⟨xs, n, rfl, -, hlen, hxl, hf⟩ := DataW.trod_struct Tryd.underlying26 hf
  rw [Tryd.cells26] at hlen
  obtain ⟨l⟩ := cs
  simp only [Value.cells] at hlen hf
  match l, hlen, xs, hxl with
  | [c0, c1, c2, c3, c4], _, [x0, x1], _ =>
    have g0 : DataW.trod enc Tryd.prog W 0 sp true n ( /- t -/ 9) (([c0, c1, c2, c3, c4].drop 0).take (Tryd.prog.cellsOf ( /- t -/ 9))) = some x0 := hf 0 _ rfl
    have g1 : DataW.trod enc Tryd.prog W 0 sp true n ( /- t -/ 24) (([c0, c1, c2, c3, c4].drop 1).take (Tryd.prog.cellsOf ( /- t -/ 24))) = some x1 := hf 1 _ rfl
    simp only [Tryd.cells9, Tryd.cells24] at g0 g1
    obtain ⟨ro, e0, -, w0⟩ := DataW.trod_string Tryd.underlying9 g0
    obtain ⟨k, fr, ix, sv, m, y, rfl, e1, w1, w3, w4, g4⟩ := open_node g1
    simp at e0 e1
    obtain ⟨rfl, rfl, rfl, rfl⟩ := e1
    subst e0
    obtain ⟨kids, hk⟩ := open_tree m c4 y g4
    exact ⟨⟨ro, k, fr, ix, kids⟩, c4, rfl, hk, w0, w1, w3, w4⟩
end
end Go.Proofs.YtbonmdkfmgahbaaDoor.Lo.Ne

/- szMonitor. -/
namespace Go.Proofs.YtbonmdkfmgahbaaDoor.Lo.Ne
open Go.RowKit

set_option maxHeartbeats 400000 in
theorem sz_mon (kids : F) (w : World) (lab : ByteArray) (k ix : Int) (fr : ByteArray) (sv : Value) (left : Int) (hs : Sl w sv kids) (hl0 : 0 ≤ left) (hl1 : left ≤ 1048576)
    (hlab : lab.size ≤ maxLen) (hfr : fr.size ≤ maxLen) :
    Calls Tryd.prog 4 #[.agg #[.string lab, .int .i64 k, .string fr, .int .i64 ix, sv], .int .i64 left] w
      fun e w' => e = .returned (.int .i64 (left0 left (lab.size + (fr.size + (kids.len + kids.wt))))) ∧ Below w.heap.size w w' := by
  have HS := hide hs
  have h2 := hide hfr
  clear hs hfr
  unfold maxLen at hlab
  go_enter Tryd.func4, Tryd.ntmps4
  go_wp2_with fail
  · go_ret
    exact ⟨ret_int (by unfold left0; rw [if_pos (by omega)]), alloc_below _ _⟩
  · have h1 : 0 ≤ left - lab.size := by assumption
    refine (sz_calls kids _ k ix fr sv _ (HS.out.still (Still.of_below (alloc_below _ _))) h1 (by omega) h2.out).mono ?_
    rintro e w1 ⟨rfl, hb⟩
    obtain ⟨r, hr⟩ : ∃ r, r = left0 (left - lab.size) (fr.size + (kids.len + kids.wt)) := ⟨_, rfl⟩
    have HR := hide hr
    rw [← hr]
    clear hr
    go_wp2_with fail
    · go_ret
      refine ⟨ret_int ?_, alloc_then hb⟩
      have := HR.out
      unfold left0 at *
      split at this <;> (try split) <;> omega
    · go_ret
      refine ⟨ret_int ?_, alloc_then hb⟩
      have := HR.out
      unfold left0 at *
      split at this <;> (try split) <;> omega

end Go.Proofs.YtbonmdkfmgahbaaDoor.Lo.Ne

/- toMonitor. -/
namespace Go.Proofs.YtbonmdkfmgahbaaDoor.Lo.Ne
open Go.RowKit

set_option maxHeartbeats 400000 in
theorem to_mon (kids : F) (w : World) (lab : ByteArray) (k ix : Int) (fr : ByteArray) (sv : Value) (hs : Sl w sv kids) (hw : kids.len + kids.wt ≤ 1048576) :
    Calls Tryd.prog 6 #[.agg #[.string lab, .int .i64 k, .string fr, .int .i64 ix, sv]] w (MadeB lab k fr ix kids w) := by
  have HS := hide hs
  clear hs
  go_enter Tryd.func6, Tryd.ntmps6
  go_wp2_with fail
  refine (to_calls kids _ k ix fr sv (HS.out.still (Still.of_below ?_)) hw).mono ?_
  · exact ((alloc_below _ _).alloc (by simp) _).alloc (by simp; omega) _
  rintro e w1 ⟨u, bs, rfl, how, hge, hnd, hb⟩
  obtain ⟨ua, uc, rfl⟩ := how.val
  have HO := hide how
  have HG := hide hge
  clear how hge
  obtain ⟨hc, hf⟩ := bcell hb
  go_wp2_with fail
  refine bodyPost_ret (v := .agg #[.string lab, .int .i64 k, .string fr, .int .i64 ix, .slice ua kids.len uc]) (by simp [results, Tryd.results6, go_sem, hc]) rfl ?_
  have hz := hb.size
  simp at hz
  have hB : Below w.heap.size w w1 := ((((alloc_below w _).alloc (by simp) _).alloc (by simp; omega) _).trans (hb.mono (by simp; omega)))
  have q : ∀ b, b ∈ bs → w.heap.size + 3 ≤ b := fun b h => by have := HG.out b h; simp at this; omega
  refine ⟨_, bs, rfl, HO.out.same ?_, fun b h => by have := q b h; omega, hnd, ?_⟩
  · repeat (refine Same.setCell ?_ (fun b h => by have := q b h; simp; omega) _)
    exact Same.refl _ _
  · repeat (refine Below.setCell ?_ (by first | (simp; done) | (simp; omega)) _)
    exact hB

end Go.Proofs.YtbonmdkfmgahbaaDoor.Lo.Ne

/- eqMonitor. -/
namespace Go.Proofs.YtbonmdkfmgahbaaDoor.Lo.Ne
open Go.RowKit

set_option maxHeartbeats 400000 in
theorem eq_mon (kids : F) (w : World) (lab : ByteArray) (k ix : Int) (fr : ByteArray) (su sv : Value) (hu : Sl w su kids) (hv : Sl w sv kids) :
    Calls Tryd.prog 8 #[.agg #[.string lab, .int .i64 k, .string fr, .int .i64 ix, su], .agg #[.string lab, .int .i64 k, .string fr, .int .i64 ix, sv]] w
      fun e w' => e = .returned (.bool true) ∧ Below w.heap.size w w' := by
  have HU := hide hu
  have HV := hide hv
  clear hu hv
  go_enter Tryd.func8, Tryd.ntmps8
  go_wp2_with fail
  have hB := (alloc_below w (.cells #[.string lab, .int .i64 k, .string fr, .int .i64 ix, su] ( /- t -/ 33))).alloc (by simp) (.cells #[.string lab, .int .i64 k, .string fr, .int .i64 ix, sv] ( /- t -/ 33))
  refine (eq_calls kids _ k ix fr _ _ (HU.out.still (Still.of_below hB)) (HV.out.still (Still.of_below hB))).mono ?_
  rintro e w1 ⟨rfl, hb⟩
  have hb2 := hB.trans (hb.mono (by simp; omega))
  clear hB hb
  go_wp2_with fail
  go_ret
  exact ⟨rfl, hb2⟩

end Go.Proofs.YtbonmdkfmgahbaaDoor.Lo.Ne
