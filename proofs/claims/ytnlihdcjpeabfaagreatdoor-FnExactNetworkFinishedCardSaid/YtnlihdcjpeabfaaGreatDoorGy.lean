/- Yb -/
import Derived.Test.YtnlihdcjpeabfaaGreatDoorGc
import Derived.Deep.RegionHeld3
import Derived.Deep.QuietTactic
import Derived.BigQuiet
import Derived.Laws.Cover3
/- configurationOf of the program. -/
namespace Go.Proofs.YtnlihdcjpeabfaaGreatDoor.Lo.Ne
open Go.RowKit

/-- A queue at its place. -/
def quB (j : Nat) (s : ByteArray) : Bool := decide (s.size ≤ 3) && ((!(decide (j % 4 = 0)) || s.toList.isEmpty) && Tk.labsB s)
def cuB (g : Nd) (c : UInt8) : Bool := curOk ⟨g.k, g.fr, g.ix, g.kids⟩ c

/-- What configurationOf reads: three local types and nine queues. -/
structure CF (lb lo qb qo : Nat) (g0 g1 g2 : Nd) (t0 t1 t2 : Option Addr) (k0 k1 k2 : Nat) (q0 q1 q2 q3 q4 q5 q6 q7 q8 : ByteArray) (W : World) : Prop where
  a0 : W.cell? ⟨lb, lo, none⟩ = some (.int .i64 g0.k)
  a1 : W.cell? ⟨lb, lo + 1, none⟩ = some (.string g0.fr)
  a2 : W.cell? ⟨lb, lo + 2, none⟩ = some (.int .i64 g0.ix)
  a3 : W.cell? ⟨lb, lo + 3, none⟩ = some (.slice t0 g0.kids.len k0)
  a4 : W.cell? ⟨lb, lo + 4, none⟩ = some (.int .i64 g1.k)
  a5 : W.cell? ⟨lb, lo + 5, none⟩ = some (.string g1.fr)
  a6 : W.cell? ⟨lb, lo + 6, none⟩ = some (.int .i64 g1.ix)
  a7 : W.cell? ⟨lb, lo + 7, none⟩ = some (.slice t1 g1.kids.len k1)
  a8 : W.cell? ⟨lb, lo + 8, none⟩ = some (.int .i64 g2.k)
  a9 : W.cell? ⟨lb, lo + 9, none⟩ = some (.string g2.fr)
  a10 : W.cell? ⟨lb, lo + 10, none⟩ = some (.int .i64 g2.ix)
  a11 : W.cell? ⟨lb, lo + 11, none⟩ = some (.slice t2 g2.kids.len k2)
  b0 : W.cell? ⟨qb, qo, none⟩ = some (.string q0)
  b1 : W.cell? ⟨qb, qo + 1, none⟩ = some (.string q1)
  b2 : W.cell? ⟨qb, qo + 2, none⟩ = some (.string q2)
  b3 : W.cell? ⟨qb, qo + 3, none⟩ = some (.string q3)
  b4 : W.cell? ⟨qb, qo + 4, none⟩ = some (.string q4)
  b5 : W.cell? ⟨qb, qo + 5, none⟩ = some (.string q5)
  b6 : W.cell? ⟨qb, qo + 6, none⟩ = some (.string q6)
  b7 : W.cell? ⟨qb, qo + 7, none⟩ = some (.string q7)
  b8 : W.cell? ⟨qb, qo + 8, none⟩ = some (.string q8)
  l0 : Sl W (.slice t0 g0.kids.len k0) g0.kids
  l1 : Sl W (.slice t1 g1.kids.len k1) g1.kids
  l2 : Sl W (.slice t2 g2.kids.len k2) g2.kids
theorem CF.still {lb lo qb qo : Nat} {g0 g1 g2 : Nd} {t0 t1 t2 : Option Addr} {k0 k1 k2 : Nat} {q0 q1 q2 q3 q4 q5 q6 q7 q8 : ByteArray} {W W' : World} (h : CF lb lo qb qo g0 g1 g2 t0 t1 t2 k0 k1 k2 q0 q1 q2 q3 q4 q5 q6 q7 q8 W) (st : Still W W') : CF lb lo qb qo g0 g1 g2 t0 t1 t2 k0 k1 k2 q0 q1 q2 q3 q4 q5 q6 q7 q8 W' :=
  ⟨st _ _ h.a0, st _ _ h.a1, st _ _ h.a2, st _ _ h.a3, st _ _ h.a4, st _ _ h.a5, st _ _ h.a6, st _ _ h.a7, st _ _ h.a8, st _ _ h.a9, st _ _ h.a10, st _ _ h.a11, st _ _ h.b0, st _ _ h.b1, st _ _ h.b2, st _ _ h.b3, st _ _ h.b4, st _ _ h.b5, st _ _ h.b6, st _ _ h.b7, st _ _ h.b8, h.l0.still st, h.l1.still st, h.l2.still st⟩

set_option maxHeartbeats 400000 in
theorem implLett0 (w : World) : Calls Tryz.prog 29 #[.int .i64 0] w fun e w' => e = .returned (.string ⟨#[65]⟩) ∧ w = w' := by
  go_enter Tryz.func29, Tryz.ntmps29
  go_wp2_with fail
  go_ret
  exact ⟨rfl, rfl⟩

set_option maxHeartbeats 400000 in
theorem implLett1 (w : World) : Calls Tryz.prog 29 #[.int .i64 1] w fun e w' => e = .returned (.string ⟨#[66]⟩) ∧ w = w' := by
  go_enter Tryz.func29, Tryz.ntmps29
  go_wp2_with fail
  go_ret
  exact ⟨rfl, rfl⟩

set_option maxHeartbeats 400000 in
theorem implLett2 (w : World) : Calls Tryz.prog 29 #[.int .i64 2] w fun e w' => e = .returned (.string ⟨#[67]⟩) ∧ w = w' := by
  go_enter Tryz.func29, Tryz.ntmps29
  go_wp2_with fail
  go_ret
  exact ⟨rfl, rfl⟩

/-- What configurationOf answers: a configuration whose current types read as the unfolded ones, or the zero value. -/
def ConfP (g0 g1 g2 : Nd) (t0 t1 t2 : Option Addr) (k0 k1 k2 : Nat) (q0 q1 q2 q3 q4 q5 q6 q7 q8 : ByteArray) (okc : Bool) (w : World) (e : Ending) (w' : World) : Prop :=
  Below w.heap.size w w' ∧ (okc = false → e = .returned (.tuple #[.agg #[.int .i64 0, .string ⟨#[]⟩, .int .i64 0, .slice none 0 0, .int .i64 0, .string ⟨#[]⟩, .int .i64 0, .slice none 0 0, .int .i64 0, .string ⟨#[]⟩, .int .i64 0, .slice none 0 0, .int .i64 0, .string ⟨#[]⟩, .int .i64 0, .slice none 0 0, .int .i64 0, .string ⟨#[]⟩, .int .i64 0, .slice none 0 0, .int .i64 0, .string ⟨#[]⟩, .int .i64 0, .slice none 0 0, .string ⟨#[]⟩, .string ⟨#[]⟩, .string ⟨#[]⟩, .string ⟨#[]⟩, .string ⟨#[]⟩, .string ⟨#[]⟩, .string ⟨#[]⟩, .string ⟨#[]⟩, .string ⟨#[]⟩], .bool false])) ∧
  (okc = true → ∃ u0 u1 u2 : Value, e = .returned (.tuple #[.agg #[.int .i64 g0.k, .string g0.fr, .int .i64 g0.ix, .slice t0 g0.kids.len k0, .int .i64 g1.k, .string g1.fr, .int .i64 g1.ix, .slice t1 g1.kids.len k1, .int .i64 g2.k, .string g2.fr, .int .i64 g2.ix, .slice t2 g2.kids.len k2, .int .i64 (unf ⟨g0.k, g0.fr, g0.ix, g0.kids⟩).k, .string (unf ⟨g0.k, g0.fr, g0.ix, g0.kids⟩).fr, .int .i64 (unf ⟨g0.k, g0.fr, g0.ix, g0.kids⟩).ix, u0, .int .i64 (unf ⟨g1.k, g1.fr, g1.ix, g1.kids⟩).k, .string (unf ⟨g1.k, g1.fr, g1.ix, g1.kids⟩).fr, .int .i64 (unf ⟨g1.k, g1.fr, g1.ix, g1.kids⟩).ix, u1, .int .i64 (unf ⟨g2.k, g2.fr, g2.ix, g2.kids⟩).k, .string (unf ⟨g2.k, g2.fr, g2.ix, g2.kids⟩).fr, .int .i64 (unf ⟨g2.k, g2.fr, g2.ix, g2.kids⟩).ix, u2, .string q0, .string q1, .string q2, .string q3, .string q4, .string q5, .string q6, .string q7, .string q8], .bool true]) ∧ Sl w' u0 (unf ⟨g0.k, g0.fr, g0.ix, g0.kids⟩).kids ∧ Sl w' u1 (unf ⟨g1.k, g1.fr, g1.ix, g1.kids⟩).kids ∧ Sl w' u2 (unf ⟨g2.k, g2.fr, g2.ix, g2.kids⟩).kids)
theorem ConfP.no {g0 g1 g2 : Nd} {t0 t1 t2 : Option Addr} {k0 k1 k2 : Nat} {q0 q1 q2 q3 q4 q5 q6 q7 q8 : ByteArray} {okc : Bool} {w w' : World} (h : okc = false) (hb : Below w.heap.size w w') :
    ConfP g0 g1 g2 t0 t1 t2 k0 k1 k2 q0 q1 q2 q3 q4 q5 q6 q7 q8 okc w (.returned (.tuple #[.agg #[.int .i64 0, .string ⟨#[]⟩, .int .i64 0, .slice none 0 0, .int .i64 0, .string ⟨#[]⟩, .int .i64 0, .slice none 0 0, .int .i64 0, .string ⟨#[]⟩, .int .i64 0, .slice none 0 0, .int .i64 0, .string ⟨#[]⟩, .int .i64 0, .slice none 0 0, .int .i64 0, .string ⟨#[]⟩, .int .i64 0, .slice none 0 0, .int .i64 0, .string ⟨#[]⟩, .int .i64 0, .slice none 0 0, .string ⟨#[]⟩, .string ⟨#[]⟩, .string ⟨#[]⟩, .string ⟨#[]⟩, .string ⟨#[]⟩, .string ⟨#[]⟩, .string ⟨#[]⟩, .string ⟨#[]⟩, .string ⟨#[]⟩], .bool false])) w' :=
  ⟨hb, fun _ => rfl, fun h' => by rw [h] at h'; cases h'⟩
theorem ConfP.yes {g0 g1 g2 : Nd} {t0 t1 t2 : Option Addr} {k0 k1 k2 : Nat} {q0 q1 q2 q3 q4 q5 q6 q7 q8 : ByteArray} {okc : Bool} {w w' : World} {u0 u1 u2 : Value} (h : okc = true) (hb : Below w.heap.size w w') (h0 : Sl w' u0 (unf ⟨g0.k, g0.fr, g0.ix, g0.kids⟩).kids) (h1 : Sl w' u1 (unf ⟨g1.k, g1.fr, g1.ix, g1.kids⟩).kids) (h2 : Sl w' u2 (unf ⟨g2.k, g2.fr, g2.ix, g2.kids⟩).kids) :
    ConfP g0 g1 g2 t0 t1 t2 k0 k1 k2 q0 q1 q2 q3 q4 q5 q6 q7 q8 okc w (.returned (.tuple #[.agg #[.int .i64 g0.k, .string g0.fr, .int .i64 g0.ix, .slice t0 g0.kids.len k0, .int .i64 g1.k, .string g1.fr, .int .i64 g1.ix, .slice t1 g1.kids.len k1, .int .i64 g2.k, .string g2.fr, .int .i64 g2.ix, .slice t2 g2.kids.len k2, .int .i64 (unf ⟨g0.k, g0.fr, g0.ix, g0.kids⟩).k, .string (unf ⟨g0.k, g0.fr, g0.ix, g0.kids⟩).fr, .int .i64 (unf ⟨g0.k, g0.fr, g0.ix, g0.kids⟩).ix, u0, .int .i64 (unf ⟨g1.k, g1.fr, g1.ix, g1.kids⟩).k, .string (unf ⟨g1.k, g1.fr, g1.ix, g1.kids⟩).fr, .int .i64 (unf ⟨g1.k, g1.fr, g1.ix, g1.kids⟩).ix, u1, .int .i64 (unf ⟨g2.k, g2.fr, g2.ix, g2.kids⟩).k, .string (unf ⟨g2.k, g2.fr, g2.ix, g2.kids⟩).fr, .int .i64 (unf ⟨g2.k, g2.fr, g2.ix, g2.kids⟩).ix, u2, .string q0, .string q1, .string q2, .string q3, .string q4, .string q5, .string q6, .string q7, .string q8], .bool true])) w' := by
  unfold ConfP
  refine ⟨hb, ?_, ?_⟩
  · intro h'
    rw [h] at h'
    cases h'
  · intro _
    exact ⟨u0, u1, u2, rfl, h0, h1, h2⟩

/-- The configuration that is being made, its first current types laid. -/
def CurS (cb rb : Nat) (g0 g1 g2 : Nd) (t0 t1 t2 : Option Addr) (k0 k1 k2 : Nat) (q0 q1 q2 q3 q4 q5 q6 q7 q8 : ByteArray) : Nat → World → Prop
  | 0, W => Blk W cb #[.int .i64 g0.k, .string g0.fr, .int .i64 g0.ix, .slice t0 g0.kids.len k0, .int .i64 g1.k, .string g1.fr, .int .i64 g1.ix, .slice t1 g1.kids.len k1, .int .i64 g2.k, .string g2.fr, .int .i64 g2.ix, .slice t2 g2.kids.len k2, .int .i64 0, .string ⟨#[]⟩, .int .i64 0, .slice none 0 0, .int .i64 0, .string ⟨#[]⟩, .int .i64 0, .slice none 0 0, .int .i64 0, .string ⟨#[]⟩, .int .i64 0, .slice none 0 0, .string q0, .string q1, .string q2, .string q3, .string q4, .string q5, .string q6, .string q7, .string q8]
  | 1, W => ∃ u0 b0, Blk W cb #[.int .i64 g0.k, .string g0.fr, .int .i64 g0.ix, .slice t0 g0.kids.len k0, .int .i64 g1.k, .string g1.fr, .int .i64 g1.ix, .slice t1 g1.kids.len k1, .int .i64 g2.k, .string g2.fr, .int .i64 g2.ix, .slice t2 g2.kids.len k2, .int .i64 (unf ⟨g0.k, g0.fr, g0.ix, g0.kids⟩).k, .string (unf ⟨g0.k, g0.fr, g0.ix, g0.kids⟩).fr, .int .i64 (unf ⟨g0.k, g0.fr, g0.ix, g0.kids⟩).ix, u0, .int .i64 0, .string ⟨#[]⟩, .int .i64 0, .slice none 0 0, .int .i64 0, .string ⟨#[]⟩, .int .i64 0, .slice none 0 0, .string q0, .string q1, .string q2, .string q3, .string q4, .string q5, .string q6, .string q7, .string q8] ∧ (Ow W u0 (unf ⟨g0.k, g0.fr, g0.ix, g0.kids⟩).kids b0 ∧ (∀ x, x ∈ b0 → x ≠ cb ∧ x ≠ rb)) ∧ cuB g0 65 = true
  | 2, W => ∃ u0 b0 u1 b1, Blk W cb #[.int .i64 g0.k, .string g0.fr, .int .i64 g0.ix, .slice t0 g0.kids.len k0, .int .i64 g1.k, .string g1.fr, .int .i64 g1.ix, .slice t1 g1.kids.len k1, .int .i64 g2.k, .string g2.fr, .int .i64 g2.ix, .slice t2 g2.kids.len k2, .int .i64 (unf ⟨g0.k, g0.fr, g0.ix, g0.kids⟩).k, .string (unf ⟨g0.k, g0.fr, g0.ix, g0.kids⟩).fr, .int .i64 (unf ⟨g0.k, g0.fr, g0.ix, g0.kids⟩).ix, u0, .int .i64 (unf ⟨g1.k, g1.fr, g1.ix, g1.kids⟩).k, .string (unf ⟨g1.k, g1.fr, g1.ix, g1.kids⟩).fr, .int .i64 (unf ⟨g1.k, g1.fr, g1.ix, g1.kids⟩).ix, u1, .int .i64 0, .string ⟨#[]⟩, .int .i64 0, .slice none 0 0, .string q0, .string q1, .string q2, .string q3, .string q4, .string q5, .string q6, .string q7, .string q8] ∧ (Ow W u0 (unf ⟨g0.k, g0.fr, g0.ix, g0.kids⟩).kids b0 ∧ (∀ x, x ∈ b0 → x ≠ cb ∧ x ≠ rb)) ∧ (Ow W u1 (unf ⟨g1.k, g1.fr, g1.ix, g1.kids⟩).kids b1 ∧ (∀ x, x ∈ b1 → x ≠ cb ∧ x ≠ rb)) ∧ cuB g0 65 = true ∧ cuB g1 66 = true
  | 3, W => ∃ u0 b0 u1 b1 u2 b2, Blk W cb #[.int .i64 g0.k, .string g0.fr, .int .i64 g0.ix, .slice t0 g0.kids.len k0, .int .i64 g1.k, .string g1.fr, .int .i64 g1.ix, .slice t1 g1.kids.len k1, .int .i64 g2.k, .string g2.fr, .int .i64 g2.ix, .slice t2 g2.kids.len k2, .int .i64 (unf ⟨g0.k, g0.fr, g0.ix, g0.kids⟩).k, .string (unf ⟨g0.k, g0.fr, g0.ix, g0.kids⟩).fr, .int .i64 (unf ⟨g0.k, g0.fr, g0.ix, g0.kids⟩).ix, u0, .int .i64 (unf ⟨g1.k, g1.fr, g1.ix, g1.kids⟩).k, .string (unf ⟨g1.k, g1.fr, g1.ix, g1.kids⟩).fr, .int .i64 (unf ⟨g1.k, g1.fr, g1.ix, g1.kids⟩).ix, u1, .int .i64 (unf ⟨g2.k, g2.fr, g2.ix, g2.kids⟩).k, .string (unf ⟨g2.k, g2.fr, g2.ix, g2.kids⟩).fr, .int .i64 (unf ⟨g2.k, g2.fr, g2.ix, g2.kids⟩).ix, u2, .string q0, .string q1, .string q2, .string q3, .string q4, .string q5, .string q6, .string q7, .string q8] ∧ (Ow W u0 (unf ⟨g0.k, g0.fr, g0.ix, g0.kids⟩).kids b0 ∧ (∀ x, x ∈ b0 → x ≠ cb ∧ x ≠ rb)) ∧ (Ow W u1 (unf ⟨g1.k, g1.fr, g1.ix, g1.kids⟩).kids b1 ∧ (∀ x, x ∈ b1 → x ≠ cb ∧ x ≠ rb)) ∧ (Ow W u2 (unf ⟨g2.k, g2.fr, g2.ix, g2.kids⟩).kids b2 ∧ (∀ x, x ∈ b2 → x ≠ cb ∧ x ≠ rb)) ∧ cuB g0 65 = true ∧ cuB g1 66 = true ∧ cuB g2 67 = true
  | _, _ => False

/-- The queues before a place are valid. -/
def Done (q0 q1 q2 q3 q4 q5 q6 q7 q8 : ByteArray) (j : Nat) : Prop := ∀ i, i < j → quB i ([q0, q1, q2, q3, q4, q5, q6, q7, q8].getD i ⟨#[]⟩) = true
theorem Done.zero {q0 q1 q2 q3 q4 q5 q6 q7 q8 : ByteArray} : Done q0 q1 q2 q3 q4 q5 q6 q7 q8 0 := fun _ h => absurd h (Nat.not_lt_zero _)
theorem Done.step {q0 q1 q2 q3 q4 q5 q6 q7 q8 : ByteArray} {j : Nat} (h : Done q0 q1 q2 q3 q4 q5 q6 q7 q8 j) (hj : quB j ([q0, q1, q2, q3, q4, q5, q6, q7, q8].getD j ⟨#[]⟩) = true) : Done q0 q1 q2 q3 q4 q5 q6 q7 q8 (j + 1) := fun i hi => by
  rcases Nat.lt_succ_iff_lt_or_eq.1 hi with hi | rfl
  · exact h i hi
  · exact hj

set_option maxHeartbeats 4000000 in
set_option maxRecDepth 100000 in
theorem implConf (w : World) (lb lo qb qo lc qc : Nat) (g0 g1 g2 : Nd) (t0 t1 t2 : Option Addr) (k0 k1 k2 : Nat) (q0 q1 q2 q3 q4 q5 q6 q7 q8 : ByteArray) (h : CF lb lo qb qo g0 g1 g2 t0 t1 t2 k0 k1 k2 q0 q1 q2 q3 q4 q5 q6 q7 q8 w) (okc : Bool) (hokc : okc = ((quB 0 q0 && (quB 1 q1 && (quB 2 q2 && (quB 3 q3 && (quB 4 q4 && (quB 5 q5 && (quB 6 q6 && (quB 7 q7 && (quB 8 q8))))))))) && (cuB g0 65 && (cuB g1 66 && cuB g2 67)))) (hs0 : q0.size ≤ 9223372036854775807) (hs1 : q1.size ≤ 9223372036854775807) (hs2 : q2.size ≤ 9223372036854775807) (hs3 : q3.size ≤ 9223372036854775807) (hs4 : q4.size ≤ 9223372036854775807) (hs5 : q5.size ≤ 9223372036854775807) (hs6 : q6.size ≤ 9223372036854775807) (hs7 : q7.size ≤ 9223372036854775807) (hs8 : q8.size ≤ 9223372036854775807) :
    Calls Tryz.prog 15 #[.agg #[.slice (some ⟨lb, lo, none⟩) 3 lc, .slice (some ⟨qb, qo, none⟩) 9 qc]] w (ConfP g0 g1 g2 t0 t1 t2 k0 k1 k2 q0 q1 q2 q3 q4 q5 q6 q7 q8 okc w) := by
  have HOKC := hide hokc
  have HQS := hide (And.intro hs0 (And.intro hs1 (And.intro hs2 (And.intro hs3 (And.intro hs4 (And.intro hs5 (And.intro hs6 (And.intro hs7 hs8))))))))
  clear hokc hs0 hs1 hs2 hs3 hs4 hs5 hs6 hs7 hs8
  have hB := alloc_below w (.cells #[.slice (some ⟨lb, lo, none⟩) 3 lc, .slice (some ⟨qb, qo, none⟩) 9 qc] ( /- t -/ 30))
  have hB := hB.alloc (by simp) (.cells #[.int .i64 0, .string ⟨#[]⟩, .int .i64 0, .slice none 0 0, .int .i64 0, .string ⟨#[]⟩, .int .i64 0, .slice none 0 0, .int .i64 0, .string ⟨#[]⟩, .int .i64 0, .slice none 0 0, .int .i64 0, .string ⟨#[]⟩, .int .i64 0, .slice none 0 0, .int .i64 0, .string ⟨#[]⟩, .int .i64 0, .slice none 0 0, .int .i64 0, .string ⟨#[]⟩, .int .i64 0, .slice none 0 0, .string ⟨#[]⟩, .string ⟨#[]⟩, .string ⟨#[]⟩, .string ⟨#[]⟩, .string ⟨#[]⟩, .string ⟨#[]⟩, .string ⟨#[]⟩, .string ⟨#[]⟩, .string ⟨#[]⟩] ( /- t -/ 44))
  have HC0 := hide h
  have HC := hide (h.still (Still.of_below hB))
  clear h
  go_enter Tryz.func15, Tryz.ntmps15
  go_wp2_with fail
  have HX := hide ((Box2.now w (.slice (some ⟨lb, lo, none⟩) 3 lc) (.slice (some ⟨qb, qo, none⟩) 9 qc) ( /- t -/ 30)).below (alloc_below _ (.cells #[.int .i64 0, .string ⟨#[]⟩, .int .i64 0, .slice none 0 0, .int .i64 0, .string ⟨#[]⟩, .int .i64 0, .slice none 0 0, .int .i64 0, .string ⟨#[]⟩, .int .i64 0, .slice none 0 0, .int .i64 0, .string ⟨#[]⟩, .int .i64 0, .slice none 0 0, .int .i64 0, .string ⟨#[]⟩, .int .i64 0, .slice none 0 0, .int .i64 0, .string ⟨#[]⟩, .int .i64 0, .slice none 0 0, .string ⟨#[]⟩, .string ⟨#[]⟩, .string ⟨#[]⟩, .string ⟨#[]⟩, .string ⟨#[]⟩, .string ⟨#[]⟩, .string ⟨#[]⟩, .string ⟨#[]⟩, .string ⟨#[]⟩] ( /- t -/ 44))))
  have HRB0 := Blk.now (w.alloc (.cells #[.slice (some ⟨lb, lo, none⟩) 3 lc, .slice (some ⟨qb, qo, none⟩) 9 qc] ( /- t -/ 30))) #[.int .i64 0, .string ⟨#[]⟩, .int .i64 0, .slice none 0 0, .int .i64 0, .string ⟨#[]⟩, .int .i64 0, .slice none 0 0, .int .i64 0, .string ⟨#[]⟩, .int .i64 0, .slice none 0 0, .int .i64 0, .string ⟨#[]⟩, .int .i64 0, .slice none 0 0, .int .i64 0, .string ⟨#[]⟩, .int .i64 0, .slice none 0 0, .int .i64 0, .string ⟨#[]⟩, .int .i64 0, .slice none 0 0, .string ⟨#[]⟩, .string ⟨#[]⟩, .string ⟨#[]⟩, .string ⟨#[]⟩, .string ⟨#[]⟩, .string ⟨#[]⟩, .string ⟨#[]⟩, .string ⟨#[]⟩, .string ⟨#[]⟩] ( /- t -/ 44)
  rw [show (w.alloc (.cells #[.slice (some ⟨lb, lo, none⟩) 3 lc, .slice (some ⟨qb, qo, none⟩) 9 qc] ( /- t -/ 30))).heap.size = w.heap.size + 1 from by simp] at HRB0
  generalize hW : (w.alloc (.cells #[.slice (some ⟨lb, lo, none⟩) 3 lc, .slice (some ⟨qb, qo, none⟩) 9 qc] ( /- t -/ 30))).alloc (.cells #[.int .i64 0, .string ⟨#[]⟩, .int .i64 0, .slice none 0 0, .int .i64 0, .string ⟨#[]⟩, .int .i64 0, .slice none 0 0, .int .i64 0, .string ⟨#[]⟩, .int .i64 0, .slice none 0 0, .int .i64 0, .string ⟨#[]⟩, .int .i64 0, .slice none 0 0, .int .i64 0, .string ⟨#[]⟩, .int .i64 0, .slice none 0 0, .int .i64 0, .string ⟨#[]⟩, .int .i64 0, .slice none 0 0, .string ⟨#[]⟩, .string ⟨#[]⟩, .string ⟨#[]⟩, .string ⟨#[]⟩, .string ⟨#[]⟩, .string ⟨#[]⟩, .string ⟨#[]⟩, .string ⟨#[]⟩, .string ⟨#[]⟩] ( /- t -/ 44)) = W at *
  have HCW := HC
  have HRB0 := hide HRB0
  have HC := hide (HC.out.still (still_drew W))
  obtain ⟨x0, x1⟩ := HX.out.drew.cells
  obtain ⟨a0, a1, a2, a3, a4, a5, a6, a7, a8, a9, a10, a11, b0, b1, b2, b3, b4, b5, b6, b7, b8, -, -, -⟩ := HC.out
  have hsz : w.heap.size + 1 < W.heap.size := by rw [← hW]; simp
  clear hW
  have hlb : lb < W.heap.size := World.block_lt_of_cell? _ _ a0
  have hqb : qb < W.heap.size := World.block_lt_of_cell? _ _ b0
  have hxl := HX.out.lt
  have r3 : ∀ W : World, (Instr.arrayAt ( /- t -/ 41) (.slice (some ⟨lb, lo, none⟩) 3 lc)).run Tryz.prog W = .ok (.pointer (some ⟨lb, lo, none⟩)) W := fun W => run_arrayAt W _ _ 3 _ _ _ Tryz.underlying41 (Nat.le_refl _)
  have r9 : ∀ W : World, (Instr.arrayAt ( /- t -/ 42) (.slice (some ⟨qb, qo, none⟩) 9 qc)).run Tryz.prog W = .ok (.pointer (some ⟨qb, qo, none⟩)) W := fun W => run_arrayAt W _ _ 9 _ _ _ Tryz.underlying42 (Nat.le_refl _)
  refine wp_region_held_drew (S := (fun w' => Box2 w' w.heap.size (.slice (some ⟨lb, lo, none⟩) 3 lc) (.slice (some ⟨qb, qo, none⟩) 9 qc) ∧ CF lb lo qb qo g0 g1 g2 t0 t1 t2 k0 k1 k2 q0 q1 q2 q3 q4 q5 q6 q7 q8 w')) (by kernel_rfl) ?_ (fun hHeld => ?_)
  · exact ⟨HX.out.drew, HC.out⟩
  refine wpAnyH_take (i := 0) (v := ?v0) rfl (by kernel_rfl) (by kernel_rfl) (by kernel_rfl) (fun _ _ _ h => h) (Or.inl ⟨by kernel_rfl, ?hy0⟩) (by assumption) ?rest0
  case hy0 => ((intro wS hSw); (obtain ⟨hSb, hSc⟩ := hSw); (obtain ⟨x0, x1⟩ := hSb.cells); (obtain ⟨a0, a1, a2, a3, a4, a5, a6, a7, a8, a9, a10, a11, b0, b1, b2, b3, b4, b5, b6, b7, b8, -, -, -⟩ := hSc); (go_simp); (try with_reducible rfl))
  change wpAnyH _ _ _ _ _ _ _ (Act.put _ (some 23) _) _
  (try simp only [Act.put]); (try simp only [List.setIfInBounds_toArray]); (try simp only [List.set_cons_zero]); (try simp only [List.set_cons_succ])
  refine wpAnyH_take (i := 1) (v := ?v1) rfl (by kernel_rfl) (by kernel_rfl) (by kernel_rfl) (fun _ _ _ h => h) (Or.inl ⟨by kernel_rfl, ?hy1⟩) (by assumption) ?rest1
  case hy1 => ((intro wS hSw); (obtain ⟨hSb, hSc⟩ := hSw); (obtain ⟨x0, x1⟩ := hSb.cells); (obtain ⟨a0, a1, a2, a3, a4, a5, a6, a7, a8, a9, a10, a11, b0, b1, b2, b3, b4, b5, b6, b7, b8, -, -, -⟩ := hSc); (go_simp); (try with_reducible rfl))
  change wpAnyH _ _ _ _ _ _ _ (Act.put _ (some 24) _) _
  (try simp only [Act.put]); (try simp only [List.setIfInBounds_toArray]); (try simp only [List.set_cons_zero]); (try simp only [List.set_cons_succ])
  refine wpAnyH_take (i := 2) (v := ?v2) rfl (by kernel_rfl) (by kernel_rfl) (by kernel_rfl) (fun _ _ _ h => h) (Or.inl ⟨by kernel_rfl, ?hy2⟩) (by assumption) ?rest2
  case hy2 => ((intro wS hSw); (obtain ⟨hSb, hSc⟩ := hSw); (obtain ⟨x0, x1⟩ := hSb.cells); (obtain ⟨a0, a1, a2, a3, a4, a5, a6, a7, a8, a9, a10, a11, b0, b1, b2, b3, b4, b5, b6, b7, b8, -, -, -⟩ := hSc); (go_simp); (try with_reducible rfl))
  change wpAnyH _ _ _ _ _ _ _ (Act.put _ (some 25) _) _
  (try simp only [Act.put]); (try simp only [List.setIfInBounds_toArray]); (try simp only [List.set_cons_zero]); (try simp only [List.set_cons_succ])
  refine wpAnyH_take (i := 3) (v := ?v3) rfl (by kernel_rfl) (by kernel_rfl) (by kernel_rfl) (fun _ _ _ h => h) (Or.inl ⟨by kernel_rfl, ?hy3⟩) (by assumption) ?rest3
  case hy3 => ((intro wS hSw); (obtain ⟨hSb, hSc⟩ := hSw); (obtain ⟨x0, x1⟩ := hSb.cells); (obtain ⟨a0, a1, a2, a3, a4, a5, a6, a7, a8, a9, a10, a11, b0, b1, b2, b3, b4, b5, b6, b7, b8, -, -, -⟩ := hSc); (go_simp); (try with_reducible rfl))
  change wpAnyH _ _ _ _ _ _ _ (Act.put _ (some 26) _) _
  (try simp only [Act.put]); (try simp only [List.setIfInBounds_toArray]); (try simp only [List.set_cons_zero]); (try simp only [List.set_cons_succ])
  refine wpAnyH_take (i := 4) (v := ?v4) rfl (by kernel_rfl) (by kernel_rfl) (by kernel_rfl) (fun _ _ _ h => h) (Or.inl ⟨by kernel_rfl, ?hy4⟩) (by assumption) ?rest4
  case hy4 => ((intro wS hSw); (obtain ⟨hSb, hSc⟩ := hSw); (obtain ⟨x0, x1⟩ := hSb.cells); (obtain ⟨a0, a1, a2, a3, a4, a5, a6, a7, a8, a9, a10, a11, b0, b1, b2, b3, b4, b5, b6, b7, b8, -, -, -⟩ := hSc); (go_simp); (try with_reducible rfl))
  change wpAnyH _ _ _ _ _ _ _ (Act.put _ (some 27) _) _
  (try simp only [Act.put]); (try simp only [List.setIfInBounds_toArray]); (try simp only [List.set_cons_zero]); (try simp only [List.set_cons_succ])
  refine wpAnyH_take (i := 5) (v := ?v5) rfl (by kernel_rfl) (by kernel_rfl) (by kernel_rfl) (fun _ _ _ h => h) (Or.inl ⟨by kernel_rfl, ?hy5⟩) (by assumption) ?rest5
  case hy5 => ((intro wS hSw); (obtain ⟨hSb, hSc⟩ := hSw); (obtain ⟨x0, x1⟩ := hSb.cells); (obtain ⟨a0, a1, a2, a3, a4, a5, a6, a7, a8, a9, a10, a11, b0, b1, b2, b3, b4, b5, b6, b7, b8, -, -, -⟩ := hSc); (go_simp); (try with_reducible rfl))
  change wpAnyH _ _ _ _ _ _ _ (Act.put _ (some 28) _) _
  (try simp only [Act.put]); (try simp only [List.setIfInBounds_toArray]); (try simp only [List.set_cons_zero]); (try simp only [List.set_cons_succ])
  refine wpAnyH_take (i := 6) (v := ?v6) rfl (by kernel_rfl) (by kernel_rfl) (by kernel_rfl) (fun _ _ _ h => h) (Or.inl ⟨by kernel_rfl, ?hy6⟩) (by assumption) ?rest6
  case hy6 => ((intro wS hSw); (obtain ⟨hSb, hSc⟩ := hSw); (obtain ⟨x0, x1⟩ := hSb.cells); (obtain ⟨a0, a1, a2, a3, a4, a5, a6, a7, a8, a9, a10, a11, b0, b1, b2, b3, b4, b5, b6, b7, b8, -, -, -⟩ := hSc); (go_simp); (try with_reducible rfl))
  change wpAnyH _ _ _ _ _ _ _ (Act.put _ (some 29) _) _
  (try simp only [Act.put]); (try simp only [List.setIfInBounds_toArray]); (try simp only [List.set_cons_zero]); (try simp only [List.set_cons_succ])
  refine wpAnyH_take (i := 7) (v := ?v7) rfl (by kernel_rfl) (by kernel_rfl) (by kernel_rfl) (fun _ _ _ h => h) (Or.inl ⟨by kernel_rfl, ?hy7⟩) (by assumption) ?rest7
  case hy7 => ((intro wS hSw); (obtain ⟨hSb, hSc⟩ := hSw); (obtain ⟨x0, x1⟩ := hSb.cells); (obtain ⟨a0, a1, a2, a3, a4, a5, a6, a7, a8, a9, a10, a11, b0, b1, b2, b3, b4, b5, b6, b7, b8, -, -, -⟩ := hSc); (go_simp); (try with_reducible rfl))
  change wpAnyH _ _ _ _ _ _ _ (Act.put _ (some 30) _) _
  (try simp only [Act.put]); (try simp only [List.setIfInBounds_toArray]); (try simp only [List.set_cons_zero]); (try simp only [List.set_cons_succ])
  refine wpAnyH_take (i := 8) (v := ?v8) rfl (by kernel_rfl) (by kernel_rfl) (by kernel_rfl) (fun _ _ _ h => h) (Or.inl ⟨by kernel_rfl, ?hy8⟩) (by assumption) ?rest8
  case hy8 => ((intro wS hSw); (obtain ⟨hSb, hSc⟩ := hSw); (obtain ⟨x0, x1⟩ := hSb.cells); (obtain ⟨a0, a1, a2, a3, a4, a5, a6, a7, a8, a9, a10, a11, b0, b1, b2, b3, b4, b5, b6, b7, b8, -, -, -⟩ := hSc); (go_simp); (try with_reducible rfl))
  change wpAnyH _ _ _ _ _ _ _ (Act.put _ (some 31) _) _
  (try simp only [Act.put]); (try simp only [List.setIfInBounds_toArray]); (try simp only [List.set_cons_zero]); (try simp only [List.set_cons_succ])
  refine wpAnyH_ready (rs := [9]) (by kernel_rfl) (by simp) (AllReadyH.cons rfl (fun K hK => ?_) AllReadyH.nil)
  rw [if_pos (by kernel_rfl)]
  go_simp
  refine hK.out _ _ ?_ (fun hHeld => ?_)
  · exact ⟨(HX.out.below (alloc_below W _)).drew, (HCW.out.still (Still.of_below (alloc_below W _))).still (still_drew _)⟩
  clear hK K
  (try simp only [Act.put]); (try simp only [List.setIfInBounds_toArray]); (try simp only [List.set_cons_zero]); (try simp only [List.set_cons_succ])
  refine wpAnyH_ready (rs := [10]) (by kernel_rfl) (by simp) (AllReadyH.cons rfl (fun K hK => ?_) AllReadyH.nil)
  rw [if_pos (by kernel_rfl)]
  refine wp_store_blk (b := W.heap.size) (c := #[.int .i64 0, .string ⟨#[]⟩, .int .i64 0, .slice none 0 0, .int .i64 0, .string ⟨#[]⟩, .int .i64 0, .slice none 0 0, .int .i64 0, .string ⟨#[]⟩, .int .i64 0, .slice none 0 0, .int .i64 0, .string ⟨#[]⟩, .int .i64 0, .slice none 0 0, .int .i64 0, .string ⟨#[]⟩, .int .i64 0, .slice none 0 0, .int .i64 0, .string ⟨#[]⟩, .int .i64 0, .slice none 0 0, .string ⟨#[]⟩, .string ⟨#[]⟩, .string ⟨#[]⟩, .string ⟨#[]⟩, .string ⟨#[]⟩, .string ⟨#[]⟩, .string ⟨#[]⟩, .string ⟨#[]⟩, .string ⟨#[]⟩]) (c' := #[.int .i64 g0.k, .string g0.fr, .int .i64 g0.ix, .slice t0 g0.kids.len k0, .int .i64 g1.k, .string g1.fr, .int .i64 g1.ix, .slice t1 g1.kids.len k1, .int .i64 g2.k, .string g2.fr, .int .i64 g2.ix, .slice t2 g2.kids.len k2, .int .i64 0, .string ⟨#[]⟩, .int .i64 0, .slice none 0 0, .int .i64 0, .string ⟨#[]⟩, .int .i64 0, .slice none 0 0, .int .i64 0, .string ⟨#[]⟩, .int .i64 0, .slice none 0 0, .string q0, .string q1, .string q2, .string q3, .string q4, .string q5, .string q6, .string q7, .string q8]) rfl ((Blk.now W _ _).same rfl) rfl rfl (by kernel_rfl) rfl (by kernel_rfl) ?_
  refine hK.out _ _ ?_ (fun hHeld => ?_)
  · exact ⟨HX.out.below (below_setRow (alloc_below W (.cells #[.int .i64 0, .string ⟨#[]⟩, .int .i64 0, .slice none 0 0, .int .i64 0, .string ⟨#[]⟩, .int .i64 0, .slice none 0 0, .int .i64 0, .string ⟨#[]⟩, .int .i64 0, .slice none 0 0, .int .i64 0, .string ⟨#[]⟩, .int .i64 0, .slice none 0 0, .int .i64 0, .string ⟨#[]⟩, .int .i64 0, .slice none 0 0, .int .i64 0, .string ⟨#[]⟩, .int .i64 0, .slice none 0 0, .string ⟨#[]⟩, .string ⟨#[]⟩, .string ⟨#[]⟩, .string ⟨#[]⟩, .string ⟨#[]⟩, .string ⟨#[]⟩, .string ⟨#[]⟩, .string ⟨#[]⟩, .string ⟨#[]⟩] ( /- t -/ 44))).drew (Nat.le_refl _) #[.int .i64 g0.k, .string g0.fr, .int .i64 g0.ix, .slice t0 g0.kids.len k0, .int .i64 g1.k, .string g1.fr, .int .i64 g1.ix, .slice t1 g1.kids.len k1, .int .i64 g2.k, .string g2.fr, .int .i64 g2.ix, .slice t2 g2.kids.len k2, .int .i64 0, .string ⟨#[]⟩, .int .i64 0, .slice none 0 0, .int .i64 0, .string ⟨#[]⟩, .int .i64 0, .slice none 0 0, .int .i64 0, .string ⟨#[]⟩, .int .i64 0, .slice none 0 0, .string q0, .string q1, .string q2, .string q3, .string q4, .string q5, .string q6, .string q7, .string q8]), HCW.out.still (Still.of_below (below_setRow (alloc_below W (.cells #[.int .i64 0, .string ⟨#[]⟩, .int .i64 0, .slice none 0 0, .int .i64 0, .string ⟨#[]⟩, .int .i64 0, .slice none 0 0, .int .i64 0, .string ⟨#[]⟩, .int .i64 0, .slice none 0 0, .int .i64 0, .string ⟨#[]⟩, .int .i64 0, .slice none 0 0, .int .i64 0, .string ⟨#[]⟩, .int .i64 0, .slice none 0 0, .int .i64 0, .string ⟨#[]⟩, .int .i64 0, .slice none 0 0, .string ⟨#[]⟩, .string ⟨#[]⟩, .string ⟨#[]⟩, .string ⟨#[]⟩, .string ⟨#[]⟩, .string ⟨#[]⟩, .string ⟨#[]⟩, .string ⟨#[]⟩, .string ⟨#[]⟩] ( /- t -/ 44))).drew (Nat.le_refl _) #[.int .i64 g0.k, .string g0.fr, .int .i64 g0.ix, .slice t0 g0.kids.len k0, .int .i64 g1.k, .string g1.fr, .int .i64 g1.ix, .slice t1 g1.kids.len k1, .int .i64 g2.k, .string g2.fr, .int .i64 g2.ix, .slice t2 g2.kids.len k2, .int .i64 0, .string ⟨#[]⟩, .int .i64 0, .slice none 0 0, .int .i64 0, .string ⟨#[]⟩, .int .i64 0, .slice none 0 0, .int .i64 0, .string ⟨#[]⟩, .int .i64 0, .slice none 0 0, .string q0, .string q1, .string q2, .string q3, .string q4, .string q5, .string q6, .string q7, .string q8]))⟩
  clear hK K
  change wpAnyH _ _ _ _ _ _ _ (Act.put _ none _) _
  (try simp only [Act.put]); (try simp only [List.setIfInBounds_toArray]); (try simp only [List.set_cons_zero]); (try simp only [List.set_cons_succ])
  refine wpAnyH_done (by kernel_rfl) ?_ _
  have HBW := hide (below_setRow (alloc_below W (.cells #[.int .i64 0, .string ⟨#[]⟩, .int .i64 0, .slice none 0 0, .int .i64 0, .string ⟨#[]⟩, .int .i64 0, .slice none 0 0, .int .i64 0, .string ⟨#[]⟩, .int .i64 0, .slice none 0 0, .int .i64 0, .string ⟨#[]⟩, .int .i64 0, .slice none 0 0, .int .i64 0, .string ⟨#[]⟩, .int .i64 0, .slice none 0 0, .int .i64 0, .string ⟨#[]⟩, .int .i64 0, .slice none 0 0, .string ⟨#[]⟩, .string ⟨#[]⟩, .string ⟨#[]⟩, .string ⟨#[]⟩, .string ⟨#[]⟩, .string ⟨#[]⟩, .string ⟨#[]⟩, .string ⟨#[]⟩, .string ⟨#[]⟩] ( /- t -/ 44))).drew (Nat.le_refl _) #[.int .i64 g0.k, .string g0.fr, .int .i64 g0.ix, .slice t0 g0.kids.len k0, .int .i64 g1.k, .string g1.fr, .int .i64 g1.ix, .slice t1 g1.kids.len k1, .int .i64 g2.k, .string g2.fr, .int .i64 g2.ix, .slice t2 g2.kids.len k2, .int .i64 0, .string ⟨#[]⟩, .int .i64 0, .slice none 0 0, .int .i64 0, .string ⟨#[]⟩, .int .i64 0, .slice none 0 0, .int .i64 0, .string ⟨#[]⟩, .int .i64 0, .slice none 0 0, .string q0, .string q1, .string q2, .string q3, .string q4, .string q5, .string q6, .string q7, .string q8])
  have HCF := hide hHeld.2
  have HCB := hide (Blk.setRow ((Blk.now W #[.int .i64 0, .string ⟨#[]⟩, .int .i64 0, .slice none 0 0, .int .i64 0, .string ⟨#[]⟩, .int .i64 0, .slice none 0 0, .int .i64 0, .string ⟨#[]⟩, .int .i64 0, .slice none 0 0, .int .i64 0, .string ⟨#[]⟩, .int .i64 0, .slice none 0 0, .int .i64 0, .string ⟨#[]⟩, .int .i64 0, .slice none 0 0, .int .i64 0, .string ⟨#[]⟩, .int .i64 0, .slice none 0 0, .string ⟨#[]⟩, .string ⟨#[]⟩, .string ⟨#[]⟩, .string ⟨#[]⟩, .string ⟨#[]⟩, .string ⟨#[]⟩, .string ⟨#[]⟩, .string ⟨#[]⟩, .string ⟨#[]⟩] ( /- t -/ 44)).same (w' := (W.alloc (.cells #[.int .i64 0, .string ⟨#[]⟩, .int .i64 0, .slice none 0 0, .int .i64 0, .string ⟨#[]⟩, .int .i64 0, .slice none 0 0, .int .i64 0, .string ⟨#[]⟩, .int .i64 0, .slice none 0 0, .int .i64 0, .string ⟨#[]⟩, .int .i64 0, .slice none 0 0, .int .i64 0, .string ⟨#[]⟩, .int .i64 0, .slice none 0 0, .int .i64 0, .string ⟨#[]⟩, .int .i64 0, .slice none 0 0, .string ⟨#[]⟩, .string ⟨#[]⟩, .string ⟨#[]⟩, .string ⟨#[]⟩, .string ⟨#[]⟩, .string ⟨#[]⟩, .string ⟨#[]⟩, .string ⟨#[]⟩, .string ⟨#[]⟩] ( /- t -/ 44))).drew) rfl) #[.int .i64 g0.k, .string g0.fr, .int .i64 g0.ix, .slice t0 g0.kids.len k0, .int .i64 g1.k, .string g1.fr, .int .i64 g1.ix, .slice t1 g1.kids.len k1, .int .i64 g2.k, .string g2.fr, .int .i64 g2.ix, .slice t2 g2.kids.len k2, .int .i64 0, .string ⟨#[]⟩, .int .i64 0, .slice none 0 0, .int .i64 0, .string ⟨#[]⟩, .int .i64 0, .slice none 0 0, .int .i64 0, .string ⟨#[]⟩, .int .i64 0, .slice none 0 0, .string q0, .string q1, .string q2, .string q3, .string q4, .string q5, .string q6, .string q7, .string q8])
  have HRB := hide (HRB0.out.below HBW.out)
  have HBL := hide (hB.trans (HBW.out.mono hB.size))
  clear hHeld
  generalize (W.alloc (.cells #[.int .i64 0, .string ⟨#[]⟩, .int .i64 0, .slice none 0 0, .int .i64 0, .string ⟨#[]⟩, .int .i64 0, .slice none 0 0, .int .i64 0, .string ⟨#[]⟩, .int .i64 0, .slice none 0 0, .int .i64 0, .string ⟨#[]⟩, .int .i64 0, .slice none 0 0, .int .i64 0, .string ⟨#[]⟩, .int .i64 0, .slice none 0 0, .int .i64 0, .string ⟨#[]⟩, .int .i64 0, .slice none 0 0, .string ⟨#[]⟩, .string ⟨#[]⟩, .string ⟨#[]⟩, .string ⟨#[]⟩, .string ⟨#[]⟩, .string ⟨#[]⟩, .string ⟨#[]⟩, .string ⟨#[]⟩, .string ⟨#[]⟩] ( /- t -/ 44))).drew.setRow W.heap.size #[.int .i64 g0.k, .string g0.fr, .int .i64 g0.ix, .slice t0 g0.kids.len k0, .int .i64 g1.k, .string g1.fr, .int .i64 g1.ix, .slice t1 g1.kids.len k1, .int .i64 g2.k, .string g2.fr, .int .i64 g2.ix, .slice t2 g2.kids.len k2, .int .i64 0, .string ⟨#[]⟩, .int .i64 0, .slice none 0 0, .int .i64 0, .string ⟨#[]⟩, .int .i64 0, .slice none 0 0, .int .i64 0, .string ⟨#[]⟩, .int .i64 0, .slice none 0 0, .string q0, .string q1, .string q2, .string q3, .string q4, .string q5, .string q6, .string q7, .string q8] = W2 at *
  have z24 := HCB.out.cell 24
  have z25 := HCB.out.cell 25
  have z26 := HCB.out.cell 26
  have z27 := HCB.out.cell 27
  have z28 := HCB.out.cell 28
  have z29 := HCB.out.cell 29
  have z30 := HCB.out.cell 30
  have z31 := HCB.out.cell 31
  have z32 := HCB.out.cell 32
  simp only [List.getElem?_toArray, List.getElem?_cons_succ, List.getElem?_cons_zero] at z24 z25 z26 z27 z28 z29 z30 z31 z32
  have hcl := HCB.out.lt
  go_wp2_with fail
  go_loopw [34] (fun iv wr => ∃ j : Nat, j ≤ 9 ∧ iv = .int .i64 j ∧ Done q0 q1 q2 q3 q4 q5 q6 q7 q8 j ∧ Below W2.heap.size W2 wr) (fun iv _ => 9 - (intOf iv).toNat)
  case atStart => exact ⟨0, by omega, rfl, Done.zero, Below.refl _ _⟩
  case round =>
    obtain ⟨j, hj, hiv, hpr, hw2⟩ := hrel
    have HPR := hide hpr
    have HW2 := hide hw2
    have HRB := hide (HRB.out.below hw2)
    have HBL2 := HBL
    have HBL := hide (HBL.out.trans (hw2.mono HBL.out.size))
    clear hpr hw2 z24 z25 z26 z27 z28 z29 z30 z31 z32
    match j, hj, hiv, HPR with
    | 0, _, hiv, HPR =>
      obtain rfl : _ = Value.int .i64 (0 : Int) := hiv
      have hix : ∀ W : World, (Instr.index ( /- t -/ 42) (.agg #[.string q0, .string q1, .string q2, .string q3, .string q4, .string q5, .string q6, .string q7, .string q8]) (.int .i64 0)).run Tryz.prog W = .ok (.string q0) W := fun W => by kernel_rfl
      by_cases h3 : q0.size ≤ 3
      case neg =>
        have HNO := hide (show okc = false by rw [HOKC.out, show quB 0 q0 = false by unfold quB; rw [decide_eq_false h3]; rfl]; simp)
        have d3 : decide ((3 : Int) < (q0.size : Int)) = true := decide_eq_true (by omega)
        clear h3
        go_wp2_with (first | (refine wpList_store_blk (b := w.heap.size + 1) (c := #[.int .i64 0, .string ⟨#[]⟩, .int .i64 0, .slice none 0 0, .int .i64 0, .string ⟨#[]⟩, .int .i64 0, .slice none 0 0, .int .i64 0, .string ⟨#[]⟩, .int .i64 0, .slice none 0 0, .int .i64 0, .string ⟨#[]⟩, .int .i64 0, .slice none 0 0, .int .i64 0, .string ⟨#[]⟩, .int .i64 0, .slice none 0 0, .int .i64 0, .string ⟨#[]⟩, .int .i64 0, .slice none 0 0, .string ⟨#[]⟩, .string ⟨#[]⟩, .string ⟨#[]⟩, .string ⟨#[]⟩, .string ⟨#[]⟩, .string ⟨#[]⟩, .string ⟨#[]⟩, .string ⟨#[]⟩, .string ⟨#[]⟩]) (c' := #[.int .i64 0, .string ⟨#[]⟩, .int .i64 0, .slice none 0 0, .int .i64 0, .string ⟨#[]⟩, .int .i64 0, .slice none 0 0, .int .i64 0, .string ⟨#[]⟩, .int .i64 0, .slice none 0 0, .int .i64 0, .string ⟨#[]⟩, .int .i64 0, .slice none 0 0, .int .i64 0, .string ⟨#[]⟩, .int .i64 0, .slice none 0 0, .int .i64 0, .string ⟨#[]⟩, .int .i64 0, .slice none 0 0, .string ⟨#[]⟩, .string ⟨#[]⟩, .string ⟨#[]⟩, .string ⟨#[]⟩, .string ⟨#[]⟩, .string ⟨#[]⟩, .string ⟨#[]⟩, .string ⟨#[]⟩, .string ⟨#[]⟩]) rfl rfl HRB.out rfl rfl (by kernel_rfl) rfl (by kernel_rfl) ?_) | fail)
        refine bodyPost_ret (v := .tuple #[.agg #[.int .i64 0, .string ⟨#[]⟩, .int .i64 0, .slice none 0 0, .int .i64 0, .string ⟨#[]⟩, .int .i64 0, .slice none 0 0, .int .i64 0, .string ⟨#[]⟩, .int .i64 0, .slice none 0 0, .int .i64 0, .string ⟨#[]⟩, .int .i64 0, .slice none 0 0, .int .i64 0, .string ⟨#[]⟩, .int .i64 0, .slice none 0 0, .int .i64 0, .string ⟨#[]⟩, .int .i64 0, .slice none 0 0, .string ⟨#[]⟩, .string ⟨#[]⟩, .string ⟨#[]⟩, .string ⟨#[]⟩, .string ⟨#[]⟩, .string ⟨#[]⟩, .string ⟨#[]⟩, .string ⟨#[]⟩, .string ⟨#[]⟩], .bool false]) (results_blk Tryz.results15 rfl (HRB.out.setRow #[.int .i64 0, .string ⟨#[]⟩, .int .i64 0, .slice none 0 0, .int .i64 0, .string ⟨#[]⟩, .int .i64 0, .slice none 0 0, .int .i64 0, .string ⟨#[]⟩, .int .i64 0, .slice none 0 0, .int .i64 0, .string ⟨#[]⟩, .int .i64 0, .slice none 0 0, .int .i64 0, .string ⟨#[]⟩, .int .i64 0, .slice none 0 0, .int .i64 0, .string ⟨#[]⟩, .int .i64 0, .slice none 0 0, .string ⟨#[]⟩, .string ⟨#[]⟩, .string ⟨#[]⟩, .string ⟨#[]⟩, .string ⟨#[]⟩, .string ⟨#[]⟩, .string ⟨#[]⟩, .string ⟨#[]⟩, .string ⟨#[]⟩]) Tryz.underlying44 rfl (by kernel_rfl)) rfl ?_
        exact ConfP.no HNO.out (below_setRow HBL.out (by omega) _)
      have d3 : decide ((3 : Int) < (q0.size : Int)) = false := decide_eq_false (by omega)
      cases hem : q0.toList.isEmpty with
      | false =>
        have HNO := hide (show okc = false by rw [HOKC.out, show quB 0 q0 = false by unfold quB; rw [hem]; simp]; simp)
        clear h3
        go_wp2_with (first | (refine wpList_store_blk (b := w.heap.size + 1) (c := #[.int .i64 0, .string ⟨#[]⟩, .int .i64 0, .slice none 0 0, .int .i64 0, .string ⟨#[]⟩, .int .i64 0, .slice none 0 0, .int .i64 0, .string ⟨#[]⟩, .int .i64 0, .slice none 0 0, .int .i64 0, .string ⟨#[]⟩, .int .i64 0, .slice none 0 0, .int .i64 0, .string ⟨#[]⟩, .int .i64 0, .slice none 0 0, .int .i64 0, .string ⟨#[]⟩, .int .i64 0, .slice none 0 0, .string ⟨#[]⟩, .string ⟨#[]⟩, .string ⟨#[]⟩, .string ⟨#[]⟩, .string ⟨#[]⟩, .string ⟨#[]⟩, .string ⟨#[]⟩, .string ⟨#[]⟩, .string ⟨#[]⟩]) (c' := #[.int .i64 0, .string ⟨#[]⟩, .int .i64 0, .slice none 0 0, .int .i64 0, .string ⟨#[]⟩, .int .i64 0, .slice none 0 0, .int .i64 0, .string ⟨#[]⟩, .int .i64 0, .slice none 0 0, .int .i64 0, .string ⟨#[]⟩, .int .i64 0, .slice none 0 0, .int .i64 0, .string ⟨#[]⟩, .int .i64 0, .slice none 0 0, .int .i64 0, .string ⟨#[]⟩, .int .i64 0, .slice none 0 0, .string ⟨#[]⟩, .string ⟨#[]⟩, .string ⟨#[]⟩, .string ⟨#[]⟩, .string ⟨#[]⟩, .string ⟨#[]⟩, .string ⟨#[]⟩, .string ⟨#[]⟩, .string ⟨#[]⟩]) rfl rfl HRB.out rfl rfl (by kernel_rfl) rfl (by kernel_rfl) ?_) | fail)
        refine bodyPost_ret (v := .tuple #[.agg #[.int .i64 0, .string ⟨#[]⟩, .int .i64 0, .slice none 0 0, .int .i64 0, .string ⟨#[]⟩, .int .i64 0, .slice none 0 0, .int .i64 0, .string ⟨#[]⟩, .int .i64 0, .slice none 0 0, .int .i64 0, .string ⟨#[]⟩, .int .i64 0, .slice none 0 0, .int .i64 0, .string ⟨#[]⟩, .int .i64 0, .slice none 0 0, .int .i64 0, .string ⟨#[]⟩, .int .i64 0, .slice none 0 0, .string ⟨#[]⟩, .string ⟨#[]⟩, .string ⟨#[]⟩, .string ⟨#[]⟩, .string ⟨#[]⟩, .string ⟨#[]⟩, .string ⟨#[]⟩, .string ⟨#[]⟩, .string ⟨#[]⟩], .bool false]) (results_blk Tryz.results15 rfl (HRB.out.setRow #[.int .i64 0, .string ⟨#[]⟩, .int .i64 0, .slice none 0 0, .int .i64 0, .string ⟨#[]⟩, .int .i64 0, .slice none 0 0, .int .i64 0, .string ⟨#[]⟩, .int .i64 0, .slice none 0 0, .int .i64 0, .string ⟨#[]⟩, .int .i64 0, .slice none 0 0, .int .i64 0, .string ⟨#[]⟩, .int .i64 0, .slice none 0 0, .int .i64 0, .string ⟨#[]⟩, .int .i64 0, .slice none 0 0, .string ⟨#[]⟩, .string ⟨#[]⟩, .string ⟨#[]⟩, .string ⟨#[]⟩, .string ⟨#[]⟩, .string ⟨#[]⟩, .string ⟨#[]⟩, .string ⟨#[]⟩, .string ⟨#[]⟩]) Tryz.underlying44 rfl (by kernel_rfl)) rfl ?_
        exact ConfP.no HNO.out (below_setRow HBL.out (by omega) _)
      | true =>
        cases hlb2 : Tk.labsB q0 with
        | false =>
          have HLB := hide (fun (W : World) => (show Calls Tryz.prog 27 #[.string q0] W (fun e w' => e = .returned (.bool false) ∧ Below W.heap.size W w') by have := Tk.implLabs q0 W HQS.out.1; rw [hlb2] at this; exact this))
          have HNO := hide (show okc = false by rw [HOKC.out, show quB 0 q0 = false by unfold quB; rw [hlb2]; simp]; simp)
          clear h3 hlb2
          go_wp2_with (first | (go_at_call 27; (with_reducible refine (HLB.out _).mono ?_); rintro e wA ⟨rfl, hbA⟩; (have HRB := hide (HRB.out.below hbA)); (have HBL := hide (HBL.out.trans (hbA.mono HBL.out.size)))) | (refine wpList_store_blk (b := w.heap.size + 1) (c := #[.int .i64 0, .string ⟨#[]⟩, .int .i64 0, .slice none 0 0, .int .i64 0, .string ⟨#[]⟩, .int .i64 0, .slice none 0 0, .int .i64 0, .string ⟨#[]⟩, .int .i64 0, .slice none 0 0, .int .i64 0, .string ⟨#[]⟩, .int .i64 0, .slice none 0 0, .int .i64 0, .string ⟨#[]⟩, .int .i64 0, .slice none 0 0, .int .i64 0, .string ⟨#[]⟩, .int .i64 0, .slice none 0 0, .string ⟨#[]⟩, .string ⟨#[]⟩, .string ⟨#[]⟩, .string ⟨#[]⟩, .string ⟨#[]⟩, .string ⟨#[]⟩, .string ⟨#[]⟩, .string ⟨#[]⟩, .string ⟨#[]⟩]) (c' := #[.int .i64 0, .string ⟨#[]⟩, .int .i64 0, .slice none 0 0, .int .i64 0, .string ⟨#[]⟩, .int .i64 0, .slice none 0 0, .int .i64 0, .string ⟨#[]⟩, .int .i64 0, .slice none 0 0, .int .i64 0, .string ⟨#[]⟩, .int .i64 0, .slice none 0 0, .int .i64 0, .string ⟨#[]⟩, .int .i64 0, .slice none 0 0, .int .i64 0, .string ⟨#[]⟩, .int .i64 0, .slice none 0 0, .string ⟨#[]⟩, .string ⟨#[]⟩, .string ⟨#[]⟩, .string ⟨#[]⟩, .string ⟨#[]⟩, .string ⟨#[]⟩, .string ⟨#[]⟩, .string ⟨#[]⟩, .string ⟨#[]⟩]) rfl rfl HRB.out rfl rfl (by kernel_rfl) rfl (by kernel_rfl) ?_) | fail)
          refine bodyPost_ret (v := .tuple #[.agg #[.int .i64 0, .string ⟨#[]⟩, .int .i64 0, .slice none 0 0, .int .i64 0, .string ⟨#[]⟩, .int .i64 0, .slice none 0 0, .int .i64 0, .string ⟨#[]⟩, .int .i64 0, .slice none 0 0, .int .i64 0, .string ⟨#[]⟩, .int .i64 0, .slice none 0 0, .int .i64 0, .string ⟨#[]⟩, .int .i64 0, .slice none 0 0, .int .i64 0, .string ⟨#[]⟩, .int .i64 0, .slice none 0 0, .string ⟨#[]⟩, .string ⟨#[]⟩, .string ⟨#[]⟩, .string ⟨#[]⟩, .string ⟨#[]⟩, .string ⟨#[]⟩, .string ⟨#[]⟩, .string ⟨#[]⟩, .string ⟨#[]⟩], .bool false]) (results_blk Tryz.results15 rfl (HRB.out.setRow #[.int .i64 0, .string ⟨#[]⟩, .int .i64 0, .slice none 0 0, .int .i64 0, .string ⟨#[]⟩, .int .i64 0, .slice none 0 0, .int .i64 0, .string ⟨#[]⟩, .int .i64 0, .slice none 0 0, .int .i64 0, .string ⟨#[]⟩, .int .i64 0, .slice none 0 0, .int .i64 0, .string ⟨#[]⟩, .int .i64 0, .slice none 0 0, .int .i64 0, .string ⟨#[]⟩, .int .i64 0, .slice none 0 0, .string ⟨#[]⟩, .string ⟨#[]⟩, .string ⟨#[]⟩, .string ⟨#[]⟩, .string ⟨#[]⟩, .string ⟨#[]⟩, .string ⟨#[]⟩, .string ⟨#[]⟩, .string ⟨#[]⟩]) Tryz.underlying44 rfl (by kernel_rfl)) rfl ?_
          exact ConfP.no HNO.out (below_setRow HBL.out (by omega) _)
        | true =>
          have HLB := hide (fun (W : World) => (show Calls Tryz.prog 27 #[.string q0] W (fun e w' => e = .returned (.bool true) ∧ Below W.heap.size W w') by have := Tk.implLabs q0 W HQS.out.1; rw [hlb2] at this; exact this))
          have HYES := hide (show quB 0 q0 = true by unfold quB; rw [decide_eq_true h3, hlb2, hem]; rfl)
          clear h3 hlb2
          go_wp2_with (first | (go_at_call 27; (with_reducible refine (HLB.out _).mono ?_); rintro e wA ⟨rfl, hbA⟩; (have HW2 := hide (HW2.out.trans (hbA.mono HW2.out.size)))) | fail)
          go_roundw
          case rel => exact ⟨1, by omega, rfl, HPR.out.step HYES.out, HW2.out⟩
          case measure => simp [intOf]
    | 1, _, hiv, HPR =>
      obtain rfl : _ = Value.int .i64 (1 : Int) := hiv
      have hix : ∀ W : World, (Instr.index ( /- t -/ 42) (.agg #[.string q0, .string q1, .string q2, .string q3, .string q4, .string q5, .string q6, .string q7, .string q8]) (.int .i64 1)).run Tryz.prog W = .ok (.string q1) W := fun W => by kernel_rfl
      by_cases h3 : q1.size ≤ 3
      case neg =>
        have HNO := hide (show okc = false by rw [HOKC.out, show quB 1 q1 = false by unfold quB; rw [decide_eq_false h3]; rfl]; simp)
        have d3 : decide ((3 : Int) < (q1.size : Int)) = true := decide_eq_true (by omega)
        clear h3
        go_wp2_with (first | (refine wpList_store_blk (b := w.heap.size + 1) (c := #[.int .i64 0, .string ⟨#[]⟩, .int .i64 0, .slice none 0 0, .int .i64 0, .string ⟨#[]⟩, .int .i64 0, .slice none 0 0, .int .i64 0, .string ⟨#[]⟩, .int .i64 0, .slice none 0 0, .int .i64 0, .string ⟨#[]⟩, .int .i64 0, .slice none 0 0, .int .i64 0, .string ⟨#[]⟩, .int .i64 0, .slice none 0 0, .int .i64 0, .string ⟨#[]⟩, .int .i64 0, .slice none 0 0, .string ⟨#[]⟩, .string ⟨#[]⟩, .string ⟨#[]⟩, .string ⟨#[]⟩, .string ⟨#[]⟩, .string ⟨#[]⟩, .string ⟨#[]⟩, .string ⟨#[]⟩, .string ⟨#[]⟩]) (c' := #[.int .i64 0, .string ⟨#[]⟩, .int .i64 0, .slice none 0 0, .int .i64 0, .string ⟨#[]⟩, .int .i64 0, .slice none 0 0, .int .i64 0, .string ⟨#[]⟩, .int .i64 0, .slice none 0 0, .int .i64 0, .string ⟨#[]⟩, .int .i64 0, .slice none 0 0, .int .i64 0, .string ⟨#[]⟩, .int .i64 0, .slice none 0 0, .int .i64 0, .string ⟨#[]⟩, .int .i64 0, .slice none 0 0, .string ⟨#[]⟩, .string ⟨#[]⟩, .string ⟨#[]⟩, .string ⟨#[]⟩, .string ⟨#[]⟩, .string ⟨#[]⟩, .string ⟨#[]⟩, .string ⟨#[]⟩, .string ⟨#[]⟩]) rfl rfl HRB.out rfl rfl (by kernel_rfl) rfl (by kernel_rfl) ?_) | fail)
        refine bodyPost_ret (v := .tuple #[.agg #[.int .i64 0, .string ⟨#[]⟩, .int .i64 0, .slice none 0 0, .int .i64 0, .string ⟨#[]⟩, .int .i64 0, .slice none 0 0, .int .i64 0, .string ⟨#[]⟩, .int .i64 0, .slice none 0 0, .int .i64 0, .string ⟨#[]⟩, .int .i64 0, .slice none 0 0, .int .i64 0, .string ⟨#[]⟩, .int .i64 0, .slice none 0 0, .int .i64 0, .string ⟨#[]⟩, .int .i64 0, .slice none 0 0, .string ⟨#[]⟩, .string ⟨#[]⟩, .string ⟨#[]⟩, .string ⟨#[]⟩, .string ⟨#[]⟩, .string ⟨#[]⟩, .string ⟨#[]⟩, .string ⟨#[]⟩, .string ⟨#[]⟩], .bool false]) (results_blk Tryz.results15 rfl (HRB.out.setRow #[.int .i64 0, .string ⟨#[]⟩, .int .i64 0, .slice none 0 0, .int .i64 0, .string ⟨#[]⟩, .int .i64 0, .slice none 0 0, .int .i64 0, .string ⟨#[]⟩, .int .i64 0, .slice none 0 0, .int .i64 0, .string ⟨#[]⟩, .int .i64 0, .slice none 0 0, .int .i64 0, .string ⟨#[]⟩, .int .i64 0, .slice none 0 0, .int .i64 0, .string ⟨#[]⟩, .int .i64 0, .slice none 0 0, .string ⟨#[]⟩, .string ⟨#[]⟩, .string ⟨#[]⟩, .string ⟨#[]⟩, .string ⟨#[]⟩, .string ⟨#[]⟩, .string ⟨#[]⟩, .string ⟨#[]⟩, .string ⟨#[]⟩]) Tryz.underlying44 rfl (by kernel_rfl)) rfl ?_
        exact ConfP.no HNO.out (below_setRow HBL.out (by omega) _)
      have d3 : decide ((3 : Int) < (q1.size : Int)) = false := decide_eq_false (by omega)
      cases hlb2 : Tk.labsB q1 with
      | false =>
        have HLB := hide (fun (W : World) => (show Calls Tryz.prog 27 #[.string q1] W (fun e w' => e = .returned (.bool false) ∧ Below W.heap.size W w') by have := Tk.implLabs q1 W HQS.out.2.1; rw [hlb2] at this; exact this))
        have HNO := hide (show okc = false by rw [HOKC.out, show quB 1 q1 = false by unfold quB; rw [hlb2]; simp]; simp)
        clear h3 hlb2
        go_wp2_with (first | (go_at_call 27; (with_reducible refine (HLB.out _).mono ?_); rintro e wA ⟨rfl, hbA⟩; (have HRB := hide (HRB.out.below hbA)); (have HBL := hide (HBL.out.trans (hbA.mono HBL.out.size)))) | (refine wpList_store_blk (b := w.heap.size + 1) (c := #[.int .i64 0, .string ⟨#[]⟩, .int .i64 0, .slice none 0 0, .int .i64 0, .string ⟨#[]⟩, .int .i64 0, .slice none 0 0, .int .i64 0, .string ⟨#[]⟩, .int .i64 0, .slice none 0 0, .int .i64 0, .string ⟨#[]⟩, .int .i64 0, .slice none 0 0, .int .i64 0, .string ⟨#[]⟩, .int .i64 0, .slice none 0 0, .int .i64 0, .string ⟨#[]⟩, .int .i64 0, .slice none 0 0, .string ⟨#[]⟩, .string ⟨#[]⟩, .string ⟨#[]⟩, .string ⟨#[]⟩, .string ⟨#[]⟩, .string ⟨#[]⟩, .string ⟨#[]⟩, .string ⟨#[]⟩, .string ⟨#[]⟩]) (c' := #[.int .i64 0, .string ⟨#[]⟩, .int .i64 0, .slice none 0 0, .int .i64 0, .string ⟨#[]⟩, .int .i64 0, .slice none 0 0, .int .i64 0, .string ⟨#[]⟩, .int .i64 0, .slice none 0 0, .int .i64 0, .string ⟨#[]⟩, .int .i64 0, .slice none 0 0, .int .i64 0, .string ⟨#[]⟩, .int .i64 0, .slice none 0 0, .int .i64 0, .string ⟨#[]⟩, .int .i64 0, .slice none 0 0, .string ⟨#[]⟩, .string ⟨#[]⟩, .string ⟨#[]⟩, .string ⟨#[]⟩, .string ⟨#[]⟩, .string ⟨#[]⟩, .string ⟨#[]⟩, .string ⟨#[]⟩, .string ⟨#[]⟩]) rfl rfl HRB.out rfl rfl (by kernel_rfl) rfl (by kernel_rfl) ?_) | fail)
        refine bodyPost_ret (v := .tuple #[.agg #[.int .i64 0, .string ⟨#[]⟩, .int .i64 0, .slice none 0 0, .int .i64 0, .string ⟨#[]⟩, .int .i64 0, .slice none 0 0, .int .i64 0, .string ⟨#[]⟩, .int .i64 0, .slice none 0 0, .int .i64 0, .string ⟨#[]⟩, .int .i64 0, .slice none 0 0, .int .i64 0, .string ⟨#[]⟩, .int .i64 0, .slice none 0 0, .int .i64 0, .string ⟨#[]⟩, .int .i64 0, .slice none 0 0, .string ⟨#[]⟩, .string ⟨#[]⟩, .string ⟨#[]⟩, .string ⟨#[]⟩, .string ⟨#[]⟩, .string ⟨#[]⟩, .string ⟨#[]⟩, .string ⟨#[]⟩, .string ⟨#[]⟩], .bool false]) (results_blk Tryz.results15 rfl (HRB.out.setRow #[.int .i64 0, .string ⟨#[]⟩, .int .i64 0, .slice none 0 0, .int .i64 0, .string ⟨#[]⟩, .int .i64 0, .slice none 0 0, .int .i64 0, .string ⟨#[]⟩, .int .i64 0, .slice none 0 0, .int .i64 0, .string ⟨#[]⟩, .int .i64 0, .slice none 0 0, .int .i64 0, .string ⟨#[]⟩, .int .i64 0, .slice none 0 0, .int .i64 0, .string ⟨#[]⟩, .int .i64 0, .slice none 0 0, .string ⟨#[]⟩, .string ⟨#[]⟩, .string ⟨#[]⟩, .string ⟨#[]⟩, .string ⟨#[]⟩, .string ⟨#[]⟩, .string ⟨#[]⟩, .string ⟨#[]⟩, .string ⟨#[]⟩]) Tryz.underlying44 rfl (by kernel_rfl)) rfl ?_
        exact ConfP.no HNO.out (below_setRow HBL.out (by omega) _)
      | true =>
        have HLB := hide (fun (W : World) => (show Calls Tryz.prog 27 #[.string q1] W (fun e w' => e = .returned (.bool true) ∧ Below W.heap.size W w') by have := Tk.implLabs q1 W HQS.out.2.1; rw [hlb2] at this; exact this))
        have HYES := hide (show quB 1 q1 = true by unfold quB; rw [decide_eq_true h3, hlb2]; rfl)
        clear h3 hlb2
        go_wp2_with (first | (go_at_call 27; (with_reducible refine (HLB.out _).mono ?_); rintro e wA ⟨rfl, hbA⟩; (have HW2 := hide (HW2.out.trans (hbA.mono HW2.out.size)))) | fail)
        go_roundw
        case rel => exact ⟨2, by omega, rfl, HPR.out.step HYES.out, HW2.out⟩
        case measure => simp [intOf]
    | 2, _, hiv, HPR =>
      obtain rfl : _ = Value.int .i64 (2 : Int) := hiv
      have hix : ∀ W : World, (Instr.index ( /- t -/ 42) (.agg #[.string q0, .string q1, .string q2, .string q3, .string q4, .string q5, .string q6, .string q7, .string q8]) (.int .i64 2)).run Tryz.prog W = .ok (.string q2) W := fun W => by kernel_rfl
      by_cases h3 : q2.size ≤ 3
      case neg =>
        have HNO := hide (show okc = false by rw [HOKC.out, show quB 2 q2 = false by unfold quB; rw [decide_eq_false h3]; rfl]; simp)
        have d3 : decide ((3 : Int) < (q2.size : Int)) = true := decide_eq_true (by omega)
        clear h3
        go_wp2_with (first | (refine wpList_store_blk (b := w.heap.size + 1) (c := #[.int .i64 0, .string ⟨#[]⟩, .int .i64 0, .slice none 0 0, .int .i64 0, .string ⟨#[]⟩, .int .i64 0, .slice none 0 0, .int .i64 0, .string ⟨#[]⟩, .int .i64 0, .slice none 0 0, .int .i64 0, .string ⟨#[]⟩, .int .i64 0, .slice none 0 0, .int .i64 0, .string ⟨#[]⟩, .int .i64 0, .slice none 0 0, .int .i64 0, .string ⟨#[]⟩, .int .i64 0, .slice none 0 0, .string ⟨#[]⟩, .string ⟨#[]⟩, .string ⟨#[]⟩, .string ⟨#[]⟩, .string ⟨#[]⟩, .string ⟨#[]⟩, .string ⟨#[]⟩, .string ⟨#[]⟩, .string ⟨#[]⟩]) (c' := #[.int .i64 0, .string ⟨#[]⟩, .int .i64 0, .slice none 0 0, .int .i64 0, .string ⟨#[]⟩, .int .i64 0, .slice none 0 0, .int .i64 0, .string ⟨#[]⟩, .int .i64 0, .slice none 0 0, .int .i64 0, .string ⟨#[]⟩, .int .i64 0, .slice none 0 0, .int .i64 0, .string ⟨#[]⟩, .int .i64 0, .slice none 0 0, .int .i64 0, .string ⟨#[]⟩, .int .i64 0, .slice none 0 0, .string ⟨#[]⟩, .string ⟨#[]⟩, .string ⟨#[]⟩, .string ⟨#[]⟩, .string ⟨#[]⟩, .string ⟨#[]⟩, .string ⟨#[]⟩, .string ⟨#[]⟩, .string ⟨#[]⟩]) rfl rfl HRB.out rfl rfl (by kernel_rfl) rfl (by kernel_rfl) ?_) | fail)
        refine bodyPost_ret (v := .tuple #[.agg #[.int .i64 0, .string ⟨#[]⟩, .int .i64 0, .slice none 0 0, .int .i64 0, .string ⟨#[]⟩, .int .i64 0, .slice none 0 0, .int .i64 0, .string ⟨#[]⟩, .int .i64 0, .slice none 0 0, .int .i64 0, .string ⟨#[]⟩, .int .i64 0, .slice none 0 0, .int .i64 0, .string ⟨#[]⟩, .int .i64 0, .slice none 0 0, .int .i64 0, .string ⟨#[]⟩, .int .i64 0, .slice none 0 0, .string ⟨#[]⟩, .string ⟨#[]⟩, .string ⟨#[]⟩, .string ⟨#[]⟩, .string ⟨#[]⟩, .string ⟨#[]⟩, .string ⟨#[]⟩, .string ⟨#[]⟩, .string ⟨#[]⟩], .bool false]) (results_blk Tryz.results15 rfl (HRB.out.setRow #[.int .i64 0, .string ⟨#[]⟩, .int .i64 0, .slice none 0 0, .int .i64 0, .string ⟨#[]⟩, .int .i64 0, .slice none 0 0, .int .i64 0, .string ⟨#[]⟩, .int .i64 0, .slice none 0 0, .int .i64 0, .string ⟨#[]⟩, .int .i64 0, .slice none 0 0, .int .i64 0, .string ⟨#[]⟩, .int .i64 0, .slice none 0 0, .int .i64 0, .string ⟨#[]⟩, .int .i64 0, .slice none 0 0, .string ⟨#[]⟩, .string ⟨#[]⟩, .string ⟨#[]⟩, .string ⟨#[]⟩, .string ⟨#[]⟩, .string ⟨#[]⟩, .string ⟨#[]⟩, .string ⟨#[]⟩, .string ⟨#[]⟩]) Tryz.underlying44 rfl (by kernel_rfl)) rfl ?_
        exact ConfP.no HNO.out (below_setRow HBL.out (by omega) _)
      have d3 : decide ((3 : Int) < (q2.size : Int)) = false := decide_eq_false (by omega)
      cases hlb2 : Tk.labsB q2 with
      | false =>
        have HLB := hide (fun (W : World) => (show Calls Tryz.prog 27 #[.string q2] W (fun e w' => e = .returned (.bool false) ∧ Below W.heap.size W w') by have := Tk.implLabs q2 W HQS.out.2.2.1; rw [hlb2] at this; exact this))
        have HNO := hide (show okc = false by rw [HOKC.out, show quB 2 q2 = false by unfold quB; rw [hlb2]; simp]; simp)
        clear h3 hlb2
        go_wp2_with (first | (go_at_call 27; (with_reducible refine (HLB.out _).mono ?_); rintro e wA ⟨rfl, hbA⟩; (have HRB := hide (HRB.out.below hbA)); (have HBL := hide (HBL.out.trans (hbA.mono HBL.out.size)))) | (refine wpList_store_blk (b := w.heap.size + 1) (c := #[.int .i64 0, .string ⟨#[]⟩, .int .i64 0, .slice none 0 0, .int .i64 0, .string ⟨#[]⟩, .int .i64 0, .slice none 0 0, .int .i64 0, .string ⟨#[]⟩, .int .i64 0, .slice none 0 0, .int .i64 0, .string ⟨#[]⟩, .int .i64 0, .slice none 0 0, .int .i64 0, .string ⟨#[]⟩, .int .i64 0, .slice none 0 0, .int .i64 0, .string ⟨#[]⟩, .int .i64 0, .slice none 0 0, .string ⟨#[]⟩, .string ⟨#[]⟩, .string ⟨#[]⟩, .string ⟨#[]⟩, .string ⟨#[]⟩, .string ⟨#[]⟩, .string ⟨#[]⟩, .string ⟨#[]⟩, .string ⟨#[]⟩]) (c' := #[.int .i64 0, .string ⟨#[]⟩, .int .i64 0, .slice none 0 0, .int .i64 0, .string ⟨#[]⟩, .int .i64 0, .slice none 0 0, .int .i64 0, .string ⟨#[]⟩, .int .i64 0, .slice none 0 0, .int .i64 0, .string ⟨#[]⟩, .int .i64 0, .slice none 0 0, .int .i64 0, .string ⟨#[]⟩, .int .i64 0, .slice none 0 0, .int .i64 0, .string ⟨#[]⟩, .int .i64 0, .slice none 0 0, .string ⟨#[]⟩, .string ⟨#[]⟩, .string ⟨#[]⟩, .string ⟨#[]⟩, .string ⟨#[]⟩, .string ⟨#[]⟩, .string ⟨#[]⟩, .string ⟨#[]⟩, .string ⟨#[]⟩]) rfl rfl HRB.out rfl rfl (by kernel_rfl) rfl (by kernel_rfl) ?_) | fail)
        refine bodyPost_ret (v := .tuple #[.agg #[.int .i64 0, .string ⟨#[]⟩, .int .i64 0, .slice none 0 0, .int .i64 0, .string ⟨#[]⟩, .int .i64 0, .slice none 0 0, .int .i64 0, .string ⟨#[]⟩, .int .i64 0, .slice none 0 0, .int .i64 0, .string ⟨#[]⟩, .int .i64 0, .slice none 0 0, .int .i64 0, .string ⟨#[]⟩, .int .i64 0, .slice none 0 0, .int .i64 0, .string ⟨#[]⟩, .int .i64 0, .slice none 0 0, .string ⟨#[]⟩, .string ⟨#[]⟩, .string ⟨#[]⟩, .string ⟨#[]⟩, .string ⟨#[]⟩, .string ⟨#[]⟩, .string ⟨#[]⟩, .string ⟨#[]⟩, .string ⟨#[]⟩], .bool false]) (results_blk Tryz.results15 rfl (HRB.out.setRow #[.int .i64 0, .string ⟨#[]⟩, .int .i64 0, .slice none 0 0, .int .i64 0, .string ⟨#[]⟩, .int .i64 0, .slice none 0 0, .int .i64 0, .string ⟨#[]⟩, .int .i64 0, .slice none 0 0, .int .i64 0, .string ⟨#[]⟩, .int .i64 0, .slice none 0 0, .int .i64 0, .string ⟨#[]⟩, .int .i64 0, .slice none 0 0, .int .i64 0, .string ⟨#[]⟩, .int .i64 0, .slice none 0 0, .string ⟨#[]⟩, .string ⟨#[]⟩, .string ⟨#[]⟩, .string ⟨#[]⟩, .string ⟨#[]⟩, .string ⟨#[]⟩, .string ⟨#[]⟩, .string ⟨#[]⟩, .string ⟨#[]⟩]) Tryz.underlying44 rfl (by kernel_rfl)) rfl ?_
        exact ConfP.no HNO.out (below_setRow HBL.out (by omega) _)
      | true =>
        have HLB := hide (fun (W : World) => (show Calls Tryz.prog 27 #[.string q2] W (fun e w' => e = .returned (.bool true) ∧ Below W.heap.size W w') by have := Tk.implLabs q2 W HQS.out.2.2.1; rw [hlb2] at this; exact this))
        have HYES := hide (show quB 2 q2 = true by unfold quB; rw [decide_eq_true h3, hlb2]; rfl)
        clear h3 hlb2
        go_wp2_with (first | (go_at_call 27; (with_reducible refine (HLB.out _).mono ?_); rintro e wA ⟨rfl, hbA⟩; (have HW2 := hide (HW2.out.trans (hbA.mono HW2.out.size)))) | fail)
        go_roundw
        case rel => exact ⟨3, by omega, rfl, HPR.out.step HYES.out, HW2.out⟩
        case measure => simp [intOf]
    | 3, _, hiv, HPR =>
      obtain rfl : _ = Value.int .i64 (3 : Int) := hiv
      have hix : ∀ W : World, (Instr.index ( /- t -/ 42) (.agg #[.string q0, .string q1, .string q2, .string q3, .string q4, .string q5, .string q6, .string q7, .string q8]) (.int .i64 3)).run Tryz.prog W = .ok (.string q3) W := fun W => by kernel_rfl
      by_cases h3 : q3.size ≤ 3
      case neg =>
        have HNO := hide (show okc = false by rw [HOKC.out, show quB 3 q3 = false by unfold quB; rw [decide_eq_false h3]; rfl]; simp)
        have d3 : decide ((3 : Int) < (q3.size : Int)) = true := decide_eq_true (by omega)
        clear h3
        go_wp2_with (first | (refine wpList_store_blk (b := w.heap.size + 1) (c := #[.int .i64 0, .string ⟨#[]⟩, .int .i64 0, .slice none 0 0, .int .i64 0, .string ⟨#[]⟩, .int .i64 0, .slice none 0 0, .int .i64 0, .string ⟨#[]⟩, .int .i64 0, .slice none 0 0, .int .i64 0, .string ⟨#[]⟩, .int .i64 0, .slice none 0 0, .int .i64 0, .string ⟨#[]⟩, .int .i64 0, .slice none 0 0, .int .i64 0, .string ⟨#[]⟩, .int .i64 0, .slice none 0 0, .string ⟨#[]⟩, .string ⟨#[]⟩, .string ⟨#[]⟩, .string ⟨#[]⟩, .string ⟨#[]⟩, .string ⟨#[]⟩, .string ⟨#[]⟩, .string ⟨#[]⟩, .string ⟨#[]⟩]) (c' := #[.int .i64 0, .string ⟨#[]⟩, .int .i64 0, .slice none 0 0, .int .i64 0, .string ⟨#[]⟩, .int .i64 0, .slice none 0 0, .int .i64 0, .string ⟨#[]⟩, .int .i64 0, .slice none 0 0, .int .i64 0, .string ⟨#[]⟩, .int .i64 0, .slice none 0 0, .int .i64 0, .string ⟨#[]⟩, .int .i64 0, .slice none 0 0, .int .i64 0, .string ⟨#[]⟩, .int .i64 0, .slice none 0 0, .string ⟨#[]⟩, .string ⟨#[]⟩, .string ⟨#[]⟩, .string ⟨#[]⟩, .string ⟨#[]⟩, .string ⟨#[]⟩, .string ⟨#[]⟩, .string ⟨#[]⟩, .string ⟨#[]⟩]) rfl rfl HRB.out rfl rfl (by kernel_rfl) rfl (by kernel_rfl) ?_) | fail)
        refine bodyPost_ret (v := .tuple #[.agg #[.int .i64 0, .string ⟨#[]⟩, .int .i64 0, .slice none 0 0, .int .i64 0, .string ⟨#[]⟩, .int .i64 0, .slice none 0 0, .int .i64 0, .string ⟨#[]⟩, .int .i64 0, .slice none 0 0, .int .i64 0, .string ⟨#[]⟩, .int .i64 0, .slice none 0 0, .int .i64 0, .string ⟨#[]⟩, .int .i64 0, .slice none 0 0, .int .i64 0, .string ⟨#[]⟩, .int .i64 0, .slice none 0 0, .string ⟨#[]⟩, .string ⟨#[]⟩, .string ⟨#[]⟩, .string ⟨#[]⟩, .string ⟨#[]⟩, .string ⟨#[]⟩, .string ⟨#[]⟩, .string ⟨#[]⟩, .string ⟨#[]⟩], .bool false]) (results_blk Tryz.results15 rfl (HRB.out.setRow #[.int .i64 0, .string ⟨#[]⟩, .int .i64 0, .slice none 0 0, .int .i64 0, .string ⟨#[]⟩, .int .i64 0, .slice none 0 0, .int .i64 0, .string ⟨#[]⟩, .int .i64 0, .slice none 0 0, .int .i64 0, .string ⟨#[]⟩, .int .i64 0, .slice none 0 0, .int .i64 0, .string ⟨#[]⟩, .int .i64 0, .slice none 0 0, .int .i64 0, .string ⟨#[]⟩, .int .i64 0, .slice none 0 0, .string ⟨#[]⟩, .string ⟨#[]⟩, .string ⟨#[]⟩, .string ⟨#[]⟩, .string ⟨#[]⟩, .string ⟨#[]⟩, .string ⟨#[]⟩, .string ⟨#[]⟩, .string ⟨#[]⟩]) Tryz.underlying44 rfl (by kernel_rfl)) rfl ?_
        exact ConfP.no HNO.out (below_setRow HBL.out (by omega) _)
      have d3 : decide ((3 : Int) < (q3.size : Int)) = false := decide_eq_false (by omega)
      cases hlb2 : Tk.labsB q3 with
      | false =>
        have HLB := hide (fun (W : World) => (show Calls Tryz.prog 27 #[.string q3] W (fun e w' => e = .returned (.bool false) ∧ Below W.heap.size W w') by have := Tk.implLabs q3 W HQS.out.2.2.2.1; rw [hlb2] at this; exact this))
        have HNO := hide (show okc = false by rw [HOKC.out, show quB 3 q3 = false by unfold quB; rw [hlb2]; simp]; simp)
        clear h3 hlb2
        go_wp2_with (first | (go_at_call 27; (with_reducible refine (HLB.out _).mono ?_); rintro e wA ⟨rfl, hbA⟩; (have HRB := hide (HRB.out.below hbA)); (have HBL := hide (HBL.out.trans (hbA.mono HBL.out.size)))) | (refine wpList_store_blk (b := w.heap.size + 1) (c := #[.int .i64 0, .string ⟨#[]⟩, .int .i64 0, .slice none 0 0, .int .i64 0, .string ⟨#[]⟩, .int .i64 0, .slice none 0 0, .int .i64 0, .string ⟨#[]⟩, .int .i64 0, .slice none 0 0, .int .i64 0, .string ⟨#[]⟩, .int .i64 0, .slice none 0 0, .int .i64 0, .string ⟨#[]⟩, .int .i64 0, .slice none 0 0, .int .i64 0, .string ⟨#[]⟩, .int .i64 0, .slice none 0 0, .string ⟨#[]⟩, .string ⟨#[]⟩, .string ⟨#[]⟩, .string ⟨#[]⟩, .string ⟨#[]⟩, .string ⟨#[]⟩, .string ⟨#[]⟩, .string ⟨#[]⟩, .string ⟨#[]⟩]) (c' := #[.int .i64 0, .string ⟨#[]⟩, .int .i64 0, .slice none 0 0, .int .i64 0, .string ⟨#[]⟩, .int .i64 0, .slice none 0 0, .int .i64 0, .string ⟨#[]⟩, .int .i64 0, .slice none 0 0, .int .i64 0, .string ⟨#[]⟩, .int .i64 0, .slice none 0 0, .int .i64 0, .string ⟨#[]⟩, .int .i64 0, .slice none 0 0, .int .i64 0, .string ⟨#[]⟩, .int .i64 0, .slice none 0 0, .string ⟨#[]⟩, .string ⟨#[]⟩, .string ⟨#[]⟩, .string ⟨#[]⟩, .string ⟨#[]⟩, .string ⟨#[]⟩, .string ⟨#[]⟩, .string ⟨#[]⟩, .string ⟨#[]⟩]) rfl rfl HRB.out rfl rfl (by kernel_rfl) rfl (by kernel_rfl) ?_) | fail)
        refine bodyPost_ret (v := .tuple #[.agg #[.int .i64 0, .string ⟨#[]⟩, .int .i64 0, .slice none 0 0, .int .i64 0, .string ⟨#[]⟩, .int .i64 0, .slice none 0 0, .int .i64 0, .string ⟨#[]⟩, .int .i64 0, .slice none 0 0, .int .i64 0, .string ⟨#[]⟩, .int .i64 0, .slice none 0 0, .int .i64 0, .string ⟨#[]⟩, .int .i64 0, .slice none 0 0, .int .i64 0, .string ⟨#[]⟩, .int .i64 0, .slice none 0 0, .string ⟨#[]⟩, .string ⟨#[]⟩, .string ⟨#[]⟩, .string ⟨#[]⟩, .string ⟨#[]⟩, .string ⟨#[]⟩, .string ⟨#[]⟩, .string ⟨#[]⟩, .string ⟨#[]⟩], .bool false]) (results_blk Tryz.results15 rfl (HRB.out.setRow #[.int .i64 0, .string ⟨#[]⟩, .int .i64 0, .slice none 0 0, .int .i64 0, .string ⟨#[]⟩, .int .i64 0, .slice none 0 0, .int .i64 0, .string ⟨#[]⟩, .int .i64 0, .slice none 0 0, .int .i64 0, .string ⟨#[]⟩, .int .i64 0, .slice none 0 0, .int .i64 0, .string ⟨#[]⟩, .int .i64 0, .slice none 0 0, .int .i64 0, .string ⟨#[]⟩, .int .i64 0, .slice none 0 0, .string ⟨#[]⟩, .string ⟨#[]⟩, .string ⟨#[]⟩, .string ⟨#[]⟩, .string ⟨#[]⟩, .string ⟨#[]⟩, .string ⟨#[]⟩, .string ⟨#[]⟩, .string ⟨#[]⟩]) Tryz.underlying44 rfl (by kernel_rfl)) rfl ?_
        exact ConfP.no HNO.out (below_setRow HBL.out (by omega) _)
      | true =>
        have HLB := hide (fun (W : World) => (show Calls Tryz.prog 27 #[.string q3] W (fun e w' => e = .returned (.bool true) ∧ Below W.heap.size W w') by have := Tk.implLabs q3 W HQS.out.2.2.2.1; rw [hlb2] at this; exact this))
        have HYES := hide (show quB 3 q3 = true by unfold quB; rw [decide_eq_true h3, hlb2]; rfl)
        clear h3 hlb2
        go_wp2_with (first | (go_at_call 27; (with_reducible refine (HLB.out _).mono ?_); rintro e wA ⟨rfl, hbA⟩; (have HW2 := hide (HW2.out.trans (hbA.mono HW2.out.size)))) | fail)
        go_roundw
        case rel => exact ⟨4, by omega, rfl, HPR.out.step HYES.out, HW2.out⟩
        case measure => simp [intOf]
    | 4, _, hiv, HPR =>
      obtain rfl : _ = Value.int .i64 (4 : Int) := hiv
      have hix : ∀ W : World, (Instr.index ( /- t -/ 42) (.agg #[.string q0, .string q1, .string q2, .string q3, .string q4, .string q5, .string q6, .string q7, .string q8]) (.int .i64 4)).run Tryz.prog W = .ok (.string q4) W := fun W => by kernel_rfl
      by_cases h3 : q4.size ≤ 3
      case neg =>
        have HNO := hide (show okc = false by rw [HOKC.out, show quB 4 q4 = false by unfold quB; rw [decide_eq_false h3]; rfl]; simp)
        have d3 : decide ((3 : Int) < (q4.size : Int)) = true := decide_eq_true (by omega)
        clear h3
        go_wp2_with (first | (refine wpList_store_blk (b := w.heap.size + 1) (c := #[.int .i64 0, .string ⟨#[]⟩, .int .i64 0, .slice none 0 0, .int .i64 0, .string ⟨#[]⟩, .int .i64 0, .slice none 0 0, .int .i64 0, .string ⟨#[]⟩, .int .i64 0, .slice none 0 0, .int .i64 0, .string ⟨#[]⟩, .int .i64 0, .slice none 0 0, .int .i64 0, .string ⟨#[]⟩, .int .i64 0, .slice none 0 0, .int .i64 0, .string ⟨#[]⟩, .int .i64 0, .slice none 0 0, .string ⟨#[]⟩, .string ⟨#[]⟩, .string ⟨#[]⟩, .string ⟨#[]⟩, .string ⟨#[]⟩, .string ⟨#[]⟩, .string ⟨#[]⟩, .string ⟨#[]⟩, .string ⟨#[]⟩]) (c' := #[.int .i64 0, .string ⟨#[]⟩, .int .i64 0, .slice none 0 0, .int .i64 0, .string ⟨#[]⟩, .int .i64 0, .slice none 0 0, .int .i64 0, .string ⟨#[]⟩, .int .i64 0, .slice none 0 0, .int .i64 0, .string ⟨#[]⟩, .int .i64 0, .slice none 0 0, .int .i64 0, .string ⟨#[]⟩, .int .i64 0, .slice none 0 0, .int .i64 0, .string ⟨#[]⟩, .int .i64 0, .slice none 0 0, .string ⟨#[]⟩, .string ⟨#[]⟩, .string ⟨#[]⟩, .string ⟨#[]⟩, .string ⟨#[]⟩, .string ⟨#[]⟩, .string ⟨#[]⟩, .string ⟨#[]⟩, .string ⟨#[]⟩]) rfl rfl HRB.out rfl rfl (by kernel_rfl) rfl (by kernel_rfl) ?_) | fail)
        refine bodyPost_ret (v := .tuple #[.agg #[.int .i64 0, .string ⟨#[]⟩, .int .i64 0, .slice none 0 0, .int .i64 0, .string ⟨#[]⟩, .int .i64 0, .slice none 0 0, .int .i64 0, .string ⟨#[]⟩, .int .i64 0, .slice none 0 0, .int .i64 0, .string ⟨#[]⟩, .int .i64 0, .slice none 0 0, .int .i64 0, .string ⟨#[]⟩, .int .i64 0, .slice none 0 0, .int .i64 0, .string ⟨#[]⟩, .int .i64 0, .slice none 0 0, .string ⟨#[]⟩, .string ⟨#[]⟩, .string ⟨#[]⟩, .string ⟨#[]⟩, .string ⟨#[]⟩, .string ⟨#[]⟩, .string ⟨#[]⟩, .string ⟨#[]⟩, .string ⟨#[]⟩], .bool false]) (results_blk Tryz.results15 rfl (HRB.out.setRow #[.int .i64 0, .string ⟨#[]⟩, .int .i64 0, .slice none 0 0, .int .i64 0, .string ⟨#[]⟩, .int .i64 0, .slice none 0 0, .int .i64 0, .string ⟨#[]⟩, .int .i64 0, .slice none 0 0, .int .i64 0, .string ⟨#[]⟩, .int .i64 0, .slice none 0 0, .int .i64 0, .string ⟨#[]⟩, .int .i64 0, .slice none 0 0, .int .i64 0, .string ⟨#[]⟩, .int .i64 0, .slice none 0 0, .string ⟨#[]⟩, .string ⟨#[]⟩, .string ⟨#[]⟩, .string ⟨#[]⟩, .string ⟨#[]⟩, .string ⟨#[]⟩, .string ⟨#[]⟩, .string ⟨#[]⟩, .string ⟨#[]⟩]) Tryz.underlying44 rfl (by kernel_rfl)) rfl ?_
        exact ConfP.no HNO.out (below_setRow HBL.out (by omega) _)
      have d3 : decide ((3 : Int) < (q4.size : Int)) = false := decide_eq_false (by omega)
      cases hem : q4.toList.isEmpty with
      | false =>
        have HNO := hide (show okc = false by rw [HOKC.out, show quB 4 q4 = false by unfold quB; rw [hem]; simp]; simp)
        clear h3
        go_wp2_with (first | (refine wpList_store_blk (b := w.heap.size + 1) (c := #[.int .i64 0, .string ⟨#[]⟩, .int .i64 0, .slice none 0 0, .int .i64 0, .string ⟨#[]⟩, .int .i64 0, .slice none 0 0, .int .i64 0, .string ⟨#[]⟩, .int .i64 0, .slice none 0 0, .int .i64 0, .string ⟨#[]⟩, .int .i64 0, .slice none 0 0, .int .i64 0, .string ⟨#[]⟩, .int .i64 0, .slice none 0 0, .int .i64 0, .string ⟨#[]⟩, .int .i64 0, .slice none 0 0, .string ⟨#[]⟩, .string ⟨#[]⟩, .string ⟨#[]⟩, .string ⟨#[]⟩, .string ⟨#[]⟩, .string ⟨#[]⟩, .string ⟨#[]⟩, .string ⟨#[]⟩, .string ⟨#[]⟩]) (c' := #[.int .i64 0, .string ⟨#[]⟩, .int .i64 0, .slice none 0 0, .int .i64 0, .string ⟨#[]⟩, .int .i64 0, .slice none 0 0, .int .i64 0, .string ⟨#[]⟩, .int .i64 0, .slice none 0 0, .int .i64 0, .string ⟨#[]⟩, .int .i64 0, .slice none 0 0, .int .i64 0, .string ⟨#[]⟩, .int .i64 0, .slice none 0 0, .int .i64 0, .string ⟨#[]⟩, .int .i64 0, .slice none 0 0, .string ⟨#[]⟩, .string ⟨#[]⟩, .string ⟨#[]⟩, .string ⟨#[]⟩, .string ⟨#[]⟩, .string ⟨#[]⟩, .string ⟨#[]⟩, .string ⟨#[]⟩, .string ⟨#[]⟩]) rfl rfl HRB.out rfl rfl (by kernel_rfl) rfl (by kernel_rfl) ?_) | fail)
        refine bodyPost_ret (v := .tuple #[.agg #[.int .i64 0, .string ⟨#[]⟩, .int .i64 0, .slice none 0 0, .int .i64 0, .string ⟨#[]⟩, .int .i64 0, .slice none 0 0, .int .i64 0, .string ⟨#[]⟩, .int .i64 0, .slice none 0 0, .int .i64 0, .string ⟨#[]⟩, .int .i64 0, .slice none 0 0, .int .i64 0, .string ⟨#[]⟩, .int .i64 0, .slice none 0 0, .int .i64 0, .string ⟨#[]⟩, .int .i64 0, .slice none 0 0, .string ⟨#[]⟩, .string ⟨#[]⟩, .string ⟨#[]⟩, .string ⟨#[]⟩, .string ⟨#[]⟩, .string ⟨#[]⟩, .string ⟨#[]⟩, .string ⟨#[]⟩, .string ⟨#[]⟩], .bool false]) (results_blk Tryz.results15 rfl (HRB.out.setRow #[.int .i64 0, .string ⟨#[]⟩, .int .i64 0, .slice none 0 0, .int .i64 0, .string ⟨#[]⟩, .int .i64 0, .slice none 0 0, .int .i64 0, .string ⟨#[]⟩, .int .i64 0, .slice none 0 0, .int .i64 0, .string ⟨#[]⟩, .int .i64 0, .slice none 0 0, .int .i64 0, .string ⟨#[]⟩, .int .i64 0, .slice none 0 0, .int .i64 0, .string ⟨#[]⟩, .int .i64 0, .slice none 0 0, .string ⟨#[]⟩, .string ⟨#[]⟩, .string ⟨#[]⟩, .string ⟨#[]⟩, .string ⟨#[]⟩, .string ⟨#[]⟩, .string ⟨#[]⟩, .string ⟨#[]⟩, .string ⟨#[]⟩]) Tryz.underlying44 rfl (by kernel_rfl)) rfl ?_
        exact ConfP.no HNO.out (below_setRow HBL.out (by omega) _)
      | true =>
        cases hlb2 : Tk.labsB q4 with
        | false =>
          have HLB := hide (fun (W : World) => (show Calls Tryz.prog 27 #[.string q4] W (fun e w' => e = .returned (.bool false) ∧ Below W.heap.size W w') by have := Tk.implLabs q4 W HQS.out.2.2.2.2.1; rw [hlb2] at this; exact this))
          have HNO := hide (show okc = false by rw [HOKC.out, show quB 4 q4 = false by unfold quB; rw [hlb2]; simp]; simp)
          clear h3 hlb2
          go_wp2_with (first | (go_at_call 27; (with_reducible refine (HLB.out _).mono ?_); rintro e wA ⟨rfl, hbA⟩; (have HRB := hide (HRB.out.below hbA)); (have HBL := hide (HBL.out.trans (hbA.mono HBL.out.size)))) | (refine wpList_store_blk (b := w.heap.size + 1) (c := #[.int .i64 0, .string ⟨#[]⟩, .int .i64 0, .slice none 0 0, .int .i64 0, .string ⟨#[]⟩, .int .i64 0, .slice none 0 0, .int .i64 0, .string ⟨#[]⟩, .int .i64 0, .slice none 0 0, .int .i64 0, .string ⟨#[]⟩, .int .i64 0, .slice none 0 0, .int .i64 0, .string ⟨#[]⟩, .int .i64 0, .slice none 0 0, .int .i64 0, .string ⟨#[]⟩, .int .i64 0, .slice none 0 0, .string ⟨#[]⟩, .string ⟨#[]⟩, .string ⟨#[]⟩, .string ⟨#[]⟩, .string ⟨#[]⟩, .string ⟨#[]⟩, .string ⟨#[]⟩, .string ⟨#[]⟩, .string ⟨#[]⟩]) (c' := #[.int .i64 0, .string ⟨#[]⟩, .int .i64 0, .slice none 0 0, .int .i64 0, .string ⟨#[]⟩, .int .i64 0, .slice none 0 0, .int .i64 0, .string ⟨#[]⟩, .int .i64 0, .slice none 0 0, .int .i64 0, .string ⟨#[]⟩, .int .i64 0, .slice none 0 0, .int .i64 0, .string ⟨#[]⟩, .int .i64 0, .slice none 0 0, .int .i64 0, .string ⟨#[]⟩, .int .i64 0, .slice none 0 0, .string ⟨#[]⟩, .string ⟨#[]⟩, .string ⟨#[]⟩, .string ⟨#[]⟩, .string ⟨#[]⟩, .string ⟨#[]⟩, .string ⟨#[]⟩, .string ⟨#[]⟩, .string ⟨#[]⟩]) rfl rfl HRB.out rfl rfl (by kernel_rfl) rfl (by kernel_rfl) ?_) | fail)
          refine bodyPost_ret (v := .tuple #[.agg #[.int .i64 0, .string ⟨#[]⟩, .int .i64 0, .slice none 0 0, .int .i64 0, .string ⟨#[]⟩, .int .i64 0, .slice none 0 0, .int .i64 0, .string ⟨#[]⟩, .int .i64 0, .slice none 0 0, .int .i64 0, .string ⟨#[]⟩, .int .i64 0, .slice none 0 0, .int .i64 0, .string ⟨#[]⟩, .int .i64 0, .slice none 0 0, .int .i64 0, .string ⟨#[]⟩, .int .i64 0, .slice none 0 0, .string ⟨#[]⟩, .string ⟨#[]⟩, .string ⟨#[]⟩, .string ⟨#[]⟩, .string ⟨#[]⟩, .string ⟨#[]⟩, .string ⟨#[]⟩, .string ⟨#[]⟩, .string ⟨#[]⟩], .bool false]) (results_blk Tryz.results15 rfl (HRB.out.setRow #[.int .i64 0, .string ⟨#[]⟩, .int .i64 0, .slice none 0 0, .int .i64 0, .string ⟨#[]⟩, .int .i64 0, .slice none 0 0, .int .i64 0, .string ⟨#[]⟩, .int .i64 0, .slice none 0 0, .int .i64 0, .string ⟨#[]⟩, .int .i64 0, .slice none 0 0, .int .i64 0, .string ⟨#[]⟩, .int .i64 0, .slice none 0 0, .int .i64 0, .string ⟨#[]⟩, .int .i64 0, .slice none 0 0, .string ⟨#[]⟩, .string ⟨#[]⟩, .string ⟨#[]⟩, .string ⟨#[]⟩, .string ⟨#[]⟩, .string ⟨#[]⟩, .string ⟨#[]⟩, .string ⟨#[]⟩, .string ⟨#[]⟩]) Tryz.underlying44 rfl (by kernel_rfl)) rfl ?_
          exact ConfP.no HNO.out (below_setRow HBL.out (by omega) _)
        | true =>
          have HLB := hide (fun (W : World) => (show Calls Tryz.prog 27 #[.string q4] W (fun e w' => e = .returned (.bool true) ∧ Below W.heap.size W w') by have := Tk.implLabs q4 W HQS.out.2.2.2.2.1; rw [hlb2] at this; exact this))
          have HYES := hide (show quB 4 q4 = true by unfold quB; rw [decide_eq_true h3, hlb2, hem]; rfl)
          clear h3 hlb2
          go_wp2_with (first | (go_at_call 27; (with_reducible refine (HLB.out _).mono ?_); rintro e wA ⟨rfl, hbA⟩; (have HW2 := hide (HW2.out.trans (hbA.mono HW2.out.size)))) | fail)
          go_roundw
          case rel => exact ⟨5, by omega, rfl, HPR.out.step HYES.out, HW2.out⟩
          case measure => simp [intOf]
    | 5, _, hiv, HPR =>
      obtain rfl : _ = Value.int .i64 (5 : Int) := hiv
      have hix : ∀ W : World, (Instr.index ( /- t -/ 42) (.agg #[.string q0, .string q1, .string q2, .string q3, .string q4, .string q5, .string q6, .string q7, .string q8]) (.int .i64 5)).run Tryz.prog W = .ok (.string q5) W := fun W => by kernel_rfl
      by_cases h3 : q5.size ≤ 3
      case neg =>
        have HNO := hide (show okc = false by rw [HOKC.out, show quB 5 q5 = false by unfold quB; rw [decide_eq_false h3]; rfl]; simp)
        have d3 : decide ((3 : Int) < (q5.size : Int)) = true := decide_eq_true (by omega)
        clear h3
        go_wp2_with (first | (refine wpList_store_blk (b := w.heap.size + 1) (c := #[.int .i64 0, .string ⟨#[]⟩, .int .i64 0, .slice none 0 0, .int .i64 0, .string ⟨#[]⟩, .int .i64 0, .slice none 0 0, .int .i64 0, .string ⟨#[]⟩, .int .i64 0, .slice none 0 0, .int .i64 0, .string ⟨#[]⟩, .int .i64 0, .slice none 0 0, .int .i64 0, .string ⟨#[]⟩, .int .i64 0, .slice none 0 0, .int .i64 0, .string ⟨#[]⟩, .int .i64 0, .slice none 0 0, .string ⟨#[]⟩, .string ⟨#[]⟩, .string ⟨#[]⟩, .string ⟨#[]⟩, .string ⟨#[]⟩, .string ⟨#[]⟩, .string ⟨#[]⟩, .string ⟨#[]⟩, .string ⟨#[]⟩]) (c' := #[.int .i64 0, .string ⟨#[]⟩, .int .i64 0, .slice none 0 0, .int .i64 0, .string ⟨#[]⟩, .int .i64 0, .slice none 0 0, .int .i64 0, .string ⟨#[]⟩, .int .i64 0, .slice none 0 0, .int .i64 0, .string ⟨#[]⟩, .int .i64 0, .slice none 0 0, .int .i64 0, .string ⟨#[]⟩, .int .i64 0, .slice none 0 0, .int .i64 0, .string ⟨#[]⟩, .int .i64 0, .slice none 0 0, .string ⟨#[]⟩, .string ⟨#[]⟩, .string ⟨#[]⟩, .string ⟨#[]⟩, .string ⟨#[]⟩, .string ⟨#[]⟩, .string ⟨#[]⟩, .string ⟨#[]⟩, .string ⟨#[]⟩]) rfl rfl HRB.out rfl rfl (by kernel_rfl) rfl (by kernel_rfl) ?_) | fail)
        refine bodyPost_ret (v := .tuple #[.agg #[.int .i64 0, .string ⟨#[]⟩, .int .i64 0, .slice none 0 0, .int .i64 0, .string ⟨#[]⟩, .int .i64 0, .slice none 0 0, .int .i64 0, .string ⟨#[]⟩, .int .i64 0, .slice none 0 0, .int .i64 0, .string ⟨#[]⟩, .int .i64 0, .slice none 0 0, .int .i64 0, .string ⟨#[]⟩, .int .i64 0, .slice none 0 0, .int .i64 0, .string ⟨#[]⟩, .int .i64 0, .slice none 0 0, .string ⟨#[]⟩, .string ⟨#[]⟩, .string ⟨#[]⟩, .string ⟨#[]⟩, .string ⟨#[]⟩, .string ⟨#[]⟩, .string ⟨#[]⟩, .string ⟨#[]⟩, .string ⟨#[]⟩], .bool false]) (results_blk Tryz.results15 rfl (HRB.out.setRow #[.int .i64 0, .string ⟨#[]⟩, .int .i64 0, .slice none 0 0, .int .i64 0, .string ⟨#[]⟩, .int .i64 0, .slice none 0 0, .int .i64 0, .string ⟨#[]⟩, .int .i64 0, .slice none 0 0, .int .i64 0, .string ⟨#[]⟩, .int .i64 0, .slice none 0 0, .int .i64 0, .string ⟨#[]⟩, .int .i64 0, .slice none 0 0, .int .i64 0, .string ⟨#[]⟩, .int .i64 0, .slice none 0 0, .string ⟨#[]⟩, .string ⟨#[]⟩, .string ⟨#[]⟩, .string ⟨#[]⟩, .string ⟨#[]⟩, .string ⟨#[]⟩, .string ⟨#[]⟩, .string ⟨#[]⟩, .string ⟨#[]⟩]) Tryz.underlying44 rfl (by kernel_rfl)) rfl ?_
        exact ConfP.no HNO.out (below_setRow HBL.out (by omega) _)
      have d3 : decide ((3 : Int) < (q5.size : Int)) = false := decide_eq_false (by omega)
      cases hlb2 : Tk.labsB q5 with
      | false =>
        have HLB := hide (fun (W : World) => (show Calls Tryz.prog 27 #[.string q5] W (fun e w' => e = .returned (.bool false) ∧ Below W.heap.size W w') by have := Tk.implLabs q5 W HQS.out.2.2.2.2.2.1; rw [hlb2] at this; exact this))
        have HNO := hide (show okc = false by rw [HOKC.out, show quB 5 q5 = false by unfold quB; rw [hlb2]; simp]; simp)
        clear h3 hlb2
        go_wp2_with (first | (go_at_call 27; (with_reducible refine (HLB.out _).mono ?_); rintro e wA ⟨rfl, hbA⟩; (have HRB := hide (HRB.out.below hbA)); (have HBL := hide (HBL.out.trans (hbA.mono HBL.out.size)))) | (refine wpList_store_blk (b := w.heap.size + 1) (c := #[.int .i64 0, .string ⟨#[]⟩, .int .i64 0, .slice none 0 0, .int .i64 0, .string ⟨#[]⟩, .int .i64 0, .slice none 0 0, .int .i64 0, .string ⟨#[]⟩, .int .i64 0, .slice none 0 0, .int .i64 0, .string ⟨#[]⟩, .int .i64 0, .slice none 0 0, .int .i64 0, .string ⟨#[]⟩, .int .i64 0, .slice none 0 0, .int .i64 0, .string ⟨#[]⟩, .int .i64 0, .slice none 0 0, .string ⟨#[]⟩, .string ⟨#[]⟩, .string ⟨#[]⟩, .string ⟨#[]⟩, .string ⟨#[]⟩, .string ⟨#[]⟩, .string ⟨#[]⟩, .string ⟨#[]⟩, .string ⟨#[]⟩]) (c' := #[.int .i64 0, .string ⟨#[]⟩, .int .i64 0, .slice none 0 0, .int .i64 0, .string ⟨#[]⟩, .int .i64 0, .slice none 0 0, .int .i64 0, .string ⟨#[]⟩, .int .i64 0, .slice none 0 0, .int .i64 0, .string ⟨#[]⟩, .int .i64 0, .slice none 0 0, .int .i64 0, .string ⟨#[]⟩, .int .i64 0, .slice none 0 0, .int .i64 0, .string ⟨#[]⟩, .int .i64 0, .slice none 0 0, .string ⟨#[]⟩, .string ⟨#[]⟩, .string ⟨#[]⟩, .string ⟨#[]⟩, .string ⟨#[]⟩, .string ⟨#[]⟩, .string ⟨#[]⟩, .string ⟨#[]⟩, .string ⟨#[]⟩]) rfl rfl HRB.out rfl rfl (by kernel_rfl) rfl (by kernel_rfl) ?_) | fail)
        refine bodyPost_ret (v := .tuple #[.agg #[.int .i64 0, .string ⟨#[]⟩, .int .i64 0, .slice none 0 0, .int .i64 0, .string ⟨#[]⟩, .int .i64 0, .slice none 0 0, .int .i64 0, .string ⟨#[]⟩, .int .i64 0, .slice none 0 0, .int .i64 0, .string ⟨#[]⟩, .int .i64 0, .slice none 0 0, .int .i64 0, .string ⟨#[]⟩, .int .i64 0, .slice none 0 0, .int .i64 0, .string ⟨#[]⟩, .int .i64 0, .slice none 0 0, .string ⟨#[]⟩, .string ⟨#[]⟩, .string ⟨#[]⟩, .string ⟨#[]⟩, .string ⟨#[]⟩, .string ⟨#[]⟩, .string ⟨#[]⟩, .string ⟨#[]⟩, .string ⟨#[]⟩], .bool false]) (results_blk Tryz.results15 rfl (HRB.out.setRow #[.int .i64 0, .string ⟨#[]⟩, .int .i64 0, .slice none 0 0, .int .i64 0, .string ⟨#[]⟩, .int .i64 0, .slice none 0 0, .int .i64 0, .string ⟨#[]⟩, .int .i64 0, .slice none 0 0, .int .i64 0, .string ⟨#[]⟩, .int .i64 0, .slice none 0 0, .int .i64 0, .string ⟨#[]⟩, .int .i64 0, .slice none 0 0, .int .i64 0, .string ⟨#[]⟩, .int .i64 0, .slice none 0 0, .string ⟨#[]⟩, .string ⟨#[]⟩, .string ⟨#[]⟩, .string ⟨#[]⟩, .string ⟨#[]⟩, .string ⟨#[]⟩, .string ⟨#[]⟩, .string ⟨#[]⟩, .string ⟨#[]⟩]) Tryz.underlying44 rfl (by kernel_rfl)) rfl ?_
        exact ConfP.no HNO.out (below_setRow HBL.out (by omega) _)
      | true =>
        have HLB := hide (fun (W : World) => (show Calls Tryz.prog 27 #[.string q5] W (fun e w' => e = .returned (.bool true) ∧ Below W.heap.size W w') by have := Tk.implLabs q5 W HQS.out.2.2.2.2.2.1; rw [hlb2] at this; exact this))
        have HYES := hide (show quB 5 q5 = true by unfold quB; rw [decide_eq_true h3, hlb2]; rfl)
        clear h3 hlb2
        go_wp2_with (first | (go_at_call 27; (with_reducible refine (HLB.out _).mono ?_); rintro e wA ⟨rfl, hbA⟩; (have HW2 := hide (HW2.out.trans (hbA.mono HW2.out.size)))) | fail)
        go_roundw
        case rel => exact ⟨6, by omega, rfl, HPR.out.step HYES.out, HW2.out⟩
        case measure => simp [intOf]
    | 6, _, hiv, HPR =>
      obtain rfl : _ = Value.int .i64 (6 : Int) := hiv
      have hix : ∀ W : World, (Instr.index ( /- t -/ 42) (.agg #[.string q0, .string q1, .string q2, .string q3, .string q4, .string q5, .string q6, .string q7, .string q8]) (.int .i64 6)).run Tryz.prog W = .ok (.string q6) W := fun W => by kernel_rfl
      by_cases h3 : q6.size ≤ 3
      case neg =>
        have HNO := hide (show okc = false by rw [HOKC.out, show quB 6 q6 = false by unfold quB; rw [decide_eq_false h3]; rfl]; simp)
        have d3 : decide ((3 : Int) < (q6.size : Int)) = true := decide_eq_true (by omega)
        clear h3
        go_wp2_with (first | (refine wpList_store_blk (b := w.heap.size + 1) (c := #[.int .i64 0, .string ⟨#[]⟩, .int .i64 0, .slice none 0 0, .int .i64 0, .string ⟨#[]⟩, .int .i64 0, .slice none 0 0, .int .i64 0, .string ⟨#[]⟩, .int .i64 0, .slice none 0 0, .int .i64 0, .string ⟨#[]⟩, .int .i64 0, .slice none 0 0, .int .i64 0, .string ⟨#[]⟩, .int .i64 0, .slice none 0 0, .int .i64 0, .string ⟨#[]⟩, .int .i64 0, .slice none 0 0, .string ⟨#[]⟩, .string ⟨#[]⟩, .string ⟨#[]⟩, .string ⟨#[]⟩, .string ⟨#[]⟩, .string ⟨#[]⟩, .string ⟨#[]⟩, .string ⟨#[]⟩, .string ⟨#[]⟩]) (c' := #[.int .i64 0, .string ⟨#[]⟩, .int .i64 0, .slice none 0 0, .int .i64 0, .string ⟨#[]⟩, .int .i64 0, .slice none 0 0, .int .i64 0, .string ⟨#[]⟩, .int .i64 0, .slice none 0 0, .int .i64 0, .string ⟨#[]⟩, .int .i64 0, .slice none 0 0, .int .i64 0, .string ⟨#[]⟩, .int .i64 0, .slice none 0 0, .int .i64 0, .string ⟨#[]⟩, .int .i64 0, .slice none 0 0, .string ⟨#[]⟩, .string ⟨#[]⟩, .string ⟨#[]⟩, .string ⟨#[]⟩, .string ⟨#[]⟩, .string ⟨#[]⟩, .string ⟨#[]⟩, .string ⟨#[]⟩, .string ⟨#[]⟩]) rfl rfl HRB.out rfl rfl (by kernel_rfl) rfl (by kernel_rfl) ?_) | fail)
        refine bodyPost_ret (v := .tuple #[.agg #[.int .i64 0, .string ⟨#[]⟩, .int .i64 0, .slice none 0 0, .int .i64 0, .string ⟨#[]⟩, .int .i64 0, .slice none 0 0, .int .i64 0, .string ⟨#[]⟩, .int .i64 0, .slice none 0 0, .int .i64 0, .string ⟨#[]⟩, .int .i64 0, .slice none 0 0, .int .i64 0, .string ⟨#[]⟩, .int .i64 0, .slice none 0 0, .int .i64 0, .string ⟨#[]⟩, .int .i64 0, .slice none 0 0, .string ⟨#[]⟩, .string ⟨#[]⟩, .string ⟨#[]⟩, .string ⟨#[]⟩, .string ⟨#[]⟩, .string ⟨#[]⟩, .string ⟨#[]⟩, .string ⟨#[]⟩, .string ⟨#[]⟩], .bool false]) (results_blk Tryz.results15 rfl (HRB.out.setRow #[.int .i64 0, .string ⟨#[]⟩, .int .i64 0, .slice none 0 0, .int .i64 0, .string ⟨#[]⟩, .int .i64 0, .slice none 0 0, .int .i64 0, .string ⟨#[]⟩, .int .i64 0, .slice none 0 0, .int .i64 0, .string ⟨#[]⟩, .int .i64 0, .slice none 0 0, .int .i64 0, .string ⟨#[]⟩, .int .i64 0, .slice none 0 0, .int .i64 0, .string ⟨#[]⟩, .int .i64 0, .slice none 0 0, .string ⟨#[]⟩, .string ⟨#[]⟩, .string ⟨#[]⟩, .string ⟨#[]⟩, .string ⟨#[]⟩, .string ⟨#[]⟩, .string ⟨#[]⟩, .string ⟨#[]⟩, .string ⟨#[]⟩]) Tryz.underlying44 rfl (by kernel_rfl)) rfl ?_
        exact ConfP.no HNO.out (below_setRow HBL.out (by omega) _)
      have d3 : decide ((3 : Int) < (q6.size : Int)) = false := decide_eq_false (by omega)
      cases hlb2 : Tk.labsB q6 with
      | false =>
        have HLB := hide (fun (W : World) => (show Calls Tryz.prog 27 #[.string q6] W (fun e w' => e = .returned (.bool false) ∧ Below W.heap.size W w') by have := Tk.implLabs q6 W HQS.out.2.2.2.2.2.2.1; rw [hlb2] at this; exact this))
        have HNO := hide (show okc = false by rw [HOKC.out, show quB 6 q6 = false by unfold quB; rw [hlb2]; simp]; simp)
        clear h3 hlb2
        go_wp2_with (first | (go_at_call 27; (with_reducible refine (HLB.out _).mono ?_); rintro e wA ⟨rfl, hbA⟩; (have HRB := hide (HRB.out.below hbA)); (have HBL := hide (HBL.out.trans (hbA.mono HBL.out.size)))) | (refine wpList_store_blk (b := w.heap.size + 1) (c := #[.int .i64 0, .string ⟨#[]⟩, .int .i64 0, .slice none 0 0, .int .i64 0, .string ⟨#[]⟩, .int .i64 0, .slice none 0 0, .int .i64 0, .string ⟨#[]⟩, .int .i64 0, .slice none 0 0, .int .i64 0, .string ⟨#[]⟩, .int .i64 0, .slice none 0 0, .int .i64 0, .string ⟨#[]⟩, .int .i64 0, .slice none 0 0, .int .i64 0, .string ⟨#[]⟩, .int .i64 0, .slice none 0 0, .string ⟨#[]⟩, .string ⟨#[]⟩, .string ⟨#[]⟩, .string ⟨#[]⟩, .string ⟨#[]⟩, .string ⟨#[]⟩, .string ⟨#[]⟩, .string ⟨#[]⟩, .string ⟨#[]⟩]) (c' := #[.int .i64 0, .string ⟨#[]⟩, .int .i64 0, .slice none 0 0, .int .i64 0, .string ⟨#[]⟩, .int .i64 0, .slice none 0 0, .int .i64 0, .string ⟨#[]⟩, .int .i64 0, .slice none 0 0, .int .i64 0, .string ⟨#[]⟩, .int .i64 0, .slice none 0 0, .int .i64 0, .string ⟨#[]⟩, .int .i64 0, .slice none 0 0, .int .i64 0, .string ⟨#[]⟩, .int .i64 0, .slice none 0 0, .string ⟨#[]⟩, .string ⟨#[]⟩, .string ⟨#[]⟩, .string ⟨#[]⟩, .string ⟨#[]⟩, .string ⟨#[]⟩, .string ⟨#[]⟩, .string ⟨#[]⟩, .string ⟨#[]⟩]) rfl rfl HRB.out rfl rfl (by kernel_rfl) rfl (by kernel_rfl) ?_) | fail)
        refine bodyPost_ret (v := .tuple #[.agg #[.int .i64 0, .string ⟨#[]⟩, .int .i64 0, .slice none 0 0, .int .i64 0, .string ⟨#[]⟩, .int .i64 0, .slice none 0 0, .int .i64 0, .string ⟨#[]⟩, .int .i64 0, .slice none 0 0, .int .i64 0, .string ⟨#[]⟩, .int .i64 0, .slice none 0 0, .int .i64 0, .string ⟨#[]⟩, .int .i64 0, .slice none 0 0, .int .i64 0, .string ⟨#[]⟩, .int .i64 0, .slice none 0 0, .string ⟨#[]⟩, .string ⟨#[]⟩, .string ⟨#[]⟩, .string ⟨#[]⟩, .string ⟨#[]⟩, .string ⟨#[]⟩, .string ⟨#[]⟩, .string ⟨#[]⟩, .string ⟨#[]⟩], .bool false]) (results_blk Tryz.results15 rfl (HRB.out.setRow #[.int .i64 0, .string ⟨#[]⟩, .int .i64 0, .slice none 0 0, .int .i64 0, .string ⟨#[]⟩, .int .i64 0, .slice none 0 0, .int .i64 0, .string ⟨#[]⟩, .int .i64 0, .slice none 0 0, .int .i64 0, .string ⟨#[]⟩, .int .i64 0, .slice none 0 0, .int .i64 0, .string ⟨#[]⟩, .int .i64 0, .slice none 0 0, .int .i64 0, .string ⟨#[]⟩, .int .i64 0, .slice none 0 0, .string ⟨#[]⟩, .string ⟨#[]⟩, .string ⟨#[]⟩, .string ⟨#[]⟩, .string ⟨#[]⟩, .string ⟨#[]⟩, .string ⟨#[]⟩, .string ⟨#[]⟩, .string ⟨#[]⟩]) Tryz.underlying44 rfl (by kernel_rfl)) rfl ?_
        exact ConfP.no HNO.out (below_setRow HBL.out (by omega) _)
      | true =>
        have HLB := hide (fun (W : World) => (show Calls Tryz.prog 27 #[.string q6] W (fun e w' => e = .returned (.bool true) ∧ Below W.heap.size W w') by have := Tk.implLabs q6 W HQS.out.2.2.2.2.2.2.1; rw [hlb2] at this; exact this))
        have HYES := hide (show quB 6 q6 = true by unfold quB; rw [decide_eq_true h3, hlb2]; rfl)
        clear h3 hlb2
        go_wp2_with (first | (go_at_call 27; (with_reducible refine (HLB.out _).mono ?_); rintro e wA ⟨rfl, hbA⟩; (have HW2 := hide (HW2.out.trans (hbA.mono HW2.out.size)))) | fail)
        go_roundw
        case rel => exact ⟨7, by omega, rfl, HPR.out.step HYES.out, HW2.out⟩
        case measure => simp [intOf]
    | 7, _, hiv, HPR =>
      obtain rfl : _ = Value.int .i64 (7 : Int) := hiv
      have hix : ∀ W : World, (Instr.index ( /- t -/ 42) (.agg #[.string q0, .string q1, .string q2, .string q3, .string q4, .string q5, .string q6, .string q7, .string q8]) (.int .i64 7)).run Tryz.prog W = .ok (.string q7) W := fun W => by kernel_rfl
      by_cases h3 : q7.size ≤ 3
      case neg =>
        have HNO := hide (show okc = false by rw [HOKC.out, show quB 7 q7 = false by unfold quB; rw [decide_eq_false h3]; rfl]; simp)
        have d3 : decide ((3 : Int) < (q7.size : Int)) = true := decide_eq_true (by omega)
        clear h3
        go_wp2_with (first | (refine wpList_store_blk (b := w.heap.size + 1) (c := #[.int .i64 0, .string ⟨#[]⟩, .int .i64 0, .slice none 0 0, .int .i64 0, .string ⟨#[]⟩, .int .i64 0, .slice none 0 0, .int .i64 0, .string ⟨#[]⟩, .int .i64 0, .slice none 0 0, .int .i64 0, .string ⟨#[]⟩, .int .i64 0, .slice none 0 0, .int .i64 0, .string ⟨#[]⟩, .int .i64 0, .slice none 0 0, .int .i64 0, .string ⟨#[]⟩, .int .i64 0, .slice none 0 0, .string ⟨#[]⟩, .string ⟨#[]⟩, .string ⟨#[]⟩, .string ⟨#[]⟩, .string ⟨#[]⟩, .string ⟨#[]⟩, .string ⟨#[]⟩, .string ⟨#[]⟩, .string ⟨#[]⟩]) (c' := #[.int .i64 0, .string ⟨#[]⟩, .int .i64 0, .slice none 0 0, .int .i64 0, .string ⟨#[]⟩, .int .i64 0, .slice none 0 0, .int .i64 0, .string ⟨#[]⟩, .int .i64 0, .slice none 0 0, .int .i64 0, .string ⟨#[]⟩, .int .i64 0, .slice none 0 0, .int .i64 0, .string ⟨#[]⟩, .int .i64 0, .slice none 0 0, .int .i64 0, .string ⟨#[]⟩, .int .i64 0, .slice none 0 0, .string ⟨#[]⟩, .string ⟨#[]⟩, .string ⟨#[]⟩, .string ⟨#[]⟩, .string ⟨#[]⟩, .string ⟨#[]⟩, .string ⟨#[]⟩, .string ⟨#[]⟩, .string ⟨#[]⟩]) rfl rfl HRB.out rfl rfl (by kernel_rfl) rfl (by kernel_rfl) ?_) | fail)
        refine bodyPost_ret (v := .tuple #[.agg #[.int .i64 0, .string ⟨#[]⟩, .int .i64 0, .slice none 0 0, .int .i64 0, .string ⟨#[]⟩, .int .i64 0, .slice none 0 0, .int .i64 0, .string ⟨#[]⟩, .int .i64 0, .slice none 0 0, .int .i64 0, .string ⟨#[]⟩, .int .i64 0, .slice none 0 0, .int .i64 0, .string ⟨#[]⟩, .int .i64 0, .slice none 0 0, .int .i64 0, .string ⟨#[]⟩, .int .i64 0, .slice none 0 0, .string ⟨#[]⟩, .string ⟨#[]⟩, .string ⟨#[]⟩, .string ⟨#[]⟩, .string ⟨#[]⟩, .string ⟨#[]⟩, .string ⟨#[]⟩, .string ⟨#[]⟩, .string ⟨#[]⟩], .bool false]) (results_blk Tryz.results15 rfl (HRB.out.setRow #[.int .i64 0, .string ⟨#[]⟩, .int .i64 0, .slice none 0 0, .int .i64 0, .string ⟨#[]⟩, .int .i64 0, .slice none 0 0, .int .i64 0, .string ⟨#[]⟩, .int .i64 0, .slice none 0 0, .int .i64 0, .string ⟨#[]⟩, .int .i64 0, .slice none 0 0, .int .i64 0, .string ⟨#[]⟩, .int .i64 0, .slice none 0 0, .int .i64 0, .string ⟨#[]⟩, .int .i64 0, .slice none 0 0, .string ⟨#[]⟩, .string ⟨#[]⟩, .string ⟨#[]⟩, .string ⟨#[]⟩, .string ⟨#[]⟩, .string ⟨#[]⟩, .string ⟨#[]⟩, .string ⟨#[]⟩, .string ⟨#[]⟩]) Tryz.underlying44 rfl (by kernel_rfl)) rfl ?_
        exact ConfP.no HNO.out (below_setRow HBL.out (by omega) _)
      have d3 : decide ((3 : Int) < (q7.size : Int)) = false := decide_eq_false (by omega)
      cases hlb2 : Tk.labsB q7 with
      | false =>
        have HLB := hide (fun (W : World) => (show Calls Tryz.prog 27 #[.string q7] W (fun e w' => e = .returned (.bool false) ∧ Below W.heap.size W w') by have := Tk.implLabs q7 W HQS.out.2.2.2.2.2.2.2.1; rw [hlb2] at this; exact this))
        have HNO := hide (show okc = false by rw [HOKC.out, show quB 7 q7 = false by unfold quB; rw [hlb2]; simp]; simp)
        clear h3 hlb2
        go_wp2_with (first | (go_at_call 27; (with_reducible refine (HLB.out _).mono ?_); rintro e wA ⟨rfl, hbA⟩; (have HRB := hide (HRB.out.below hbA)); (have HBL := hide (HBL.out.trans (hbA.mono HBL.out.size)))) | (refine wpList_store_blk (b := w.heap.size + 1) (c := #[.int .i64 0, .string ⟨#[]⟩, .int .i64 0, .slice none 0 0, .int .i64 0, .string ⟨#[]⟩, .int .i64 0, .slice none 0 0, .int .i64 0, .string ⟨#[]⟩, .int .i64 0, .slice none 0 0, .int .i64 0, .string ⟨#[]⟩, .int .i64 0, .slice none 0 0, .int .i64 0, .string ⟨#[]⟩, .int .i64 0, .slice none 0 0, .int .i64 0, .string ⟨#[]⟩, .int .i64 0, .slice none 0 0, .string ⟨#[]⟩, .string ⟨#[]⟩, .string ⟨#[]⟩, .string ⟨#[]⟩, .string ⟨#[]⟩, .string ⟨#[]⟩, .string ⟨#[]⟩, .string ⟨#[]⟩, .string ⟨#[]⟩]) (c' := #[.int .i64 0, .string ⟨#[]⟩, .int .i64 0, .slice none 0 0, .int .i64 0, .string ⟨#[]⟩, .int .i64 0, .slice none 0 0, .int .i64 0, .string ⟨#[]⟩, .int .i64 0, .slice none 0 0, .int .i64 0, .string ⟨#[]⟩, .int .i64 0, .slice none 0 0, .int .i64 0, .string ⟨#[]⟩, .int .i64 0, .slice none 0 0, .int .i64 0, .string ⟨#[]⟩, .int .i64 0, .slice none 0 0, .string ⟨#[]⟩, .string ⟨#[]⟩, .string ⟨#[]⟩, .string ⟨#[]⟩, .string ⟨#[]⟩, .string ⟨#[]⟩, .string ⟨#[]⟩, .string ⟨#[]⟩, .string ⟨#[]⟩]) rfl rfl HRB.out rfl rfl (by kernel_rfl) rfl (by kernel_rfl) ?_) | fail)
        refine bodyPost_ret (v := .tuple #[.agg #[.int .i64 0, .string ⟨#[]⟩, .int .i64 0, .slice none 0 0, .int .i64 0, .string ⟨#[]⟩, .int .i64 0, .slice none 0 0, .int .i64 0, .string ⟨#[]⟩, .int .i64 0, .slice none 0 0, .int .i64 0, .string ⟨#[]⟩, .int .i64 0, .slice none 0 0, .int .i64 0, .string ⟨#[]⟩, .int .i64 0, .slice none 0 0, .int .i64 0, .string ⟨#[]⟩, .int .i64 0, .slice none 0 0, .string ⟨#[]⟩, .string ⟨#[]⟩, .string ⟨#[]⟩, .string ⟨#[]⟩, .string ⟨#[]⟩, .string ⟨#[]⟩, .string ⟨#[]⟩, .string ⟨#[]⟩, .string ⟨#[]⟩], .bool false]) (results_blk Tryz.results15 rfl (HRB.out.setRow #[.int .i64 0, .string ⟨#[]⟩, .int .i64 0, .slice none 0 0, .int .i64 0, .string ⟨#[]⟩, .int .i64 0, .slice none 0 0, .int .i64 0, .string ⟨#[]⟩, .int .i64 0, .slice none 0 0, .int .i64 0, .string ⟨#[]⟩, .int .i64 0, .slice none 0 0, .int .i64 0, .string ⟨#[]⟩, .int .i64 0, .slice none 0 0, .int .i64 0, .string ⟨#[]⟩, .int .i64 0, .slice none 0 0, .string ⟨#[]⟩, .string ⟨#[]⟩, .string ⟨#[]⟩, .string ⟨#[]⟩, .string ⟨#[]⟩, .string ⟨#[]⟩, .string ⟨#[]⟩, .string ⟨#[]⟩, .string ⟨#[]⟩]) Tryz.underlying44 rfl (by kernel_rfl)) rfl ?_
        exact ConfP.no HNO.out (below_setRow HBL.out (by omega) _)
      | true =>
        have HLB := hide (fun (W : World) => (show Calls Tryz.prog 27 #[.string q7] W (fun e w' => e = .returned (.bool true) ∧ Below W.heap.size W w') by have := Tk.implLabs q7 W HQS.out.2.2.2.2.2.2.2.1; rw [hlb2] at this; exact this))
        have HYES := hide (show quB 7 q7 = true by unfold quB; rw [decide_eq_true h3, hlb2]; rfl)
        clear h3 hlb2
        go_wp2_with (first | (go_at_call 27; (with_reducible refine (HLB.out _).mono ?_); rintro e wA ⟨rfl, hbA⟩; (have HW2 := hide (HW2.out.trans (hbA.mono HW2.out.size)))) | fail)
        go_roundw
        case rel => exact ⟨8, by omega, rfl, HPR.out.step HYES.out, HW2.out⟩
        case measure => simp [intOf]
    | 8, _, hiv, HPR =>
      obtain rfl : _ = Value.int .i64 (8 : Int) := hiv
      have hix : ∀ W : World, (Instr.index ( /- t -/ 42) (.agg #[.string q0, .string q1, .string q2, .string q3, .string q4, .string q5, .string q6, .string q7, .string q8]) (.int .i64 8)).run Tryz.prog W = .ok (.string q8) W := fun W => by kernel_rfl
      by_cases h3 : q8.size ≤ 3
      case neg =>
        have HNO := hide (show okc = false by rw [HOKC.out, show quB 8 q8 = false by unfold quB; rw [decide_eq_false h3]; rfl]; simp)
        have d3 : decide ((3 : Int) < (q8.size : Int)) = true := decide_eq_true (by omega)
        clear h3
        go_wp2_with (first | (refine wpList_store_blk (b := w.heap.size + 1) (c := #[.int .i64 0, .string ⟨#[]⟩, .int .i64 0, .slice none 0 0, .int .i64 0, .string ⟨#[]⟩, .int .i64 0, .slice none 0 0, .int .i64 0, .string ⟨#[]⟩, .int .i64 0, .slice none 0 0, .int .i64 0, .string ⟨#[]⟩, .int .i64 0, .slice none 0 0, .int .i64 0, .string ⟨#[]⟩, .int .i64 0, .slice none 0 0, .int .i64 0, .string ⟨#[]⟩, .int .i64 0, .slice none 0 0, .string ⟨#[]⟩, .string ⟨#[]⟩, .string ⟨#[]⟩, .string ⟨#[]⟩, .string ⟨#[]⟩, .string ⟨#[]⟩, .string ⟨#[]⟩, .string ⟨#[]⟩, .string ⟨#[]⟩]) (c' := #[.int .i64 0, .string ⟨#[]⟩, .int .i64 0, .slice none 0 0, .int .i64 0, .string ⟨#[]⟩, .int .i64 0, .slice none 0 0, .int .i64 0, .string ⟨#[]⟩, .int .i64 0, .slice none 0 0, .int .i64 0, .string ⟨#[]⟩, .int .i64 0, .slice none 0 0, .int .i64 0, .string ⟨#[]⟩, .int .i64 0, .slice none 0 0, .int .i64 0, .string ⟨#[]⟩, .int .i64 0, .slice none 0 0, .string ⟨#[]⟩, .string ⟨#[]⟩, .string ⟨#[]⟩, .string ⟨#[]⟩, .string ⟨#[]⟩, .string ⟨#[]⟩, .string ⟨#[]⟩, .string ⟨#[]⟩, .string ⟨#[]⟩]) rfl rfl HRB.out rfl rfl (by kernel_rfl) rfl (by kernel_rfl) ?_) | fail)
        refine bodyPost_ret (v := .tuple #[.agg #[.int .i64 0, .string ⟨#[]⟩, .int .i64 0, .slice none 0 0, .int .i64 0, .string ⟨#[]⟩, .int .i64 0, .slice none 0 0, .int .i64 0, .string ⟨#[]⟩, .int .i64 0, .slice none 0 0, .int .i64 0, .string ⟨#[]⟩, .int .i64 0, .slice none 0 0, .int .i64 0, .string ⟨#[]⟩, .int .i64 0, .slice none 0 0, .int .i64 0, .string ⟨#[]⟩, .int .i64 0, .slice none 0 0, .string ⟨#[]⟩, .string ⟨#[]⟩, .string ⟨#[]⟩, .string ⟨#[]⟩, .string ⟨#[]⟩, .string ⟨#[]⟩, .string ⟨#[]⟩, .string ⟨#[]⟩, .string ⟨#[]⟩], .bool false]) (results_blk Tryz.results15 rfl (HRB.out.setRow #[.int .i64 0, .string ⟨#[]⟩, .int .i64 0, .slice none 0 0, .int .i64 0, .string ⟨#[]⟩, .int .i64 0, .slice none 0 0, .int .i64 0, .string ⟨#[]⟩, .int .i64 0, .slice none 0 0, .int .i64 0, .string ⟨#[]⟩, .int .i64 0, .slice none 0 0, .int .i64 0, .string ⟨#[]⟩, .int .i64 0, .slice none 0 0, .int .i64 0, .string ⟨#[]⟩, .int .i64 0, .slice none 0 0, .string ⟨#[]⟩, .string ⟨#[]⟩, .string ⟨#[]⟩, .string ⟨#[]⟩, .string ⟨#[]⟩, .string ⟨#[]⟩, .string ⟨#[]⟩, .string ⟨#[]⟩, .string ⟨#[]⟩]) Tryz.underlying44 rfl (by kernel_rfl)) rfl ?_
        exact ConfP.no HNO.out (below_setRow HBL.out (by omega) _)
      have d3 : decide ((3 : Int) < (q8.size : Int)) = false := decide_eq_false (by omega)
      cases hem : q8.toList.isEmpty with
      | false =>
        have HNO := hide (show okc = false by rw [HOKC.out, show quB 8 q8 = false by unfold quB; rw [hem]; simp]; simp)
        clear h3
        go_wp2_with (first | (refine wpList_store_blk (b := w.heap.size + 1) (c := #[.int .i64 0, .string ⟨#[]⟩, .int .i64 0, .slice none 0 0, .int .i64 0, .string ⟨#[]⟩, .int .i64 0, .slice none 0 0, .int .i64 0, .string ⟨#[]⟩, .int .i64 0, .slice none 0 0, .int .i64 0, .string ⟨#[]⟩, .int .i64 0, .slice none 0 0, .int .i64 0, .string ⟨#[]⟩, .int .i64 0, .slice none 0 0, .int .i64 0, .string ⟨#[]⟩, .int .i64 0, .slice none 0 0, .string ⟨#[]⟩, .string ⟨#[]⟩, .string ⟨#[]⟩, .string ⟨#[]⟩, .string ⟨#[]⟩, .string ⟨#[]⟩, .string ⟨#[]⟩, .string ⟨#[]⟩, .string ⟨#[]⟩]) (c' := #[.int .i64 0, .string ⟨#[]⟩, .int .i64 0, .slice none 0 0, .int .i64 0, .string ⟨#[]⟩, .int .i64 0, .slice none 0 0, .int .i64 0, .string ⟨#[]⟩, .int .i64 0, .slice none 0 0, .int .i64 0, .string ⟨#[]⟩, .int .i64 0, .slice none 0 0, .int .i64 0, .string ⟨#[]⟩, .int .i64 0, .slice none 0 0, .int .i64 0, .string ⟨#[]⟩, .int .i64 0, .slice none 0 0, .string ⟨#[]⟩, .string ⟨#[]⟩, .string ⟨#[]⟩, .string ⟨#[]⟩, .string ⟨#[]⟩, .string ⟨#[]⟩, .string ⟨#[]⟩, .string ⟨#[]⟩, .string ⟨#[]⟩]) rfl rfl HRB.out rfl rfl (by kernel_rfl) rfl (by kernel_rfl) ?_) | fail)
        refine bodyPost_ret (v := .tuple #[.agg #[.int .i64 0, .string ⟨#[]⟩, .int .i64 0, .slice none 0 0, .int .i64 0, .string ⟨#[]⟩, .int .i64 0, .slice none 0 0, .int .i64 0, .string ⟨#[]⟩, .int .i64 0, .slice none 0 0, .int .i64 0, .string ⟨#[]⟩, .int .i64 0, .slice none 0 0, .int .i64 0, .string ⟨#[]⟩, .int .i64 0, .slice none 0 0, .int .i64 0, .string ⟨#[]⟩, .int .i64 0, .slice none 0 0, .string ⟨#[]⟩, .string ⟨#[]⟩, .string ⟨#[]⟩, .string ⟨#[]⟩, .string ⟨#[]⟩, .string ⟨#[]⟩, .string ⟨#[]⟩, .string ⟨#[]⟩, .string ⟨#[]⟩], .bool false]) (results_blk Tryz.results15 rfl (HRB.out.setRow #[.int .i64 0, .string ⟨#[]⟩, .int .i64 0, .slice none 0 0, .int .i64 0, .string ⟨#[]⟩, .int .i64 0, .slice none 0 0, .int .i64 0, .string ⟨#[]⟩, .int .i64 0, .slice none 0 0, .int .i64 0, .string ⟨#[]⟩, .int .i64 0, .slice none 0 0, .int .i64 0, .string ⟨#[]⟩, .int .i64 0, .slice none 0 0, .int .i64 0, .string ⟨#[]⟩, .int .i64 0, .slice none 0 0, .string ⟨#[]⟩, .string ⟨#[]⟩, .string ⟨#[]⟩, .string ⟨#[]⟩, .string ⟨#[]⟩, .string ⟨#[]⟩, .string ⟨#[]⟩, .string ⟨#[]⟩, .string ⟨#[]⟩]) Tryz.underlying44 rfl (by kernel_rfl)) rfl ?_
        exact ConfP.no HNO.out (below_setRow HBL.out (by omega) _)
      | true =>
        cases hlb2 : Tk.labsB q8 with
        | false =>
          have HLB := hide (fun (W : World) => (show Calls Tryz.prog 27 #[.string q8] W (fun e w' => e = .returned (.bool false) ∧ Below W.heap.size W w') by have := Tk.implLabs q8 W HQS.out.2.2.2.2.2.2.2.2; rw [hlb2] at this; exact this))
          have HNO := hide (show okc = false by rw [HOKC.out, show quB 8 q8 = false by unfold quB; rw [hlb2]; simp]; simp)
          clear h3 hlb2
          go_wp2_with (first | (go_at_call 27; (with_reducible refine (HLB.out _).mono ?_); rintro e wA ⟨rfl, hbA⟩; (have HRB := hide (HRB.out.below hbA)); (have HBL := hide (HBL.out.trans (hbA.mono HBL.out.size)))) | (refine wpList_store_blk (b := w.heap.size + 1) (c := #[.int .i64 0, .string ⟨#[]⟩, .int .i64 0, .slice none 0 0, .int .i64 0, .string ⟨#[]⟩, .int .i64 0, .slice none 0 0, .int .i64 0, .string ⟨#[]⟩, .int .i64 0, .slice none 0 0, .int .i64 0, .string ⟨#[]⟩, .int .i64 0, .slice none 0 0, .int .i64 0, .string ⟨#[]⟩, .int .i64 0, .slice none 0 0, .int .i64 0, .string ⟨#[]⟩, .int .i64 0, .slice none 0 0, .string ⟨#[]⟩, .string ⟨#[]⟩, .string ⟨#[]⟩, .string ⟨#[]⟩, .string ⟨#[]⟩, .string ⟨#[]⟩, .string ⟨#[]⟩, .string ⟨#[]⟩, .string ⟨#[]⟩]) (c' := #[.int .i64 0, .string ⟨#[]⟩, .int .i64 0, .slice none 0 0, .int .i64 0, .string ⟨#[]⟩, .int .i64 0, .slice none 0 0, .int .i64 0, .string ⟨#[]⟩, .int .i64 0, .slice none 0 0, .int .i64 0, .string ⟨#[]⟩, .int .i64 0, .slice none 0 0, .int .i64 0, .string ⟨#[]⟩, .int .i64 0, .slice none 0 0, .int .i64 0, .string ⟨#[]⟩, .int .i64 0, .slice none 0 0, .string ⟨#[]⟩, .string ⟨#[]⟩, .string ⟨#[]⟩, .string ⟨#[]⟩, .string ⟨#[]⟩, .string ⟨#[]⟩, .string ⟨#[]⟩, .string ⟨#[]⟩, .string ⟨#[]⟩]) rfl rfl HRB.out rfl rfl (by kernel_rfl) rfl (by kernel_rfl) ?_) | fail)
          refine bodyPost_ret (v := .tuple #[.agg #[.int .i64 0, .string ⟨#[]⟩, .int .i64 0, .slice none 0 0, .int .i64 0, .string ⟨#[]⟩, .int .i64 0, .slice none 0 0, .int .i64 0, .string ⟨#[]⟩, .int .i64 0, .slice none 0 0, .int .i64 0, .string ⟨#[]⟩, .int .i64 0, .slice none 0 0, .int .i64 0, .string ⟨#[]⟩, .int .i64 0, .slice none 0 0, .int .i64 0, .string ⟨#[]⟩, .int .i64 0, .slice none 0 0, .string ⟨#[]⟩, .string ⟨#[]⟩, .string ⟨#[]⟩, .string ⟨#[]⟩, .string ⟨#[]⟩, .string ⟨#[]⟩, .string ⟨#[]⟩, .string ⟨#[]⟩, .string ⟨#[]⟩], .bool false]) (results_blk Tryz.results15 rfl (HRB.out.setRow #[.int .i64 0, .string ⟨#[]⟩, .int .i64 0, .slice none 0 0, .int .i64 0, .string ⟨#[]⟩, .int .i64 0, .slice none 0 0, .int .i64 0, .string ⟨#[]⟩, .int .i64 0, .slice none 0 0, .int .i64 0, .string ⟨#[]⟩, .int .i64 0, .slice none 0 0, .int .i64 0, .string ⟨#[]⟩, .int .i64 0, .slice none 0 0, .int .i64 0, .string ⟨#[]⟩, .int .i64 0, .slice none 0 0, .string ⟨#[]⟩, .string ⟨#[]⟩, .string ⟨#[]⟩, .string ⟨#[]⟩, .string ⟨#[]⟩, .string ⟨#[]⟩, .string ⟨#[]⟩, .string ⟨#[]⟩, .string ⟨#[]⟩]) Tryz.underlying44 rfl (by kernel_rfl)) rfl ?_
          exact ConfP.no HNO.out (below_setRow HBL.out (by omega) _)
        | true =>
          have HLB := hide (fun (W : World) => (show Calls Tryz.prog 27 #[.string q8] W (fun e w' => e = .returned (.bool true) ∧ Below W.heap.size W w') by have := Tk.implLabs q8 W HQS.out.2.2.2.2.2.2.2.2; rw [hlb2] at this; exact this))
          have HYES := hide (show quB 8 q8 = true by unfold quB; rw [decide_eq_true h3, hlb2, hem]; rfl)
          clear h3 hlb2
          go_wp2_with (first | (go_at_call 27; (with_reducible refine (HLB.out _).mono ?_); rintro e wA ⟨rfl, hbA⟩; (have HW2 := hide (HW2.out.trans (hbA.mono HW2.out.size)))) | fail)
          go_roundw
          case rel => exact ⟨9, by omega, rfl, HPR.out.step HYES.out, HW2.out⟩
          case measure => simp [intOf]
    | 9, _, hiv, HPR =>
      obtain rfl : _ = Value.int .i64 (9 : Int) := hiv
      have HLS := hide (show okc = (cuB g0 65 && (cuB g1 66 && cuB g2 67)) by
        have hq : ∀ i, i < 9 → quB i ([q0, q1, q2, q3, q4, q5, q6, q7, q8].getD i ⟨#[]⟩) = true := HPR.out
        rw [HOKC.out, show quB 0 q0 = true from hq 0 (by omega), show quB 1 q1 = true from hq 1 (by omega), show quB 2 q2 = true from hq 2 (by omega), show quB 3 q3 = true from hq 3 (by omega), show quB 4 q4 = true from hq 4 (by omega), show quB 5 q5 = true from hq 5 (by omega), show quB 6 q6 = true from hq 6 (by omega), show quB 7 q7 = true from hq 7 (by omega), show quB 8 q8 = true from hq 8 (by omega)]
        rfl)
      have HCB := hide (HCB.out.below HW2.out)
      have z0 := HCB.out.cell 0
      have z1 := HCB.out.cell 1
      have z2 := HCB.out.cell 2
      have z3 := HCB.out.cell 3
      have z4 := HCB.out.cell 4
      have z5 := HCB.out.cell 5
      have z6 := HCB.out.cell 6
      have z7 := HCB.out.cell 7
      have z8 := HCB.out.cell 8
      have z9 := HCB.out.cell 9
      have z10 := HCB.out.cell 10
      have z11 := HCB.out.cell 11
      simp only [List.getElem?_toArray, List.getElem?_cons_succ, List.getElem?_cons_zero] at z0 z1 z2 z3 z4 z5 z6 z7 z8 z9 z10 z11
      have hcl := HCB.out.lt
      go_wp2_with fail
      clear z0 z1 z2 z3 z4 z5 z6 z7 z8 z9 z10 z11 hcl HW2 HPR HOKC HQS
      go_loopw [62] (fun iv wr2 => ∃ i : Nat, i ≤ 3 ∧ iv = .int .i64 i ∧ CurS W.heap.size (w.heap.size + 1) g0 g1 g2 t0 t1 t2 k0 k1 k2 q0 q1 q2 q3 q4 q5 q6 q7 q8 i wr2 ∧ Below w.heap.size w wr2 ∧ Blk wr2 (w.heap.size + 1) #[.int .i64 0, .string ⟨#[]⟩, .int .i64 0, .slice none 0 0, .int .i64 0, .string ⟨#[]⟩, .int .i64 0, .slice none 0 0, .int .i64 0, .string ⟨#[]⟩, .int .i64 0, .slice none 0 0, .int .i64 0, .string ⟨#[]⟩, .int .i64 0, .slice none 0 0, .int .i64 0, .string ⟨#[]⟩, .int .i64 0, .slice none 0 0, .int .i64 0, .string ⟨#[]⟩, .int .i64 0, .slice none 0 0, .string ⟨#[]⟩, .string ⟨#[]⟩, .string ⟨#[]⟩, .string ⟨#[]⟩, .string ⟨#[]⟩, .string ⟨#[]⟩, .string ⟨#[]⟩, .string ⟨#[]⟩, .string ⟨#[]⟩]) (fun iv _ => 3 - (intOf iv).toNat)
      case atStart => exact ⟨0, by omega, rfl, HCB.out, HBL.out, HRB.out⟩
      case round =>
        clear HRB HCB HBL HBL2
        obtain ⟨i, hi, hiv, hcur, hbl, hrb⟩ := hrel
        have HCUR := hide hcur
        have HBL := hide hbl
        have HRB := hide hrb
        clear hcur hbl hrb
        match i, hi, hiv, HCUR with
        | 0, _, hiv, HCUR =>
          obtain rfl : _ = Value.int .i64 (0 : Int) := hiv
          have hblk : Blk _ _ #[.int .i64 g0.k, .string g0.fr, .int .i64 g0.ix, .slice t0 g0.kids.len k0, .int .i64 g1.k, .string g1.fr, .int .i64 g1.ix, .slice t1 g1.kids.len k1, .int .i64 g2.k, .string g2.fr, .int .i64 g2.ix, .slice t2 g2.kids.len k2, .int .i64 0, .string ⟨#[]⟩, .int .i64 0, .slice none 0 0, .int .i64 0, .string ⟨#[]⟩, .int .i64 0, .slice none 0 0, .int .i64 0, .string ⟨#[]⟩, .int .i64 0, .slice none 0 0, .string q0, .string q1, .string q2, .string q3, .string q4, .string q5, .string q6, .string q7, .string q8] := HCUR.out
          have HBLK := hide hblk
          have hix2 : ∀ W : World, (Instr.index ( /- t -/ 41) (.agg #[.int .i64 g0.k, .string g0.fr, .int .i64 g0.ix, .slice t0 g0.kids.len k0, .int .i64 g1.k, .string g1.fr, .int .i64 g1.ix, .slice t1 g1.kids.len k1, .int .i64 g2.k, .string g2.fr, .int .i64 g2.ix, .slice t2 g2.kids.len k2]) (.int .i64 0)).run Tryz.prog W = .ok (.agg #[.int .i64 g0.k, .string g0.fr, .int .i64 g0.ix, .slice t0 g0.kids.len k0]) W := fun W => by kernel_rfl
          clear hblk
          go_wp2_with fail
          obtain ⟨V, hV⟩ : ∃ V, V = wr.alloc (.cells #[.int .i64 g0.k, .string g0.fr, .int .i64 g0.ix, .slice t0 g0.kids.len k0] ( /- t -/ 40)) := ⟨_, rfl⟩
          have HB9 := hide (show Box4 V wr.heap.size (.int .i64 g0.k) (.string g0.fr) (.int .i64 g0.ix) (.slice t0 g0.kids.len k0) by rw [hV]; exact Box4.now wr _ _ _ _ _)
          have HVB := hide (show Below wr.heap.size wr V by rw [hV]; exact alloc_below _ _)
          have HVS := hide (show V.heap.size = wr.heap.size + 1 by rw [hV]; simp)
          have HSL0 := hide ((HC0.out.l0.still (Still.of_below HBL.out)).still (Still.of_below HVB.out))
          have HSL := hide (HSL0.out.still (still_drew V))
          rw [← hV]
          clear hV hix2
          have HRO := hide (fun (W : World) => (show Calls Tryz.prog 29 #[.int .i64 0] W (fun e w' => e = .returned (.string ⟨#[65]⟩) ∧ W = w') from implLett0 W))
          cases hcu : cuB g0 65 with
          | false =>
            obtain ⟨R, hR⟩ : ∃ R, R = curR ⟨g0.k, g0.fr, g0.ix, g0.kids⟩ 65 := ⟨_, rfl⟩
            have HCT := hide (fun (W : World) (hs : Sl W (.slice t0 g0.kids.len k0) g0.kids) => (show Calls Tryz.prog 28 #[.agg #[.int .i64 g0.k, .string g0.fr, .int .i64 g0.ix, .slice t0 g0.kids.len k0], .string ⟨#[65]⟩] W (MadeR R false W) by have := implCur W ⟨g0.k, g0.fr, g0.ix, g0.kids⟩ (.slice t0 g0.kids.len k0) 65 hs; rw [← hR, show curOk ⟨g0.k, g0.fr, g0.ix, g0.kids⟩ 65 = false from hcu] at this; exact this))
            have HNO := hide (show okc = false by rw [HLS.out, hcu]; simp)
            clear hR hcu
            refine wp_region_held_drew (S := (fun w' => Box4 w' wr.heap.size (.int .i64 g0.k) (.string g0.fr) (.int .i64 g0.ix) (.slice t0 g0.kids.len k0))) (by kernel_rfl) ?_ (fun hHeld => ?_)
            · exact HB9.out.drew
            refine wpAnyH_take (i := 0) (v := ?v0p00) rfl (by kernel_rfl) (by kernel_rfl) (by kernel_rfl) (fun _ _ _ h => h) (Or.inl ⟨by kernel_rfl, ?hy0p00⟩) (by assumption) ?rest0p00
            case hy0p00 => ((intro wS hSw); (obtain ⟨y0, y1, y2, y3⟩ := Box4.cells hSw); (go_simp); (try with_reducible rfl))
            change wpAnyH _ _ _ _ _ _ _ (Act.put _ (some 67) _) _
            (try simp only [Act.put]); (try simp only [List.setIfInBounds_toArray]); (try simp only [List.set_cons_zero]); (try simp only [List.set_cons_succ])
            refine wpAnyH_take (i := 1) (v := ?v1p00) rfl (by kernel_rfl) (by kernel_rfl) (by kernel_rfl) (fun _ _ _ h => h) (Or.inl ⟨by kernel_rfl, ?hy1p00⟩) (by assumption) ?rest1p00
            case hy1p00 => ((intro wS hSw); (obtain ⟨y0, y1, y2, y3⟩ := Box4.cells hSw); (go_simp); (try with_reducible rfl))
            change wpAnyH _ _ _ _ _ _ _ (Act.put _ (some 68) _) _
            (try simp only [Act.put]); (try simp only [List.setIfInBounds_toArray]); (try simp only [List.set_cons_zero]); (try simp only [List.set_cons_succ])
            refine wpAnyH_ready (rs := [2, 7]) (by kernel_rfl) (by simp) (AllReadyH.cons rfl (fun K hK => ?ka00) (AllReadyH.cons rfl (fun K hK => ?kb00) AllReadyH.nil))
            case' ka00 =>
              rw [if_pos (by kernel_rfl)]
              go_simp
              (go_at_call 29; (with_reducible refine (HRO.out _).mono ?_); rintro e wF ⟨rfl, rfl⟩)
              refine hK.out _ _ ?_ (fun hHeld => ?_)
              · exact HB9.out.drew
              clear hK K
              (try simp only [Act.put]); (try simp only [List.setIfInBounds_toArray]); (try simp only [List.set_cons_zero]); (try simp only [List.set_cons_succ])
              refine wpAnyH_ready (rs := [3, 7]) (by kernel_rfl) (by simp) (AllReadyH.cons rfl (fun K hK => ?kc00) (AllReadyH.cons rfl (fun K hK => ?kd00) AllReadyH.nil))
              case' kc00 =>
                rw [if_pos (by kernel_rfl)]
                go_simp
                go_at_call 28
                refine (HCT.out _ HSL.out).mono ?_
                rintro e wC ⟨u0, b0, rfl, how, hge, hnd, hbC⟩
                obtain ⟨ua, uc, rfl⟩ := how.val
                have HOW := hide how
                have HGE := hide hge
                have HBC := hide hbC
                clear how hge hnd hbC
                refine hK.out _ _ ?_ (fun hHeld => ?_)
                · exact HB9.out.drew.below HBC.out
                clear hK K
                (try simp only [Act.put]); (try simp only [List.setIfInBounds_toArray]); (try simp only [List.set_cons_zero]); (try simp only [List.set_cons_succ])
                have HB9C := hide (HB9.out.drew.below HBC.out)
                refine wpAnyH_take (i := 4) (v := ?v4c00) rfl (by kernel_rfl) (by kernel_rfl) (by kernel_rfl) (fun _ _ _ h => h) (Or.inl ⟨by kernel_rfl, ?hy4c00⟩) (by assumption) ?rest4c00
                case hy4c00 => ((intro wS hSw); (obtain ⟨y0, y1, y2, y3⟩ := Box4.cells hSw); (go_simp); (try with_reducible rfl))
                change wpAnyH _ _ _ _ _ _ _ (Act.put _ (some 66) _) _
                (try simp only [Act.put]); (try simp only [List.setIfInBounds_toArray]); (try simp only [List.set_cons_zero]); (try simp only [List.set_cons_succ])
                refine wpAnyH_take (i := 5) (v := ?v5c00) rfl (by kernel_rfl) (by kernel_rfl) (by kernel_rfl) (fun _ _ _ h => h) (Or.inl ⟨by kernel_rfl, ?hy5c00⟩) (by assumption) ?rest5c00
                case hy5c00 => ((intro wS hSw); (obtain ⟨y0, y1, y2, y3⟩ := Box4.cells hSw); (go_simp); (try with_reducible rfl))
                change wpAnyH _ _ _ _ _ _ _ (Act.put _ (some 71) _) _
                (try simp only [Act.put]); (try simp only [List.setIfInBounds_toArray]); (try simp only [List.set_cons_zero]); (try simp only [List.set_cons_succ])
                refine wpAnyH_take (i := 6) (v := ?v6c00) rfl (by kernel_rfl) (by kernel_rfl) (by kernel_rfl) (fun _ _ _ h => h) (Or.inl ⟨by kernel_rfl, ?hy6c00⟩) (by assumption) ?rest6c00
                case hy6c00 => ((intro wS hSw); (obtain ⟨y0, y1, y2, y3⟩ := Box4.cells hSw); (go_simp); (try with_reducible rfl))
                change wpAnyH _ _ _ _ _ _ _ (Act.put _ (some 72) _) _
                (try simp only [Act.put]); (try simp only [List.setIfInBounds_toArray]); (try simp only [List.set_cons_zero]); (try simp only [List.set_cons_succ])
                refine wpAnyH_ready (rs := [7]) (by kernel_rfl) (by simp) (AllReadyH.cons rfl (fun K hK => ?_) AllReadyH.nil)
                rw [if_pos (by kernel_rfl)]
                go_simp
                refine hK.out _ _ ?_ (fun hHeld => ?_)
                · exact (Box4.below (HB9C.out) (alloc_below _ _))
                clear hK K
                (try simp only [Act.put]); (try simp only [List.setIfInBounds_toArray]); (try simp only [List.set_cons_zero]); (try simp only [List.set_cons_succ])
                refine wpAnyH_ready (rs := [8]) (by kernel_rfl) (by simp) (AllReadyH.cons rfl (fun K hK => ?_) AllReadyH.nil)
                rw [if_pos (by kernel_rfl)]
                go_simp
                refine hK.out _ _ ?_ (fun hHeld => ?_)
                · exact (Box4.below (HB9C.out) (alloc_below _ _))
                clear hK K
                (try simp only [Act.put]); (try simp only [List.setIfInBounds_toArray]); (try simp only [List.set_cons_zero]); (try simp only [List.set_cons_succ])
                refine wpAnyH_take (i := 9) (v := ?v9c00) rfl (by kernel_rfl) (by kernel_rfl) (by kernel_rfl) (fun _ _ _ h => h) (Or.inl ⟨by kernel_rfl, ?hy9c00⟩) (by assumption) ?rest9c00
                case hy9c00 => ((intro wS hSw); (obtain ⟨y0, y1, y2, y3⟩ := Box4.cells hSw); (go_simp); (try with_reducible rfl))
                change wpAnyH _ _ _ _ _ _ _ (Act.put _ (some 11) _) _
                (try simp only [Act.put]); (try simp only [List.setIfInBounds_toArray]); (try simp only [List.set_cons_zero]); (try simp only [List.set_cons_succ])
                refine wpAnyH_done (by kernel_rfl) ?_ _
                have HBF := hide ((show Below V.heap.size V V.drew from (Below.refl _ _).drew).trans (HBC.out.trans ((alloc_below wC (.cells #[.int .i64 R.k, .string R.fr, .int .i64 R.ix, .slice ua R.kids.len uc] ( /- t -/ 40))).mono (HBC.out.size))))
                have HBX := hide (Box4.now wC (.int .i64 R.k) (.string R.fr) (.int .i64 R.ix) (.slice ua R.kids.len uc) ( /- t -/ 40))
                have HOX := hide (HOW.out.same (Same.of_below (alloc_below wC (.cells #[.int .i64 R.k, .string R.fr, .int .i64 R.ix, .slice ua R.kids.len uc] ( /- t -/ 40))) HOW.out.lt))
                have hge2 : V.heap.size ≤ wC.heap.size := HBC.out.size
                generalize wC.alloc (.cells #[.int .i64 R.k, .string R.fr, .int .i64 R.ix, .slice ua R.kids.len uc] ( /- t -/ 40)) = X at *
                have HGN := hide (fun x (hx : x ∈ b0) => (show V.heap.size ≤ x by have := HGE.out x hx; simpa using this))
                generalize wC.heap.size = B10 at *
                have HBX2 := hide (HVB.out.trans (HBF.out.mono HVB.out.size))
                have HRB := hide (HRB.out.below HBX2.out)
                have HBL3 := HBL
                have HBL := hide (HBL.out.trans (HBX2.out.mono HBL.out.size))
                go_wp2_with (first | (refine wpList_store_blk (b := w.heap.size + 1) (c := #[.int .i64 0, .string ⟨#[]⟩, .int .i64 0, .slice none 0 0, .int .i64 0, .string ⟨#[]⟩, .int .i64 0, .slice none 0 0, .int .i64 0, .string ⟨#[]⟩, .int .i64 0, .slice none 0 0, .int .i64 0, .string ⟨#[]⟩, .int .i64 0, .slice none 0 0, .int .i64 0, .string ⟨#[]⟩, .int .i64 0, .slice none 0 0, .int .i64 0, .string ⟨#[]⟩, .int .i64 0, .slice none 0 0, .string ⟨#[]⟩, .string ⟨#[]⟩, .string ⟨#[]⟩, .string ⟨#[]⟩, .string ⟨#[]⟩, .string ⟨#[]⟩, .string ⟨#[]⟩, .string ⟨#[]⟩, .string ⟨#[]⟩]) (c' := #[.int .i64 0, .string ⟨#[]⟩, .int .i64 0, .slice none 0 0, .int .i64 0, .string ⟨#[]⟩, .int .i64 0, .slice none 0 0, .int .i64 0, .string ⟨#[]⟩, .int .i64 0, .slice none 0 0, .int .i64 0, .string ⟨#[]⟩, .int .i64 0, .slice none 0 0, .int .i64 0, .string ⟨#[]⟩, .int .i64 0, .slice none 0 0, .int .i64 0, .string ⟨#[]⟩, .int .i64 0, .slice none 0 0, .string ⟨#[]⟩, .string ⟨#[]⟩, .string ⟨#[]⟩, .string ⟨#[]⟩, .string ⟨#[]⟩, .string ⟨#[]⟩, .string ⟨#[]⟩, .string ⟨#[]⟩, .string ⟨#[]⟩]) rfl rfl HRB.out rfl rfl (by kernel_rfl) rfl (by kernel_rfl) ?_) | fail)
                refine bodyPost_ret (v := .tuple #[.agg #[.int .i64 0, .string ⟨#[]⟩, .int .i64 0, .slice none 0 0, .int .i64 0, .string ⟨#[]⟩, .int .i64 0, .slice none 0 0, .int .i64 0, .string ⟨#[]⟩, .int .i64 0, .slice none 0 0, .int .i64 0, .string ⟨#[]⟩, .int .i64 0, .slice none 0 0, .int .i64 0, .string ⟨#[]⟩, .int .i64 0, .slice none 0 0, .int .i64 0, .string ⟨#[]⟩, .int .i64 0, .slice none 0 0, .string ⟨#[]⟩, .string ⟨#[]⟩, .string ⟨#[]⟩, .string ⟨#[]⟩, .string ⟨#[]⟩, .string ⟨#[]⟩, .string ⟨#[]⟩, .string ⟨#[]⟩, .string ⟨#[]⟩], .bool false]) (results_blk Tryz.results15 rfl (HRB.out.setRow #[.int .i64 0, .string ⟨#[]⟩, .int .i64 0, .slice none 0 0, .int .i64 0, .string ⟨#[]⟩, .int .i64 0, .slice none 0 0, .int .i64 0, .string ⟨#[]⟩, .int .i64 0, .slice none 0 0, .int .i64 0, .string ⟨#[]⟩, .int .i64 0, .slice none 0 0, .int .i64 0, .string ⟨#[]⟩, .int .i64 0, .slice none 0 0, .int .i64 0, .string ⟨#[]⟩, .int .i64 0, .slice none 0 0, .string ⟨#[]⟩, .string ⟨#[]⟩, .string ⟨#[]⟩, .string ⟨#[]⟩, .string ⟨#[]⟩, .string ⟨#[]⟩, .string ⟨#[]⟩, .string ⟨#[]⟩, .string ⟨#[]⟩]) Tryz.underlying44 rfl (by kernel_rfl)) rfl ?_
                exact ConfP.no HNO.out (below_setRow HBL.out (by omega) _)
              case' kd00 =>
                rw [if_pos (by kernel_rfl)]
                go_simp
                have HBA := hide (show Below V.heap.size V (V.alloc (.cells #[.int .i64 0, .string ⟨#[]⟩, .int .i64 0, .slice none 0 0] ( /- t -/ 40))).drew from (alloc_below V _).drew)
                have HSL := hide (HSL0.out.still (Still.of_below HBA.out))
                have HZ10 := hide ((Box4.now V (.int .i64 0) (.string ⟨#[]⟩) (.int .i64 0) (.slice none 0 0) ( /- t -/ 40)).drew)
                have HB9A := hide (HB9.out.below HBA.out)
                refine hK.out _ _ ?_ (fun hHeld => ?_)
                · exact HB9A.out
                clear hK K
                (try simp only [Act.put]); (try simp only [List.setIfInBounds_toArray]); (try simp only [List.set_cons_zero]); (try simp only [List.set_cons_succ])
                refine wpAnyH_ready (rs := [3]) (by kernel_rfl) (by simp) (AllReadyH.cons rfl (fun K hK => ?_) AllReadyH.nil)
                rw [if_pos (by kernel_rfl)]
                go_simp
                go_at_call 28
                refine (HCT.out _ HSL.out).mono ?_
                rintro e wC ⟨u0, b0, rfl, how, hge, hnd, hbC⟩
                obtain ⟨ua, uc, rfl⟩ := how.val
                have HOW := hide how
                have HGE := hide hge
                have HBC := hide hbC
                clear how hge hnd hbC
                have HB9C := hide (HB9A.out.below HBC.out)
                have HZ10 := hide (HZ10.out.below HBC.out)
                obtain ⟨h0, h1, h2, h3⟩ := HZ10.out.cells
                have hf10 := HZ10.out.frozen
                have hl10 := HZ10.out.lt
                refine hK.out _ _ ?_ (fun hHeld => ?_)
                · exact HB9C.out
                clear hK K
                (try simp only [Act.put]); (try simp only [List.setIfInBounds_toArray]); (try simp only [List.set_cons_zero]); (try simp only [List.set_cons_succ])
                have HB9S := hide (fun (v0 v1 v2 v3 : Value) => (show Box4 (set4 wC V.heap.size 0 v0 v1 v2 v3) wr.heap.size (.int .i64 g0.k) (.string g0.fr) (.int .i64 g0.ix) (.slice t0 g0.kids.len k0) from HB9C.out.same (set4_other _ _ _ _ _ _ _ _ (by have := HVS.out; omega))))
                refine wpAnyH_take (i := 4) (v := ?v4d00) rfl (by kernel_rfl) (by kernel_rfl) (by kernel_rfl) (fun _ _ _ h => h) (Or.inl ⟨by kernel_rfl, ?hy4d00⟩) (by assumption) ?rest4d00
                case hy4d00 => ((intro wS hSw); (obtain ⟨y0, y1, y2, y3⟩ := Box4.cells hSw); (go_simp); (try with_reducible rfl))
                change wpAnyH _ _ _ _ _ _ _ (Act.put _ (some 66) _) _
                (try simp only [Act.put]); (try simp only [List.setIfInBounds_toArray]); (try simp only [List.set_cons_zero]); (try simp only [List.set_cons_succ])
                refine wpAnyH_take (i := 5) (v := ?v5d00) rfl (by kernel_rfl) (by kernel_rfl) (by kernel_rfl) (fun _ _ _ h => h) (Or.inl ⟨by kernel_rfl, ?hy5d00⟩) (by assumption) ?rest5d00
                case hy5d00 => ((intro wS hSw); (obtain ⟨y0, y1, y2, y3⟩ := Box4.cells hSw); (go_simp); (try with_reducible rfl))
                change wpAnyH _ _ _ _ _ _ _ (Act.put _ (some 71) _) _
                (try simp only [Act.put]); (try simp only [List.setIfInBounds_toArray]); (try simp only [List.set_cons_zero]); (try simp only [List.set_cons_succ])
                refine wpAnyH_take (i := 6) (v := ?v6d00) rfl (by kernel_rfl) (by kernel_rfl) (by kernel_rfl) (fun _ _ _ h => h) (Or.inl ⟨by kernel_rfl, ?hy6d00⟩) (by assumption) ?rest6d00
                case hy6d00 => ((intro wS hSw); (obtain ⟨y0, y1, y2, y3⟩ := Box4.cells hSw); (go_simp); (try with_reducible rfl))
                change wpAnyH _ _ _ _ _ _ _ (Act.put _ (some 72) _) _
                (try simp only [Act.put]); (try simp only [List.setIfInBounds_toArray]); (try simp only [List.set_cons_zero]); (try simp only [List.set_cons_succ])
                refine wpAnyH_ready (rs := [8]) (by kernel_rfl) (by simp) (AllReadyH.cons rfl (fun K hK => ?_) AllReadyH.nil)
                rw [if_pos (by kernel_rfl)]
                go_simp
                refine hK.out _ _ ?_ (fun hHeld => ?_)
                · exact HB9S.out _ _ _ _
                clear hK K
                (try simp only [Act.put]); (try simp only [List.setIfInBounds_toArray]); (try simp only [List.set_cons_zero]); (try simp only [List.set_cons_succ])
                refine wpAnyH_take (i := 9) (v := ?v9d00) rfl (by kernel_rfl) (by kernel_rfl) (by kernel_rfl) (fun _ _ _ h => h) (Or.inl ⟨by kernel_rfl, ?hy9d00⟩) (by assumption) ?rest9d00
                case hy9d00 => ((intro wS hSw); (obtain ⟨y0, y1, y2, y3⟩ := Box4.cells hSw); (go_simp); (try with_reducible rfl))
                change wpAnyH _ _ _ _ _ _ _ (Act.put _ (some 11) _) _
                (try simp only [Act.put]); (try simp only [List.setIfInBounds_toArray]); (try simp only [List.set_cons_zero]); (try simp only [List.set_cons_succ])
                refine wpAnyH_done (by kernel_rfl) ?_ _
                have hge2 : V.heap.size ≤ V.heap.size := Nat.le_refl _
                have HBF := hide (set4_below (HBA.out.trans (HBC.out.mono HBA.out.size)) V.heap.size 0 (Nat.le_refl _) (.int .i64 R.k) (.string R.fr) (.int .i64 R.ix) (.slice ua R.kids.len uc))
                have HBX := hide (HZ10.out.setAll (.int .i64 R.k) (.string R.fr) (.int .i64 R.ix) (.slice ua R.kids.len uc))
                have HOX := hide (HOW.out.same (show Same wC (set4 wC V.heap.size 0 (.int .i64 R.k) (.string R.fr) (.int .i64 R.ix) (.slice ua R.kids.len uc)) b0 from fun x hx => set4_other _ _ _ _ _ _ _ _ (by have := HGE.out x hx; simp at this; omega)))
                change Exit.then _ _ _ _ (set4 wC V.heap.size 0 (.int .i64 R.k) (.string R.fr) (.int .i64 R.ix) (.slice ua R.kids.len uc))
                change Hid (Box4 (set4 wC V.heap.size 0 (.int .i64 R.k) (.string R.fr) (.int .i64 R.ix) (.slice ua R.kids.len uc)) _ _ _ _ _) at HBX
                generalize set4 wC V.heap.size 0 (.int .i64 R.k) (.string R.fr) (.int .i64 R.ix) (.slice ua R.kids.len uc) = X at *
                obtain ⟨B10, hB10⟩ : ∃ B10, B10 = V.heap.size := ⟨_, rfl⟩
                rw [← hB10] at HBX hge2 ⊢
                clear hB10
                have HGN := hide (fun x (hx : x ∈ b0) => (show V.heap.size ≤ x by have := HGE.out x hx; simp at this; omega))
                have HBX2 := hide (HVB.out.trans (HBF.out.mono HVB.out.size))
                have HRB := hide (HRB.out.below HBX2.out)
                have HBL3 := HBL
                have HBL := hide (HBL.out.trans (HBX2.out.mono HBL.out.size))
                go_wp2_with (first | (refine wpList_store_blk (b := w.heap.size + 1) (c := #[.int .i64 0, .string ⟨#[]⟩, .int .i64 0, .slice none 0 0, .int .i64 0, .string ⟨#[]⟩, .int .i64 0, .slice none 0 0, .int .i64 0, .string ⟨#[]⟩, .int .i64 0, .slice none 0 0, .int .i64 0, .string ⟨#[]⟩, .int .i64 0, .slice none 0 0, .int .i64 0, .string ⟨#[]⟩, .int .i64 0, .slice none 0 0, .int .i64 0, .string ⟨#[]⟩, .int .i64 0, .slice none 0 0, .string ⟨#[]⟩, .string ⟨#[]⟩, .string ⟨#[]⟩, .string ⟨#[]⟩, .string ⟨#[]⟩, .string ⟨#[]⟩, .string ⟨#[]⟩, .string ⟨#[]⟩, .string ⟨#[]⟩]) (c' := #[.int .i64 0, .string ⟨#[]⟩, .int .i64 0, .slice none 0 0, .int .i64 0, .string ⟨#[]⟩, .int .i64 0, .slice none 0 0, .int .i64 0, .string ⟨#[]⟩, .int .i64 0, .slice none 0 0, .int .i64 0, .string ⟨#[]⟩, .int .i64 0, .slice none 0 0, .int .i64 0, .string ⟨#[]⟩, .int .i64 0, .slice none 0 0, .int .i64 0, .string ⟨#[]⟩, .int .i64 0, .slice none 0 0, .string ⟨#[]⟩, .string ⟨#[]⟩, .string ⟨#[]⟩, .string ⟨#[]⟩, .string ⟨#[]⟩, .string ⟨#[]⟩, .string ⟨#[]⟩, .string ⟨#[]⟩, .string ⟨#[]⟩]) rfl rfl HRB.out rfl rfl (by kernel_rfl) rfl (by kernel_rfl) ?_) | fail)
                refine bodyPost_ret (v := .tuple #[.agg #[.int .i64 0, .string ⟨#[]⟩, .int .i64 0, .slice none 0 0, .int .i64 0, .string ⟨#[]⟩, .int .i64 0, .slice none 0 0, .int .i64 0, .string ⟨#[]⟩, .int .i64 0, .slice none 0 0, .int .i64 0, .string ⟨#[]⟩, .int .i64 0, .slice none 0 0, .int .i64 0, .string ⟨#[]⟩, .int .i64 0, .slice none 0 0, .int .i64 0, .string ⟨#[]⟩, .int .i64 0, .slice none 0 0, .string ⟨#[]⟩, .string ⟨#[]⟩, .string ⟨#[]⟩, .string ⟨#[]⟩, .string ⟨#[]⟩, .string ⟨#[]⟩, .string ⟨#[]⟩, .string ⟨#[]⟩, .string ⟨#[]⟩], .bool false]) (results_blk Tryz.results15 rfl (HRB.out.setRow #[.int .i64 0, .string ⟨#[]⟩, .int .i64 0, .slice none 0 0, .int .i64 0, .string ⟨#[]⟩, .int .i64 0, .slice none 0 0, .int .i64 0, .string ⟨#[]⟩, .int .i64 0, .slice none 0 0, .int .i64 0, .string ⟨#[]⟩, .int .i64 0, .slice none 0 0, .int .i64 0, .string ⟨#[]⟩, .int .i64 0, .slice none 0 0, .int .i64 0, .string ⟨#[]⟩, .int .i64 0, .slice none 0 0, .string ⟨#[]⟩, .string ⟨#[]⟩, .string ⟨#[]⟩, .string ⟨#[]⟩, .string ⟨#[]⟩, .string ⟨#[]⟩, .string ⟨#[]⟩, .string ⟨#[]⟩, .string ⟨#[]⟩]) Tryz.underlying44 rfl (by kernel_rfl)) rfl ?_
                exact ConfP.no HNO.out (below_setRow HBL.out (by omega) _)
            case' kb00 =>
              rw [if_pos (by kernel_rfl)]
              go_simp
              have HBA := hide (show Below V.heap.size V (V.alloc (.cells #[.int .i64 0, .string ⟨#[]⟩, .int .i64 0, .slice none 0 0] ( /- t -/ 40))).drew from (alloc_below V _).drew)
              have HSL := hide (HSL0.out.still (Still.of_below HBA.out))
              have HZ10 := hide ((Box4.now V (.int .i64 0) (.string ⟨#[]⟩) (.int .i64 0) (.slice none 0 0) ( /- t -/ 40)).drew)
              have HB9A := hide (HB9.out.below HBA.out)
              refine hK.out _ _ ?_ (fun hHeld => ?_)
              · exact HB9A.out
              clear hK K
              (try simp only [Act.put]); (try simp only [List.setIfInBounds_toArray]); (try simp only [List.set_cons_zero]); (try simp only [List.set_cons_succ])
              refine wpAnyH_ready (rs := [2]) (by kernel_rfl) (by simp) (AllReadyH.cons rfl (fun K hK => ?_) AllReadyH.nil)
              rw [if_pos (by kernel_rfl)]
              go_simp
              (go_at_call 29; (with_reducible refine (HRO.out _).mono ?_); rintro e wF ⟨rfl, rfl⟩)
              refine hK.out _ _ ?_ (fun hHeld => ?_)
              · exact HB9A.out
              clear hK K
              (try simp only [Act.put]); (try simp only [List.setIfInBounds_toArray]); (try simp only [List.set_cons_zero]); (try simp only [List.set_cons_succ])
              refine wpAnyH_ready (rs := [3]) (by kernel_rfl) (by simp) (AllReadyH.cons rfl (fun K hK => ?_) AllReadyH.nil)
              rw [if_pos (by kernel_rfl)]
              go_simp
              go_at_call 28
              refine (HCT.out _ HSL.out).mono ?_
              rintro e wC ⟨u0, b0, rfl, how, hge, hnd, hbC⟩
              obtain ⟨ua, uc, rfl⟩ := how.val
              have HOW := hide how
              have HGE := hide hge
              have HBC := hide hbC
              clear how hge hnd hbC
              have HB9C := hide (HB9A.out.below HBC.out)
              have HZ10 := hide (HZ10.out.below HBC.out)
              obtain ⟨h0, h1, h2, h3⟩ := HZ10.out.cells
              have hf10 := HZ10.out.frozen
              have hl10 := HZ10.out.lt
              refine hK.out _ _ ?_ (fun hHeld => ?_)
              · exact HB9C.out
              clear hK K
              (try simp only [Act.put]); (try simp only [List.setIfInBounds_toArray]); (try simp only [List.set_cons_zero]); (try simp only [List.set_cons_succ])
              have HB9S := hide (fun (v0 v1 v2 v3 : Value) => (show Box4 (set4 wC V.heap.size 0 v0 v1 v2 v3) wr.heap.size (.int .i64 g0.k) (.string g0.fr) (.int .i64 g0.ix) (.slice t0 g0.kids.len k0) from HB9C.out.same (set4_other _ _ _ _ _ _ _ _ (by have := HVS.out; omega))))
              refine wpAnyH_take (i := 4) (v := ?v4b00) rfl (by kernel_rfl) (by kernel_rfl) (by kernel_rfl) (fun _ _ _ h => h) (Or.inl ⟨by kernel_rfl, ?hy4b00⟩) (by assumption) ?rest4b00
              case hy4b00 => ((intro wS hSw); (obtain ⟨y0, y1, y2, y3⟩ := Box4.cells hSw); (go_simp); (try with_reducible rfl))
              change wpAnyH _ _ _ _ _ _ _ (Act.put _ (some 66) _) _
              (try simp only [Act.put]); (try simp only [List.setIfInBounds_toArray]); (try simp only [List.set_cons_zero]); (try simp only [List.set_cons_succ])
              refine wpAnyH_take (i := 5) (v := ?v5b00) rfl (by kernel_rfl) (by kernel_rfl) (by kernel_rfl) (fun _ _ _ h => h) (Or.inl ⟨by kernel_rfl, ?hy5b00⟩) (by assumption) ?rest5b00
              case hy5b00 => ((intro wS hSw); (obtain ⟨y0, y1, y2, y3⟩ := Box4.cells hSw); (go_simp); (try with_reducible rfl))
              change wpAnyH _ _ _ _ _ _ _ (Act.put _ (some 71) _) _
              (try simp only [Act.put]); (try simp only [List.setIfInBounds_toArray]); (try simp only [List.set_cons_zero]); (try simp only [List.set_cons_succ])
              refine wpAnyH_take (i := 6) (v := ?v6b00) rfl (by kernel_rfl) (by kernel_rfl) (by kernel_rfl) (fun _ _ _ h => h) (Or.inl ⟨by kernel_rfl, ?hy6b00⟩) (by assumption) ?rest6b00
              case hy6b00 => ((intro wS hSw); (obtain ⟨y0, y1, y2, y3⟩ := Box4.cells hSw); (go_simp); (try with_reducible rfl))
              change wpAnyH _ _ _ _ _ _ _ (Act.put _ (some 72) _) _
              (try simp only [Act.put]); (try simp only [List.setIfInBounds_toArray]); (try simp only [List.set_cons_zero]); (try simp only [List.set_cons_succ])
              refine wpAnyH_ready (rs := [8]) (by kernel_rfl) (by simp) (AllReadyH.cons rfl (fun K hK => ?_) AllReadyH.nil)
              rw [if_pos (by kernel_rfl)]
              go_simp
              refine hK.out _ _ ?_ (fun hHeld => ?_)
              · exact HB9S.out _ _ _ _
              clear hK K
              (try simp only [Act.put]); (try simp only [List.setIfInBounds_toArray]); (try simp only [List.set_cons_zero]); (try simp only [List.set_cons_succ])
              refine wpAnyH_take (i := 9) (v := ?v9b00) rfl (by kernel_rfl) (by kernel_rfl) (by kernel_rfl) (fun _ _ _ h => h) (Or.inl ⟨by kernel_rfl, ?hy9b00⟩) (by assumption) ?rest9b00
              case hy9b00 => ((intro wS hSw); (obtain ⟨y0, y1, y2, y3⟩ := Box4.cells hSw); (go_simp); (try with_reducible rfl))
              change wpAnyH _ _ _ _ _ _ _ (Act.put _ (some 11) _) _
              (try simp only [Act.put]); (try simp only [List.setIfInBounds_toArray]); (try simp only [List.set_cons_zero]); (try simp only [List.set_cons_succ])
              refine wpAnyH_done (by kernel_rfl) ?_ _
              have hge2 : V.heap.size ≤ V.heap.size := Nat.le_refl _
              have HBF := hide (set4_below (HBA.out.trans (HBC.out.mono HBA.out.size)) V.heap.size 0 (Nat.le_refl _) (.int .i64 R.k) (.string R.fr) (.int .i64 R.ix) (.slice ua R.kids.len uc))
              have HBX := hide (HZ10.out.setAll (.int .i64 R.k) (.string R.fr) (.int .i64 R.ix) (.slice ua R.kids.len uc))
              have HOX := hide (HOW.out.same (show Same wC (set4 wC V.heap.size 0 (.int .i64 R.k) (.string R.fr) (.int .i64 R.ix) (.slice ua R.kids.len uc)) b0 from fun x hx => set4_other _ _ _ _ _ _ _ _ (by have := HGE.out x hx; simp at this; omega)))
              change Exit.then _ _ _ _ (set4 wC V.heap.size 0 (.int .i64 R.k) (.string R.fr) (.int .i64 R.ix) (.slice ua R.kids.len uc))
              change Hid (Box4 (set4 wC V.heap.size 0 (.int .i64 R.k) (.string R.fr) (.int .i64 R.ix) (.slice ua R.kids.len uc)) _ _ _ _ _) at HBX
              generalize set4 wC V.heap.size 0 (.int .i64 R.k) (.string R.fr) (.int .i64 R.ix) (.slice ua R.kids.len uc) = X at *
              obtain ⟨B10, hB10⟩ : ∃ B10, B10 = V.heap.size := ⟨_, rfl⟩
              rw [← hB10] at HBX hge2 ⊢
              clear hB10
              have HGN := hide (fun x (hx : x ∈ b0) => (show V.heap.size ≤ x by have := HGE.out x hx; simp at this; omega))
              have HBX2 := hide (HVB.out.trans (HBF.out.mono HVB.out.size))
              have HRB := hide (HRB.out.below HBX2.out)
              have HBL3 := HBL
              have HBL := hide (HBL.out.trans (HBX2.out.mono HBL.out.size))
              go_wp2_with (first | (refine wpList_store_blk (b := w.heap.size + 1) (c := #[.int .i64 0, .string ⟨#[]⟩, .int .i64 0, .slice none 0 0, .int .i64 0, .string ⟨#[]⟩, .int .i64 0, .slice none 0 0, .int .i64 0, .string ⟨#[]⟩, .int .i64 0, .slice none 0 0, .int .i64 0, .string ⟨#[]⟩, .int .i64 0, .slice none 0 0, .int .i64 0, .string ⟨#[]⟩, .int .i64 0, .slice none 0 0, .int .i64 0, .string ⟨#[]⟩, .int .i64 0, .slice none 0 0, .string ⟨#[]⟩, .string ⟨#[]⟩, .string ⟨#[]⟩, .string ⟨#[]⟩, .string ⟨#[]⟩, .string ⟨#[]⟩, .string ⟨#[]⟩, .string ⟨#[]⟩, .string ⟨#[]⟩]) (c' := #[.int .i64 0, .string ⟨#[]⟩, .int .i64 0, .slice none 0 0, .int .i64 0, .string ⟨#[]⟩, .int .i64 0, .slice none 0 0, .int .i64 0, .string ⟨#[]⟩, .int .i64 0, .slice none 0 0, .int .i64 0, .string ⟨#[]⟩, .int .i64 0, .slice none 0 0, .int .i64 0, .string ⟨#[]⟩, .int .i64 0, .slice none 0 0, .int .i64 0, .string ⟨#[]⟩, .int .i64 0, .slice none 0 0, .string ⟨#[]⟩, .string ⟨#[]⟩, .string ⟨#[]⟩, .string ⟨#[]⟩, .string ⟨#[]⟩, .string ⟨#[]⟩, .string ⟨#[]⟩, .string ⟨#[]⟩, .string ⟨#[]⟩]) rfl rfl HRB.out rfl rfl (by kernel_rfl) rfl (by kernel_rfl) ?_) | fail)
              refine bodyPost_ret (v := .tuple #[.agg #[.int .i64 0, .string ⟨#[]⟩, .int .i64 0, .slice none 0 0, .int .i64 0, .string ⟨#[]⟩, .int .i64 0, .slice none 0 0, .int .i64 0, .string ⟨#[]⟩, .int .i64 0, .slice none 0 0, .int .i64 0, .string ⟨#[]⟩, .int .i64 0, .slice none 0 0, .int .i64 0, .string ⟨#[]⟩, .int .i64 0, .slice none 0 0, .int .i64 0, .string ⟨#[]⟩, .int .i64 0, .slice none 0 0, .string ⟨#[]⟩, .string ⟨#[]⟩, .string ⟨#[]⟩, .string ⟨#[]⟩, .string ⟨#[]⟩, .string ⟨#[]⟩, .string ⟨#[]⟩, .string ⟨#[]⟩, .string ⟨#[]⟩], .bool false]) (results_blk Tryz.results15 rfl (HRB.out.setRow #[.int .i64 0, .string ⟨#[]⟩, .int .i64 0, .slice none 0 0, .int .i64 0, .string ⟨#[]⟩, .int .i64 0, .slice none 0 0, .int .i64 0, .string ⟨#[]⟩, .int .i64 0, .slice none 0 0, .int .i64 0, .string ⟨#[]⟩, .int .i64 0, .slice none 0 0, .int .i64 0, .string ⟨#[]⟩, .int .i64 0, .slice none 0 0, .int .i64 0, .string ⟨#[]⟩, .int .i64 0, .slice none 0 0, .string ⟨#[]⟩, .string ⟨#[]⟩, .string ⟨#[]⟩, .string ⟨#[]⟩, .string ⟨#[]⟩, .string ⟨#[]⟩, .string ⟨#[]⟩, .string ⟨#[]⟩, .string ⟨#[]⟩]) Tryz.underlying44 rfl (by kernel_rfl)) rfl ?_
              exact ConfP.no HNO.out (below_setRow HBL.out (by omega) _)
          | true =>
            obtain ⟨R, hR⟩ : ∃ R, R = unf ⟨g0.k, g0.fr, g0.ix, g0.kids⟩ := ⟨_, rfl⟩
            have HCT := hide (fun (W : World) (hs : Sl W (.slice t0 g0.kids.len k0) g0.kids) => (show Calls Tryz.prog 28 #[.agg #[.int .i64 g0.k, .string g0.fr, .int .i64 g0.ix, .slice t0 g0.kids.len k0], .string ⟨#[65]⟩] W (MadeR R true W) by have := implCur W ⟨g0.k, g0.fr, g0.ix, g0.kids⟩ (.slice t0 g0.kids.len k0) 65 hs; rw [show curR ⟨g0.k, g0.fr, g0.ix, g0.kids⟩ 65 = R by rw [hR]; unfold curR; rw [show curOk ⟨g0.k, g0.fr, g0.ix, g0.kids⟩ 65 = true from hcu]; rfl, show curOk ⟨g0.k, g0.fr, g0.ix, g0.kids⟩ 65 = true from hcu] at this; exact this))
            have HR := hide hR
            have hrbl := HRB.out.lt
            clear hR
            refine wp_region_held_drew (S := (fun w' => Box4 w' wr.heap.size (.int .i64 g0.k) (.string g0.fr) (.int .i64 g0.ix) (.slice t0 g0.kids.len k0))) (by kernel_rfl) ?_ (fun hHeld => ?_)
            · exact HB9.out.drew
            refine wpAnyH_take (i := 0) (v := ?v0p01) rfl (by kernel_rfl) (by kernel_rfl) (by kernel_rfl) (fun _ _ _ h => h) (Or.inl ⟨by kernel_rfl, ?hy0p01⟩) (by assumption) ?rest0p01
            case hy0p01 => ((intro wS hSw); (obtain ⟨y0, y1, y2, y3⟩ := Box4.cells hSw); (go_simp); (try with_reducible rfl))
            change wpAnyH _ _ _ _ _ _ _ (Act.put _ (some 67) _) _
            (try simp only [Act.put]); (try simp only [List.setIfInBounds_toArray]); (try simp only [List.set_cons_zero]); (try simp only [List.set_cons_succ])
            refine wpAnyH_take (i := 1) (v := ?v1p01) rfl (by kernel_rfl) (by kernel_rfl) (by kernel_rfl) (fun _ _ _ h => h) (Or.inl ⟨by kernel_rfl, ?hy1p01⟩) (by assumption) ?rest1p01
            case hy1p01 => ((intro wS hSw); (obtain ⟨y0, y1, y2, y3⟩ := Box4.cells hSw); (go_simp); (try with_reducible rfl))
            change wpAnyH _ _ _ _ _ _ _ (Act.put _ (some 68) _) _
            (try simp only [Act.put]); (try simp only [List.setIfInBounds_toArray]); (try simp only [List.set_cons_zero]); (try simp only [List.set_cons_succ])
            refine wpAnyH_ready (rs := [2, 7]) (by kernel_rfl) (by simp) (AllReadyH.cons rfl (fun K hK => ?ka01) (AllReadyH.cons rfl (fun K hK => ?kb01) AllReadyH.nil))
            case' ka01 =>
              rw [if_pos (by kernel_rfl)]
              go_simp
              (go_at_call 29; (with_reducible refine (HRO.out _).mono ?_); rintro e wF ⟨rfl, rfl⟩)
              refine hK.out _ _ ?_ (fun hHeld => ?_)
              · exact HB9.out.drew
              clear hK K
              (try simp only [Act.put]); (try simp only [List.setIfInBounds_toArray]); (try simp only [List.set_cons_zero]); (try simp only [List.set_cons_succ])
              refine wpAnyH_ready (rs := [3, 7]) (by kernel_rfl) (by simp) (AllReadyH.cons rfl (fun K hK => ?kc01) (AllReadyH.cons rfl (fun K hK => ?kd01) AllReadyH.nil))
              case' kc01 =>
                rw [if_pos (by kernel_rfl)]
                go_simp
                go_at_call 28
                refine (HCT.out _ HSL.out).mono ?_
                rintro e wC ⟨u0, b0, rfl, how, hge, hnd, hbC⟩
                obtain ⟨ua, uc, rfl⟩ := how.val
                have HOW := hide how
                have HGE := hide hge
                have HBC := hide hbC
                clear how hge hnd hbC
                refine hK.out _ _ ?_ (fun hHeld => ?_)
                · exact HB9.out.drew.below HBC.out
                clear hK K
                (try simp only [Act.put]); (try simp only [List.setIfInBounds_toArray]); (try simp only [List.set_cons_zero]); (try simp only [List.set_cons_succ])
                have HB9C := hide (HB9.out.drew.below HBC.out)
                refine wpAnyH_take (i := 4) (v := ?v4c01) rfl (by kernel_rfl) (by kernel_rfl) (by kernel_rfl) (fun _ _ _ h => h) (Or.inl ⟨by kernel_rfl, ?hy4c01⟩) (by assumption) ?rest4c01
                case hy4c01 => ((intro wS hSw); (obtain ⟨y0, y1, y2, y3⟩ := Box4.cells hSw); (go_simp); (try with_reducible rfl))
                change wpAnyH _ _ _ _ _ _ _ (Act.put _ (some 66) _) _
                (try simp only [Act.put]); (try simp only [List.setIfInBounds_toArray]); (try simp only [List.set_cons_zero]); (try simp only [List.set_cons_succ])
                refine wpAnyH_take (i := 5) (v := ?v5c01) rfl (by kernel_rfl) (by kernel_rfl) (by kernel_rfl) (fun _ _ _ h => h) (Or.inl ⟨by kernel_rfl, ?hy5c01⟩) (by assumption) ?rest5c01
                case hy5c01 => ((intro wS hSw); (obtain ⟨y0, y1, y2, y3⟩ := Box4.cells hSw); (go_simp); (try with_reducible rfl))
                change wpAnyH _ _ _ _ _ _ _ (Act.put _ (some 71) _) _
                (try simp only [Act.put]); (try simp only [List.setIfInBounds_toArray]); (try simp only [List.set_cons_zero]); (try simp only [List.set_cons_succ])
                refine wpAnyH_take (i := 6) (v := ?v6c01) rfl (by kernel_rfl) (by kernel_rfl) (by kernel_rfl) (fun _ _ _ h => h) (Or.inl ⟨by kernel_rfl, ?hy6c01⟩) (by assumption) ?rest6c01
                case hy6c01 => ((intro wS hSw); (obtain ⟨y0, y1, y2, y3⟩ := Box4.cells hSw); (go_simp); (try with_reducible rfl))
                change wpAnyH _ _ _ _ _ _ _ (Act.put _ (some 72) _) _
                (try simp only [Act.put]); (try simp only [List.setIfInBounds_toArray]); (try simp only [List.set_cons_zero]); (try simp only [List.set_cons_succ])
                refine wpAnyH_ready (rs := [7]) (by kernel_rfl) (by simp) (AllReadyH.cons rfl (fun K hK => ?_) AllReadyH.nil)
                rw [if_pos (by kernel_rfl)]
                go_simp
                refine hK.out _ _ ?_ (fun hHeld => ?_)
                · exact (Box4.below (HB9C.out) (alloc_below _ _))
                clear hK K
                (try simp only [Act.put]); (try simp only [List.setIfInBounds_toArray]); (try simp only [List.set_cons_zero]); (try simp only [List.set_cons_succ])
                refine wpAnyH_ready (rs := [8]) (by kernel_rfl) (by simp) (AllReadyH.cons rfl (fun K hK => ?_) AllReadyH.nil)
                rw [if_pos (by kernel_rfl)]
                go_simp
                refine hK.out _ _ ?_ (fun hHeld => ?_)
                · exact (Box4.below (HB9C.out) (alloc_below _ _))
                clear hK K
                (try simp only [Act.put]); (try simp only [List.setIfInBounds_toArray]); (try simp only [List.set_cons_zero]); (try simp only [List.set_cons_succ])
                refine wpAnyH_take (i := 9) (v := ?v9c01) rfl (by kernel_rfl) (by kernel_rfl) (by kernel_rfl) (fun _ _ _ h => h) (Or.inl ⟨by kernel_rfl, ?hy9c01⟩) (by assumption) ?rest9c01
                case hy9c01 => ((intro wS hSw); (obtain ⟨y0, y1, y2, y3⟩ := Box4.cells hSw); (go_simp); (try with_reducible rfl))
                change wpAnyH _ _ _ _ _ _ _ (Act.put _ (some 11) _) _
                (try simp only [Act.put]); (try simp only [List.setIfInBounds_toArray]); (try simp only [List.set_cons_zero]); (try simp only [List.set_cons_succ])
                refine wpAnyH_done (by kernel_rfl) ?_ _
                have HBF := hide ((show Below V.heap.size V V.drew from (Below.refl _ _).drew).trans (HBC.out.trans ((alloc_below wC (.cells #[.int .i64 R.k, .string R.fr, .int .i64 R.ix, .slice ua R.kids.len uc] ( /- t -/ 40))).mono (HBC.out.size))))
                have HBX := hide (Box4.now wC (.int .i64 R.k) (.string R.fr) (.int .i64 R.ix) (.slice ua R.kids.len uc) ( /- t -/ 40))
                have HOX := hide (HOW.out.same (Same.of_below (alloc_below wC (.cells #[.int .i64 R.k, .string R.fr, .int .i64 R.ix, .slice ua R.kids.len uc] ( /- t -/ 40))) HOW.out.lt))
                have hge2 : V.heap.size ≤ wC.heap.size := HBC.out.size
                generalize wC.alloc (.cells #[.int .i64 R.k, .string R.fr, .int .i64 R.ix, .slice ua R.kids.len uc] ( /- t -/ 40)) = X at *
                have HGN := hide (fun x (hx : x ∈ b0) => (show V.heap.size ≤ x by have := HGE.out x hx; simpa using this))
                generalize wC.heap.size = B10 at *
                have HBX2 := hide (HVB.out.trans (HBF.out.mono HVB.out.size))
                have HRB := hide (HRB.out.below HBX2.out)
                have HBL3 := HBL
                have HBL := hide (HBL.out.trans (HBX2.out.mono HBL.out.size))
                have HBLK2 := hide (HBLK.out.below HBX2.out)
                obtain ⟨e0, e1, e2, e3⟩ := HBX.out.cells
                have f0 := HBLK2.out.cell 12
                have f1 := HBLK2.out.cell 13
                have f2 := HBLK2.out.cell 14
                have f3 := HBLK2.out.cell 15
                simp only [List.getElem?_toArray, List.getElem?_cons_succ, List.getElem?_cons_zero] at f0 f1 f2 f3
                have ff := HBLK2.out.frozen
                have fl := HBLK2.out.lt
                have el := HBX.out.lt
                go_wp2_with fail
                go_roundw
                case rel =>
                  have hR := HR.out
                  subst hR
                  have hsame : ∀ bs : List Nat, (∀ x, x ∈ bs → x ≠ W.heap.size) → Same X (((( X.setCell ⟨W.heap.size, 12, none⟩ (.int .i64 (unf ⟨g0.k, g0.fr, g0.ix, g0.kids⟩).k)).setCell ⟨W.heap.size, 13, none⟩ (.string (unf ⟨g0.k, g0.fr, g0.ix, g0.kids⟩).fr)).setCell ⟨W.heap.size, 14, none⟩ (.int .i64 (unf ⟨g0.k, g0.fr, g0.ix, g0.kids⟩).ix)).setCell ⟨W.heap.size, 15, none⟩ (.slice ua (unf ⟨g0.k, g0.fr, g0.ix, g0.kids⟩).kids.len uc)) bs := fun bs hb => by
                    repeat (refine Same.setCell ?_ (fun x hx => by have := hb x hx; simpa using this) _)
                    exact Same.refl _ _
                  exact ⟨1, by omega, rfl, ⟨_, b0, (((HBLK2.out.set 12 _).set 13 _).set 14 _).set 15 _, ⟨HOX.out.same (hsame _ (fun x hx => by have := HGN.out x hx; have := HBLK.out.lt; have := HVS.out; omega)), fun x hx => ⟨by have := HGN.out x hx; have := HBLK.out.lt; have := HVS.out; omega, by have := HGN.out x hx; have := hrbl; have := HVS.out; omega⟩⟩, hcu⟩, (((HBL.out.setCell (by show w.heap.size ≤ W.heap.size; omega) _).setCell (by show w.heap.size ≤ W.heap.size; omega) _).setCell (by show w.heap.size ≤ W.heap.size; omega) _).setCell (by show w.heap.size ≤ W.heap.size; omega) _, (((HRB.out.setOtherCell (by show w.heap.size + 1 ≠ W.heap.size; omega) _).setOtherCell (by show w.heap.size + 1 ≠ W.heap.size; omega) _).setOtherCell (by show w.heap.size + 1 ≠ W.heap.size; omega) _).setOtherCell (by show w.heap.size + 1 ≠ W.heap.size; omega) _⟩
                case measure => simp [intOf]
              case' kd01 =>
                rw [if_pos (by kernel_rfl)]
                go_simp
                have HBA := hide (show Below V.heap.size V (V.alloc (.cells #[.int .i64 0, .string ⟨#[]⟩, .int .i64 0, .slice none 0 0] ( /- t -/ 40))).drew from (alloc_below V _).drew)
                have HSL := hide (HSL0.out.still (Still.of_below HBA.out))
                have HZ10 := hide ((Box4.now V (.int .i64 0) (.string ⟨#[]⟩) (.int .i64 0) (.slice none 0 0) ( /- t -/ 40)).drew)
                have HB9A := hide (HB9.out.below HBA.out)
                refine hK.out _ _ ?_ (fun hHeld => ?_)
                · exact HB9A.out
                clear hK K
                (try simp only [Act.put]); (try simp only [List.setIfInBounds_toArray]); (try simp only [List.set_cons_zero]); (try simp only [List.set_cons_succ])
                refine wpAnyH_ready (rs := [3]) (by kernel_rfl) (by simp) (AllReadyH.cons rfl (fun K hK => ?_) AllReadyH.nil)
                rw [if_pos (by kernel_rfl)]
                go_simp
                go_at_call 28
                refine (HCT.out _ HSL.out).mono ?_
                rintro e wC ⟨u0, b0, rfl, how, hge, hnd, hbC⟩
                obtain ⟨ua, uc, rfl⟩ := how.val
                have HOW := hide how
                have HGE := hide hge
                have HBC := hide hbC
                clear how hge hnd hbC
                have HB9C := hide (HB9A.out.below HBC.out)
                have HZ10 := hide (HZ10.out.below HBC.out)
                obtain ⟨h0, h1, h2, h3⟩ := HZ10.out.cells
                have hf10 := HZ10.out.frozen
                have hl10 := HZ10.out.lt
                refine hK.out _ _ ?_ (fun hHeld => ?_)
                · exact HB9C.out
                clear hK K
                (try simp only [Act.put]); (try simp only [List.setIfInBounds_toArray]); (try simp only [List.set_cons_zero]); (try simp only [List.set_cons_succ])
                have HB9S := hide (fun (v0 v1 v2 v3 : Value) => (show Box4 (set4 wC V.heap.size 0 v0 v1 v2 v3) wr.heap.size (.int .i64 g0.k) (.string g0.fr) (.int .i64 g0.ix) (.slice t0 g0.kids.len k0) from HB9C.out.same (set4_other _ _ _ _ _ _ _ _ (by have := HVS.out; omega))))
                refine wpAnyH_take (i := 4) (v := ?v4d01) rfl (by kernel_rfl) (by kernel_rfl) (by kernel_rfl) (fun _ _ _ h => h) (Or.inl ⟨by kernel_rfl, ?hy4d01⟩) (by assumption) ?rest4d01
                case hy4d01 => ((intro wS hSw); (obtain ⟨y0, y1, y2, y3⟩ := Box4.cells hSw); (go_simp); (try with_reducible rfl))
                change wpAnyH _ _ _ _ _ _ _ (Act.put _ (some 66) _) _
                (try simp only [Act.put]); (try simp only [List.setIfInBounds_toArray]); (try simp only [List.set_cons_zero]); (try simp only [List.set_cons_succ])
                refine wpAnyH_take (i := 5) (v := ?v5d01) rfl (by kernel_rfl) (by kernel_rfl) (by kernel_rfl) (fun _ _ _ h => h) (Or.inl ⟨by kernel_rfl, ?hy5d01⟩) (by assumption) ?rest5d01
                case hy5d01 => ((intro wS hSw); (obtain ⟨y0, y1, y2, y3⟩ := Box4.cells hSw); (go_simp); (try with_reducible rfl))
                change wpAnyH _ _ _ _ _ _ _ (Act.put _ (some 71) _) _
                (try simp only [Act.put]); (try simp only [List.setIfInBounds_toArray]); (try simp only [List.set_cons_zero]); (try simp only [List.set_cons_succ])
                refine wpAnyH_take (i := 6) (v := ?v6d01) rfl (by kernel_rfl) (by kernel_rfl) (by kernel_rfl) (fun _ _ _ h => h) (Or.inl ⟨by kernel_rfl, ?hy6d01⟩) (by assumption) ?rest6d01
                case hy6d01 => ((intro wS hSw); (obtain ⟨y0, y1, y2, y3⟩ := Box4.cells hSw); (go_simp); (try with_reducible rfl))
                change wpAnyH _ _ _ _ _ _ _ (Act.put _ (some 72) _) _
                (try simp only [Act.put]); (try simp only [List.setIfInBounds_toArray]); (try simp only [List.set_cons_zero]); (try simp only [List.set_cons_succ])
                refine wpAnyH_ready (rs := [8]) (by kernel_rfl) (by simp) (AllReadyH.cons rfl (fun K hK => ?_) AllReadyH.nil)
                rw [if_pos (by kernel_rfl)]
                go_simp
                refine hK.out _ _ ?_ (fun hHeld => ?_)
                · exact HB9S.out _ _ _ _
                clear hK K
                (try simp only [Act.put]); (try simp only [List.setIfInBounds_toArray]); (try simp only [List.set_cons_zero]); (try simp only [List.set_cons_succ])
                refine wpAnyH_take (i := 9) (v := ?v9d01) rfl (by kernel_rfl) (by kernel_rfl) (by kernel_rfl) (fun _ _ _ h => h) (Or.inl ⟨by kernel_rfl, ?hy9d01⟩) (by assumption) ?rest9d01
                case hy9d01 => ((intro wS hSw); (obtain ⟨y0, y1, y2, y3⟩ := Box4.cells hSw); (go_simp); (try with_reducible rfl))
                change wpAnyH _ _ _ _ _ _ _ (Act.put _ (some 11) _) _
                (try simp only [Act.put]); (try simp only [List.setIfInBounds_toArray]); (try simp only [List.set_cons_zero]); (try simp only [List.set_cons_succ])
                refine wpAnyH_done (by kernel_rfl) ?_ _
                have hge2 : V.heap.size ≤ V.heap.size := Nat.le_refl _
                have HBF := hide (set4_below (HBA.out.trans (HBC.out.mono HBA.out.size)) V.heap.size 0 (Nat.le_refl _) (.int .i64 R.k) (.string R.fr) (.int .i64 R.ix) (.slice ua R.kids.len uc))
                have HBX := hide (HZ10.out.setAll (.int .i64 R.k) (.string R.fr) (.int .i64 R.ix) (.slice ua R.kids.len uc))
                have HOX := hide (HOW.out.same (show Same wC (set4 wC V.heap.size 0 (.int .i64 R.k) (.string R.fr) (.int .i64 R.ix) (.slice ua R.kids.len uc)) b0 from fun x hx => set4_other _ _ _ _ _ _ _ _ (by have := HGE.out x hx; simp at this; omega)))
                change Exit.then _ _ _ _ (set4 wC V.heap.size 0 (.int .i64 R.k) (.string R.fr) (.int .i64 R.ix) (.slice ua R.kids.len uc))
                change Hid (Box4 (set4 wC V.heap.size 0 (.int .i64 R.k) (.string R.fr) (.int .i64 R.ix) (.slice ua R.kids.len uc)) _ _ _ _ _) at HBX
                generalize set4 wC V.heap.size 0 (.int .i64 R.k) (.string R.fr) (.int .i64 R.ix) (.slice ua R.kids.len uc) = X at *
                obtain ⟨B10, hB10⟩ : ∃ B10, B10 = V.heap.size := ⟨_, rfl⟩
                rw [← hB10] at HBX hge2 ⊢
                clear hB10
                have HGN := hide (fun x (hx : x ∈ b0) => (show V.heap.size ≤ x by have := HGE.out x hx; simp at this; omega))
                have HBX2 := hide (HVB.out.trans (HBF.out.mono HVB.out.size))
                have HRB := hide (HRB.out.below HBX2.out)
                have HBL3 := HBL
                have HBL := hide (HBL.out.trans (HBX2.out.mono HBL.out.size))
                have HBLK2 := hide (HBLK.out.below HBX2.out)
                obtain ⟨e0, e1, e2, e3⟩ := HBX.out.cells
                have f0 := HBLK2.out.cell 12
                have f1 := HBLK2.out.cell 13
                have f2 := HBLK2.out.cell 14
                have f3 := HBLK2.out.cell 15
                simp only [List.getElem?_toArray, List.getElem?_cons_succ, List.getElem?_cons_zero] at f0 f1 f2 f3
                have ff := HBLK2.out.frozen
                have fl := HBLK2.out.lt
                have el := HBX.out.lt
                go_wp2_with fail
                go_roundw
                case rel =>
                  have hR := HR.out
                  subst hR
                  have hsame : ∀ bs : List Nat, (∀ x, x ∈ bs → x ≠ W.heap.size) → Same X (((( X.setCell ⟨W.heap.size, 12, none⟩ (.int .i64 (unf ⟨g0.k, g0.fr, g0.ix, g0.kids⟩).k)).setCell ⟨W.heap.size, 13, none⟩ (.string (unf ⟨g0.k, g0.fr, g0.ix, g0.kids⟩).fr)).setCell ⟨W.heap.size, 14, none⟩ (.int .i64 (unf ⟨g0.k, g0.fr, g0.ix, g0.kids⟩).ix)).setCell ⟨W.heap.size, 15, none⟩ (.slice ua (unf ⟨g0.k, g0.fr, g0.ix, g0.kids⟩).kids.len uc)) bs := fun bs hb => by
                    repeat (refine Same.setCell ?_ (fun x hx => by have := hb x hx; simpa using this) _)
                    exact Same.refl _ _
                  exact ⟨1, by omega, rfl, ⟨_, b0, (((HBLK2.out.set 12 _).set 13 _).set 14 _).set 15 _, ⟨HOX.out.same (hsame _ (fun x hx => by have := HGN.out x hx; have := HBLK.out.lt; have := HVS.out; omega)), fun x hx => ⟨by have := HGN.out x hx; have := HBLK.out.lt; have := HVS.out; omega, by have := HGN.out x hx; have := hrbl; have := HVS.out; omega⟩⟩, hcu⟩, (((HBL.out.setCell (by show w.heap.size ≤ W.heap.size; omega) _).setCell (by show w.heap.size ≤ W.heap.size; omega) _).setCell (by show w.heap.size ≤ W.heap.size; omega) _).setCell (by show w.heap.size ≤ W.heap.size; omega) _, (((HRB.out.setOtherCell (by show w.heap.size + 1 ≠ W.heap.size; omega) _).setOtherCell (by show w.heap.size + 1 ≠ W.heap.size; omega) _).setOtherCell (by show w.heap.size + 1 ≠ W.heap.size; omega) _).setOtherCell (by show w.heap.size + 1 ≠ W.heap.size; omega) _⟩
                case measure => simp [intOf]
            case' kb01 =>
              rw [if_pos (by kernel_rfl)]
              go_simp
              have HBA := hide (show Below V.heap.size V (V.alloc (.cells #[.int .i64 0, .string ⟨#[]⟩, .int .i64 0, .slice none 0 0] ( /- t -/ 40))).drew from (alloc_below V _).drew)
              have HSL := hide (HSL0.out.still (Still.of_below HBA.out))
              have HZ10 := hide ((Box4.now V (.int .i64 0) (.string ⟨#[]⟩) (.int .i64 0) (.slice none 0 0) ( /- t -/ 40)).drew)
              have HB9A := hide (HB9.out.below HBA.out)
              refine hK.out _ _ ?_ (fun hHeld => ?_)
              · exact HB9A.out
              clear hK K
              (try simp only [Act.put]); (try simp only [List.setIfInBounds_toArray]); (try simp only [List.set_cons_zero]); (try simp only [List.set_cons_succ])
              refine wpAnyH_ready (rs := [2]) (by kernel_rfl) (by simp) (AllReadyH.cons rfl (fun K hK => ?_) AllReadyH.nil)
              rw [if_pos (by kernel_rfl)]
              go_simp
              (go_at_call 29; (with_reducible refine (HRO.out _).mono ?_); rintro e wF ⟨rfl, rfl⟩)
              refine hK.out _ _ ?_ (fun hHeld => ?_)
              · exact HB9A.out
              clear hK K
              (try simp only [Act.put]); (try simp only [List.setIfInBounds_toArray]); (try simp only [List.set_cons_zero]); (try simp only [List.set_cons_succ])
              refine wpAnyH_ready (rs := [3]) (by kernel_rfl) (by simp) (AllReadyH.cons rfl (fun K hK => ?_) AllReadyH.nil)
              rw [if_pos (by kernel_rfl)]
              go_simp
              go_at_call 28
              refine (HCT.out _ HSL.out).mono ?_
              rintro e wC ⟨u0, b0, rfl, how, hge, hnd, hbC⟩
              obtain ⟨ua, uc, rfl⟩ := how.val
              have HOW := hide how
              have HGE := hide hge
              have HBC := hide hbC
              clear how hge hnd hbC
              have HB9C := hide (HB9A.out.below HBC.out)
              have HZ10 := hide (HZ10.out.below HBC.out)
              obtain ⟨h0, h1, h2, h3⟩ := HZ10.out.cells
              have hf10 := HZ10.out.frozen
              have hl10 := HZ10.out.lt
              refine hK.out _ _ ?_ (fun hHeld => ?_)
              · exact HB9C.out
              clear hK K
              (try simp only [Act.put]); (try simp only [List.setIfInBounds_toArray]); (try simp only [List.set_cons_zero]); (try simp only [List.set_cons_succ])
              have HB9S := hide (fun (v0 v1 v2 v3 : Value) => (show Box4 (set4 wC V.heap.size 0 v0 v1 v2 v3) wr.heap.size (.int .i64 g0.k) (.string g0.fr) (.int .i64 g0.ix) (.slice t0 g0.kids.len k0) from HB9C.out.same (set4_other _ _ _ _ _ _ _ _ (by have := HVS.out; omega))))
              refine wpAnyH_take (i := 4) (v := ?v4b01) rfl (by kernel_rfl) (by kernel_rfl) (by kernel_rfl) (fun _ _ _ h => h) (Or.inl ⟨by kernel_rfl, ?hy4b01⟩) (by assumption) ?rest4b01
              case hy4b01 => ((intro wS hSw); (obtain ⟨y0, y1, y2, y3⟩ := Box4.cells hSw); (go_simp); (try with_reducible rfl))
              change wpAnyH _ _ _ _ _ _ _ (Act.put _ (some 66) _) _
              (try simp only [Act.put]); (try simp only [List.setIfInBounds_toArray]); (try simp only [List.set_cons_zero]); (try simp only [List.set_cons_succ])
              refine wpAnyH_take (i := 5) (v := ?v5b01) rfl (by kernel_rfl) (by kernel_rfl) (by kernel_rfl) (fun _ _ _ h => h) (Or.inl ⟨by kernel_rfl, ?hy5b01⟩) (by assumption) ?rest5b01
              case hy5b01 => ((intro wS hSw); (obtain ⟨y0, y1, y2, y3⟩ := Box4.cells hSw); (go_simp); (try with_reducible rfl))
              change wpAnyH _ _ _ _ _ _ _ (Act.put _ (some 71) _) _
              (try simp only [Act.put]); (try simp only [List.setIfInBounds_toArray]); (try simp only [List.set_cons_zero]); (try simp only [List.set_cons_succ])
              refine wpAnyH_take (i := 6) (v := ?v6b01) rfl (by kernel_rfl) (by kernel_rfl) (by kernel_rfl) (fun _ _ _ h => h) (Or.inl ⟨by kernel_rfl, ?hy6b01⟩) (by assumption) ?rest6b01
              case hy6b01 => ((intro wS hSw); (obtain ⟨y0, y1, y2, y3⟩ := Box4.cells hSw); (go_simp); (try with_reducible rfl))
              change wpAnyH _ _ _ _ _ _ _ (Act.put _ (some 72) _) _
              (try simp only [Act.put]); (try simp only [List.setIfInBounds_toArray]); (try simp only [List.set_cons_zero]); (try simp only [List.set_cons_succ])
              refine wpAnyH_ready (rs := [8]) (by kernel_rfl) (by simp) (AllReadyH.cons rfl (fun K hK => ?_) AllReadyH.nil)
              rw [if_pos (by kernel_rfl)]
              go_simp
              refine hK.out _ _ ?_ (fun hHeld => ?_)
              · exact HB9S.out _ _ _ _
              clear hK K
              (try simp only [Act.put]); (try simp only [List.setIfInBounds_toArray]); (try simp only [List.set_cons_zero]); (try simp only [List.set_cons_succ])
              refine wpAnyH_take (i := 9) (v := ?v9b01) rfl (by kernel_rfl) (by kernel_rfl) (by kernel_rfl) (fun _ _ _ h => h) (Or.inl ⟨by kernel_rfl, ?hy9b01⟩) (by assumption) ?rest9b01
              case hy9b01 => ((intro wS hSw); (obtain ⟨y0, y1, y2, y3⟩ := Box4.cells hSw); (go_simp); (try with_reducible rfl))
              change wpAnyH _ _ _ _ _ _ _ (Act.put _ (some 11) _) _
              (try simp only [Act.put]); (try simp only [List.setIfInBounds_toArray]); (try simp only [List.set_cons_zero]); (try simp only [List.set_cons_succ])
              refine wpAnyH_done (by kernel_rfl) ?_ _
              have hge2 : V.heap.size ≤ V.heap.size := Nat.le_refl _
              have HBF := hide (set4_below (HBA.out.trans (HBC.out.mono HBA.out.size)) V.heap.size 0 (Nat.le_refl _) (.int .i64 R.k) (.string R.fr) (.int .i64 R.ix) (.slice ua R.kids.len uc))
              have HBX := hide (HZ10.out.setAll (.int .i64 R.k) (.string R.fr) (.int .i64 R.ix) (.slice ua R.kids.len uc))
              have HOX := hide (HOW.out.same (show Same wC (set4 wC V.heap.size 0 (.int .i64 R.k) (.string R.fr) (.int .i64 R.ix) (.slice ua R.kids.len uc)) b0 from fun x hx => set4_other _ _ _ _ _ _ _ _ (by have := HGE.out x hx; simp at this; omega)))
              change Exit.then _ _ _ _ (set4 wC V.heap.size 0 (.int .i64 R.k) (.string R.fr) (.int .i64 R.ix) (.slice ua R.kids.len uc))
              change Hid (Box4 (set4 wC V.heap.size 0 (.int .i64 R.k) (.string R.fr) (.int .i64 R.ix) (.slice ua R.kids.len uc)) _ _ _ _ _) at HBX
              generalize set4 wC V.heap.size 0 (.int .i64 R.k) (.string R.fr) (.int .i64 R.ix) (.slice ua R.kids.len uc) = X at *
              obtain ⟨B10, hB10⟩ : ∃ B10, B10 = V.heap.size := ⟨_, rfl⟩
              rw [← hB10] at HBX hge2 ⊢
              clear hB10
              have HGN := hide (fun x (hx : x ∈ b0) => (show V.heap.size ≤ x by have := HGE.out x hx; simp at this; omega))
              have HBX2 := hide (HVB.out.trans (HBF.out.mono HVB.out.size))
              have HRB := hide (HRB.out.below HBX2.out)
              have HBL3 := HBL
              have HBL := hide (HBL.out.trans (HBX2.out.mono HBL.out.size))
              have HBLK2 := hide (HBLK.out.below HBX2.out)
              obtain ⟨e0, e1, e2, e3⟩ := HBX.out.cells
              have f0 := HBLK2.out.cell 12
              have f1 := HBLK2.out.cell 13
              have f2 := HBLK2.out.cell 14
              have f3 := HBLK2.out.cell 15
              simp only [List.getElem?_toArray, List.getElem?_cons_succ, List.getElem?_cons_zero] at f0 f1 f2 f3
              have ff := HBLK2.out.frozen
              have fl := HBLK2.out.lt
              have el := HBX.out.lt
              go_wp2_with fail
              go_roundw
              case rel =>
                have hR := HR.out
                subst hR
                have hsame : ∀ bs : List Nat, (∀ x, x ∈ bs → x ≠ W.heap.size) → Same X (((( X.setCell ⟨W.heap.size, 12, none⟩ (.int .i64 (unf ⟨g0.k, g0.fr, g0.ix, g0.kids⟩).k)).setCell ⟨W.heap.size, 13, none⟩ (.string (unf ⟨g0.k, g0.fr, g0.ix, g0.kids⟩).fr)).setCell ⟨W.heap.size, 14, none⟩ (.int .i64 (unf ⟨g0.k, g0.fr, g0.ix, g0.kids⟩).ix)).setCell ⟨W.heap.size, 15, none⟩ (.slice ua (unf ⟨g0.k, g0.fr, g0.ix, g0.kids⟩).kids.len uc)) bs := fun bs hb => by
                  repeat (refine Same.setCell ?_ (fun x hx => by have := hb x hx; simpa using this) _)
                  exact Same.refl _ _
                exact ⟨1, by omega, rfl, ⟨_, b0, (((HBLK2.out.set 12 _).set 13 _).set 14 _).set 15 _, ⟨HOX.out.same (hsame _ (fun x hx => by have := HGN.out x hx; have := HBLK.out.lt; have := HVS.out; omega)), fun x hx => ⟨by have := HGN.out x hx; have := HBLK.out.lt; have := HVS.out; omega, by have := HGN.out x hx; have := hrbl; have := HVS.out; omega⟩⟩, hcu⟩, (((HBL.out.setCell (by show w.heap.size ≤ W.heap.size; omega) _).setCell (by show w.heap.size ≤ W.heap.size; omega) _).setCell (by show w.heap.size ≤ W.heap.size; omega) _).setCell (by show w.heap.size ≤ W.heap.size; omega) _, (((HRB.out.setOtherCell (by show w.heap.size + 1 ≠ W.heap.size; omega) _).setOtherCell (by show w.heap.size + 1 ≠ W.heap.size; omega) _).setOtherCell (by show w.heap.size + 1 ≠ W.heap.size; omega) _).setOtherCell (by show w.heap.size + 1 ≠ W.heap.size; omega) _⟩
              case measure => simp [intOf]
        | 1, _, hiv, HCUR =>
          obtain rfl : _ = Value.int .i64 (1 : Int) := hiv
          obtain ⟨u0, b0, hblk, ⟨hso0, hsn0⟩, hc0⟩ := HCUR.out
          have HBLK := hide hblk
          have hix2 : ∀ W : World, (Instr.index ( /- t -/ 41) (.agg #[.int .i64 g0.k, .string g0.fr, .int .i64 g0.ix, .slice t0 g0.kids.len k0, .int .i64 g1.k, .string g1.fr, .int .i64 g1.ix, .slice t1 g1.kids.len k1, .int .i64 g2.k, .string g2.fr, .int .i64 g2.ix, .slice t2 g2.kids.len k2]) (.int .i64 1)).run Tryz.prog W = .ok (.agg #[.int .i64 g1.k, .string g1.fr, .int .i64 g1.ix, .slice t1 g1.kids.len k1]) W := fun W => by kernel_rfl
          clear hblk
          go_wp2_with fail
          obtain ⟨V, hV⟩ : ∃ V, V = wr.alloc (.cells #[.int .i64 g1.k, .string g1.fr, .int .i64 g1.ix, .slice t1 g1.kids.len k1] ( /- t -/ 40)) := ⟨_, rfl⟩
          have HB9 := hide (show Box4 V wr.heap.size (.int .i64 g1.k) (.string g1.fr) (.int .i64 g1.ix) (.slice t1 g1.kids.len k1) by rw [hV]; exact Box4.now wr _ _ _ _ _)
          have HVB := hide (show Below wr.heap.size wr V by rw [hV]; exact alloc_below _ _)
          have HVS := hide (show V.heap.size = wr.heap.size + 1 by rw [hV]; simp)
          have HSL0 := hide ((HC0.out.l1.still (Still.of_below HBL.out)).still (Still.of_below HVB.out))
          have HSL := hide (HSL0.out.still (still_drew V))
          rw [← hV]
          clear hV hix2
          have HRO := hide (fun (W : World) => (show Calls Tryz.prog 29 #[.int .i64 1] W (fun e w' => e = .returned (.string ⟨#[66]⟩) ∧ W = w') from implLett1 W))
          cases hcu : cuB g1 66 with
          | false =>
            obtain ⟨R, hR⟩ : ∃ R, R = curR ⟨g1.k, g1.fr, g1.ix, g1.kids⟩ 66 := ⟨_, rfl⟩
            have HCT := hide (fun (W : World) (hs : Sl W (.slice t1 g1.kids.len k1) g1.kids) => (show Calls Tryz.prog 28 #[.agg #[.int .i64 g1.k, .string g1.fr, .int .i64 g1.ix, .slice t1 g1.kids.len k1], .string ⟨#[66]⟩] W (MadeR R false W) by have := implCur W ⟨g1.k, g1.fr, g1.ix, g1.kids⟩ (.slice t1 g1.kids.len k1) 66 hs; rw [← hR, show curOk ⟨g1.k, g1.fr, g1.ix, g1.kids⟩ 66 = false from hcu] at this; exact this))
            have HNO := hide (show okc = false by rw [HLS.out, hcu]; simp)
            clear hR hcu
            refine wp_region_held_drew (S := (fun w' => Box4 w' wr.heap.size (.int .i64 g1.k) (.string g1.fr) (.int .i64 g1.ix) (.slice t1 g1.kids.len k1))) (by kernel_rfl) ?_ (fun hHeld => ?_)
            · exact HB9.out.drew
            refine wpAnyH_take (i := 0) (v := ?v0p10) rfl (by kernel_rfl) (by kernel_rfl) (by kernel_rfl) (fun _ _ _ h => h) (Or.inl ⟨by kernel_rfl, ?hy0p10⟩) (by assumption) ?rest0p10
            case hy0p10 => ((intro wS hSw); (obtain ⟨y0, y1, y2, y3⟩ := Box4.cells hSw); (go_simp); (try with_reducible rfl))
            change wpAnyH _ _ _ _ _ _ _ (Act.put _ (some 67) _) _
            (try simp only [Act.put]); (try simp only [List.setIfInBounds_toArray]); (try simp only [List.set_cons_zero]); (try simp only [List.set_cons_succ])
            refine wpAnyH_take (i := 1) (v := ?v1p10) rfl (by kernel_rfl) (by kernel_rfl) (by kernel_rfl) (fun _ _ _ h => h) (Or.inl ⟨by kernel_rfl, ?hy1p10⟩) (by assumption) ?rest1p10
            case hy1p10 => ((intro wS hSw); (obtain ⟨y0, y1, y2, y3⟩ := Box4.cells hSw); (go_simp); (try with_reducible rfl))
            change wpAnyH _ _ _ _ _ _ _ (Act.put _ (some 68) _) _
            (try simp only [Act.put]); (try simp only [List.setIfInBounds_toArray]); (try simp only [List.set_cons_zero]); (try simp only [List.set_cons_succ])
            refine wpAnyH_ready (rs := [2, 7]) (by kernel_rfl) (by simp) (AllReadyH.cons rfl (fun K hK => ?ka10) (AllReadyH.cons rfl (fun K hK => ?kb10) AllReadyH.nil))
            case' ka10 =>
              rw [if_pos (by kernel_rfl)]
              go_simp
              (go_at_call 29; (with_reducible refine (HRO.out _).mono ?_); rintro e wF ⟨rfl, rfl⟩)
              refine hK.out _ _ ?_ (fun hHeld => ?_)
              · exact HB9.out.drew
              clear hK K
              (try simp only [Act.put]); (try simp only [List.setIfInBounds_toArray]); (try simp only [List.set_cons_zero]); (try simp only [List.set_cons_succ])
              refine wpAnyH_ready (rs := [3, 7]) (by kernel_rfl) (by simp) (AllReadyH.cons rfl (fun K hK => ?kc10) (AllReadyH.cons rfl (fun K hK => ?kd10) AllReadyH.nil))
              case' kc10 =>
                rw [if_pos (by kernel_rfl)]
                go_simp
                go_at_call 28
                refine (HCT.out _ HSL.out).mono ?_
                rintro e wC ⟨u1, b1, rfl, how, hge, hnd, hbC⟩
                obtain ⟨ua, uc, rfl⟩ := how.val
                have HOW := hide how
                have HGE := hide hge
                have HBC := hide hbC
                clear how hge hnd hbC
                refine hK.out _ _ ?_ (fun hHeld => ?_)
                · exact HB9.out.drew.below HBC.out
                clear hK K
                (try simp only [Act.put]); (try simp only [List.setIfInBounds_toArray]); (try simp only [List.set_cons_zero]); (try simp only [List.set_cons_succ])
                have HB9C := hide (HB9.out.drew.below HBC.out)
                refine wpAnyH_take (i := 4) (v := ?v4c10) rfl (by kernel_rfl) (by kernel_rfl) (by kernel_rfl) (fun _ _ _ h => h) (Or.inl ⟨by kernel_rfl, ?hy4c10⟩) (by assumption) ?rest4c10
                case hy4c10 => ((intro wS hSw); (obtain ⟨y0, y1, y2, y3⟩ := Box4.cells hSw); (go_simp); (try with_reducible rfl))
                change wpAnyH _ _ _ _ _ _ _ (Act.put _ (some 66) _) _
                (try simp only [Act.put]); (try simp only [List.setIfInBounds_toArray]); (try simp only [List.set_cons_zero]); (try simp only [List.set_cons_succ])
                refine wpAnyH_take (i := 5) (v := ?v5c10) rfl (by kernel_rfl) (by kernel_rfl) (by kernel_rfl) (fun _ _ _ h => h) (Or.inl ⟨by kernel_rfl, ?hy5c10⟩) (by assumption) ?rest5c10
                case hy5c10 => ((intro wS hSw); (obtain ⟨y0, y1, y2, y3⟩ := Box4.cells hSw); (go_simp); (try with_reducible rfl))
                change wpAnyH _ _ _ _ _ _ _ (Act.put _ (some 71) _) _
                (try simp only [Act.put]); (try simp only [List.setIfInBounds_toArray]); (try simp only [List.set_cons_zero]); (try simp only [List.set_cons_succ])
                refine wpAnyH_take (i := 6) (v := ?v6c10) rfl (by kernel_rfl) (by kernel_rfl) (by kernel_rfl) (fun _ _ _ h => h) (Or.inl ⟨by kernel_rfl, ?hy6c10⟩) (by assumption) ?rest6c10
                case hy6c10 => ((intro wS hSw); (obtain ⟨y0, y1, y2, y3⟩ := Box4.cells hSw); (go_simp); (try with_reducible rfl))
                change wpAnyH _ _ _ _ _ _ _ (Act.put _ (some 72) _) _
                (try simp only [Act.put]); (try simp only [List.setIfInBounds_toArray]); (try simp only [List.set_cons_zero]); (try simp only [List.set_cons_succ])
                refine wpAnyH_ready (rs := [7]) (by kernel_rfl) (by simp) (AllReadyH.cons rfl (fun K hK => ?_) AllReadyH.nil)
                rw [if_pos (by kernel_rfl)]
                go_simp
                refine hK.out _ _ ?_ (fun hHeld => ?_)
                · exact (Box4.below (HB9C.out) (alloc_below _ _))
                clear hK K
                (try simp only [Act.put]); (try simp only [List.setIfInBounds_toArray]); (try simp only [List.set_cons_zero]); (try simp only [List.set_cons_succ])
                refine wpAnyH_ready (rs := [8]) (by kernel_rfl) (by simp) (AllReadyH.cons rfl (fun K hK => ?_) AllReadyH.nil)
                rw [if_pos (by kernel_rfl)]
                go_simp
                refine hK.out _ _ ?_ (fun hHeld => ?_)
                · exact (Box4.below (HB9C.out) (alloc_below _ _))
                clear hK K
                (try simp only [Act.put]); (try simp only [List.setIfInBounds_toArray]); (try simp only [List.set_cons_zero]); (try simp only [List.set_cons_succ])
                refine wpAnyH_take (i := 9) (v := ?v9c10) rfl (by kernel_rfl) (by kernel_rfl) (by kernel_rfl) (fun _ _ _ h => h) (Or.inl ⟨by kernel_rfl, ?hy9c10⟩) (by assumption) ?rest9c10
                case hy9c10 => ((intro wS hSw); (obtain ⟨y0, y1, y2, y3⟩ := Box4.cells hSw); (go_simp); (try with_reducible rfl))
                change wpAnyH _ _ _ _ _ _ _ (Act.put _ (some 11) _) _
                (try simp only [Act.put]); (try simp only [List.setIfInBounds_toArray]); (try simp only [List.set_cons_zero]); (try simp only [List.set_cons_succ])
                refine wpAnyH_done (by kernel_rfl) ?_ _
                have HBF := hide ((show Below V.heap.size V V.drew from (Below.refl _ _).drew).trans (HBC.out.trans ((alloc_below wC (.cells #[.int .i64 R.k, .string R.fr, .int .i64 R.ix, .slice ua R.kids.len uc] ( /- t -/ 40))).mono (HBC.out.size))))
                have HBX := hide (Box4.now wC (.int .i64 R.k) (.string R.fr) (.int .i64 R.ix) (.slice ua R.kids.len uc) ( /- t -/ 40))
                have HOX := hide (HOW.out.same (Same.of_below (alloc_below wC (.cells #[.int .i64 R.k, .string R.fr, .int .i64 R.ix, .slice ua R.kids.len uc] ( /- t -/ 40))) HOW.out.lt))
                have hge2 : V.heap.size ≤ wC.heap.size := HBC.out.size
                generalize wC.alloc (.cells #[.int .i64 R.k, .string R.fr, .int .i64 R.ix, .slice ua R.kids.len uc] ( /- t -/ 40)) = X at *
                have HGN := hide (fun x (hx : x ∈ b1) => (show V.heap.size ≤ x by have := HGE.out x hx; simpa using this))
                generalize wC.heap.size = B10 at *
                have HBX2 := hide (HVB.out.trans (HBF.out.mono HVB.out.size))
                have HRB := hide (HRB.out.below HBX2.out)
                have HBL3 := HBL
                have HBL := hide (HBL.out.trans (HBX2.out.mono HBL.out.size))
                go_wp2_with (first | (refine wpList_store_blk (b := w.heap.size + 1) (c := #[.int .i64 0, .string ⟨#[]⟩, .int .i64 0, .slice none 0 0, .int .i64 0, .string ⟨#[]⟩, .int .i64 0, .slice none 0 0, .int .i64 0, .string ⟨#[]⟩, .int .i64 0, .slice none 0 0, .int .i64 0, .string ⟨#[]⟩, .int .i64 0, .slice none 0 0, .int .i64 0, .string ⟨#[]⟩, .int .i64 0, .slice none 0 0, .int .i64 0, .string ⟨#[]⟩, .int .i64 0, .slice none 0 0, .string ⟨#[]⟩, .string ⟨#[]⟩, .string ⟨#[]⟩, .string ⟨#[]⟩, .string ⟨#[]⟩, .string ⟨#[]⟩, .string ⟨#[]⟩, .string ⟨#[]⟩, .string ⟨#[]⟩]) (c' := #[.int .i64 0, .string ⟨#[]⟩, .int .i64 0, .slice none 0 0, .int .i64 0, .string ⟨#[]⟩, .int .i64 0, .slice none 0 0, .int .i64 0, .string ⟨#[]⟩, .int .i64 0, .slice none 0 0, .int .i64 0, .string ⟨#[]⟩, .int .i64 0, .slice none 0 0, .int .i64 0, .string ⟨#[]⟩, .int .i64 0, .slice none 0 0, .int .i64 0, .string ⟨#[]⟩, .int .i64 0, .slice none 0 0, .string ⟨#[]⟩, .string ⟨#[]⟩, .string ⟨#[]⟩, .string ⟨#[]⟩, .string ⟨#[]⟩, .string ⟨#[]⟩, .string ⟨#[]⟩, .string ⟨#[]⟩, .string ⟨#[]⟩]) rfl rfl HRB.out rfl rfl (by kernel_rfl) rfl (by kernel_rfl) ?_) | fail)
                refine bodyPost_ret (v := .tuple #[.agg #[.int .i64 0, .string ⟨#[]⟩, .int .i64 0, .slice none 0 0, .int .i64 0, .string ⟨#[]⟩, .int .i64 0, .slice none 0 0, .int .i64 0, .string ⟨#[]⟩, .int .i64 0, .slice none 0 0, .int .i64 0, .string ⟨#[]⟩, .int .i64 0, .slice none 0 0, .int .i64 0, .string ⟨#[]⟩, .int .i64 0, .slice none 0 0, .int .i64 0, .string ⟨#[]⟩, .int .i64 0, .slice none 0 0, .string ⟨#[]⟩, .string ⟨#[]⟩, .string ⟨#[]⟩, .string ⟨#[]⟩, .string ⟨#[]⟩, .string ⟨#[]⟩, .string ⟨#[]⟩, .string ⟨#[]⟩, .string ⟨#[]⟩], .bool false]) (results_blk Tryz.results15 rfl (HRB.out.setRow #[.int .i64 0, .string ⟨#[]⟩, .int .i64 0, .slice none 0 0, .int .i64 0, .string ⟨#[]⟩, .int .i64 0, .slice none 0 0, .int .i64 0, .string ⟨#[]⟩, .int .i64 0, .slice none 0 0, .int .i64 0, .string ⟨#[]⟩, .int .i64 0, .slice none 0 0, .int .i64 0, .string ⟨#[]⟩, .int .i64 0, .slice none 0 0, .int .i64 0, .string ⟨#[]⟩, .int .i64 0, .slice none 0 0, .string ⟨#[]⟩, .string ⟨#[]⟩, .string ⟨#[]⟩, .string ⟨#[]⟩, .string ⟨#[]⟩, .string ⟨#[]⟩, .string ⟨#[]⟩, .string ⟨#[]⟩, .string ⟨#[]⟩]) Tryz.underlying44 rfl (by kernel_rfl)) rfl ?_
                exact ConfP.no HNO.out (below_setRow HBL.out (by omega) _)
              case' kd10 =>
                rw [if_pos (by kernel_rfl)]
                go_simp
                have HBA := hide (show Below V.heap.size V (V.alloc (.cells #[.int .i64 0, .string ⟨#[]⟩, .int .i64 0, .slice none 0 0] ( /- t -/ 40))).drew from (alloc_below V _).drew)
                have HSL := hide (HSL0.out.still (Still.of_below HBA.out))
                have HZ10 := hide ((Box4.now V (.int .i64 0) (.string ⟨#[]⟩) (.int .i64 0) (.slice none 0 0) ( /- t -/ 40)).drew)
                have HB9A := hide (HB9.out.below HBA.out)
                refine hK.out _ _ ?_ (fun hHeld => ?_)
                · exact HB9A.out
                clear hK K
                (try simp only [Act.put]); (try simp only [List.setIfInBounds_toArray]); (try simp only [List.set_cons_zero]); (try simp only [List.set_cons_succ])
                refine wpAnyH_ready (rs := [3]) (by kernel_rfl) (by simp) (AllReadyH.cons rfl (fun K hK => ?_) AllReadyH.nil)
                rw [if_pos (by kernel_rfl)]
                go_simp
                go_at_call 28
                refine (HCT.out _ HSL.out).mono ?_
                rintro e wC ⟨u1, b1, rfl, how, hge, hnd, hbC⟩
                obtain ⟨ua, uc, rfl⟩ := how.val
                have HOW := hide how
                have HGE := hide hge
                have HBC := hide hbC
                clear how hge hnd hbC
                have HB9C := hide (HB9A.out.below HBC.out)
                have HZ10 := hide (HZ10.out.below HBC.out)
                obtain ⟨h0, h1, h2, h3⟩ := HZ10.out.cells
                have hf10 := HZ10.out.frozen
                have hl10 := HZ10.out.lt
                refine hK.out _ _ ?_ (fun hHeld => ?_)
                · exact HB9C.out
                clear hK K
                (try simp only [Act.put]); (try simp only [List.setIfInBounds_toArray]); (try simp only [List.set_cons_zero]); (try simp only [List.set_cons_succ])
                have HB9S := hide (fun (v0 v1 v2 v3 : Value) => (show Box4 (set4 wC V.heap.size 0 v0 v1 v2 v3) wr.heap.size (.int .i64 g1.k) (.string g1.fr) (.int .i64 g1.ix) (.slice t1 g1.kids.len k1) from HB9C.out.same (set4_other _ _ _ _ _ _ _ _ (by have := HVS.out; omega))))
                refine wpAnyH_take (i := 4) (v := ?v4d10) rfl (by kernel_rfl) (by kernel_rfl) (by kernel_rfl) (fun _ _ _ h => h) (Or.inl ⟨by kernel_rfl, ?hy4d10⟩) (by assumption) ?rest4d10
                case hy4d10 => ((intro wS hSw); (obtain ⟨y0, y1, y2, y3⟩ := Box4.cells hSw); (go_simp); (try with_reducible rfl))
                change wpAnyH _ _ _ _ _ _ _ (Act.put _ (some 66) _) _
                (try simp only [Act.put]); (try simp only [List.setIfInBounds_toArray]); (try simp only [List.set_cons_zero]); (try simp only [List.set_cons_succ])
                refine wpAnyH_take (i := 5) (v := ?v5d10) rfl (by kernel_rfl) (by kernel_rfl) (by kernel_rfl) (fun _ _ _ h => h) (Or.inl ⟨by kernel_rfl, ?hy5d10⟩) (by assumption) ?rest5d10
                case hy5d10 => ((intro wS hSw); (obtain ⟨y0, y1, y2, y3⟩ := Box4.cells hSw); (go_simp); (try with_reducible rfl))
                change wpAnyH _ _ _ _ _ _ _ (Act.put _ (some 71) _) _
                (try simp only [Act.put]); (try simp only [List.setIfInBounds_toArray]); (try simp only [List.set_cons_zero]); (try simp only [List.set_cons_succ])
                refine wpAnyH_take (i := 6) (v := ?v6d10) rfl (by kernel_rfl) (by kernel_rfl) (by kernel_rfl) (fun _ _ _ h => h) (Or.inl ⟨by kernel_rfl, ?hy6d10⟩) (by assumption) ?rest6d10
                case hy6d10 => ((intro wS hSw); (obtain ⟨y0, y1, y2, y3⟩ := Box4.cells hSw); (go_simp); (try with_reducible rfl))
                change wpAnyH _ _ _ _ _ _ _ (Act.put _ (some 72) _) _
                (try simp only [Act.put]); (try simp only [List.setIfInBounds_toArray]); (try simp only [List.set_cons_zero]); (try simp only [List.set_cons_succ])
                refine wpAnyH_ready (rs := [8]) (by kernel_rfl) (by simp) (AllReadyH.cons rfl (fun K hK => ?_) AllReadyH.nil)
                rw [if_pos (by kernel_rfl)]
                go_simp
                refine hK.out _ _ ?_ (fun hHeld => ?_)
                · exact HB9S.out _ _ _ _
                clear hK K
                (try simp only [Act.put]); (try simp only [List.setIfInBounds_toArray]); (try simp only [List.set_cons_zero]); (try simp only [List.set_cons_succ])
                refine wpAnyH_take (i := 9) (v := ?v9d10) rfl (by kernel_rfl) (by kernel_rfl) (by kernel_rfl) (fun _ _ _ h => h) (Or.inl ⟨by kernel_rfl, ?hy9d10⟩) (by assumption) ?rest9d10
                case hy9d10 => ((intro wS hSw); (obtain ⟨y0, y1, y2, y3⟩ := Box4.cells hSw); (go_simp); (try with_reducible rfl))
                change wpAnyH _ _ _ _ _ _ _ (Act.put _ (some 11) _) _
                (try simp only [Act.put]); (try simp only [List.setIfInBounds_toArray]); (try simp only [List.set_cons_zero]); (try simp only [List.set_cons_succ])
                refine wpAnyH_done (by kernel_rfl) ?_ _
                have hge2 : V.heap.size ≤ V.heap.size := Nat.le_refl _
                have HBF := hide (set4_below (HBA.out.trans (HBC.out.mono HBA.out.size)) V.heap.size 0 (Nat.le_refl _) (.int .i64 R.k) (.string R.fr) (.int .i64 R.ix) (.slice ua R.kids.len uc))
                have HBX := hide (HZ10.out.setAll (.int .i64 R.k) (.string R.fr) (.int .i64 R.ix) (.slice ua R.kids.len uc))
                have HOX := hide (HOW.out.same (show Same wC (set4 wC V.heap.size 0 (.int .i64 R.k) (.string R.fr) (.int .i64 R.ix) (.slice ua R.kids.len uc)) b1 from fun x hx => set4_other _ _ _ _ _ _ _ _ (by have := HGE.out x hx; simp at this; omega)))
                change Exit.then _ _ _ _ (set4 wC V.heap.size 0 (.int .i64 R.k) (.string R.fr) (.int .i64 R.ix) (.slice ua R.kids.len uc))
                change Hid (Box4 (set4 wC V.heap.size 0 (.int .i64 R.k) (.string R.fr) (.int .i64 R.ix) (.slice ua R.kids.len uc)) _ _ _ _ _) at HBX
                generalize set4 wC V.heap.size 0 (.int .i64 R.k) (.string R.fr) (.int .i64 R.ix) (.slice ua R.kids.len uc) = X at *
                obtain ⟨B10, hB10⟩ : ∃ B10, B10 = V.heap.size := ⟨_, rfl⟩
                rw [← hB10] at HBX hge2 ⊢
                clear hB10
                have HGN := hide (fun x (hx : x ∈ b1) => (show V.heap.size ≤ x by have := HGE.out x hx; simp at this; omega))
                have HBX2 := hide (HVB.out.trans (HBF.out.mono HVB.out.size))
                have HRB := hide (HRB.out.below HBX2.out)
                have HBL3 := HBL
                have HBL := hide (HBL.out.trans (HBX2.out.mono HBL.out.size))
                go_wp2_with (first | (refine wpList_store_blk (b := w.heap.size + 1) (c := #[.int .i64 0, .string ⟨#[]⟩, .int .i64 0, .slice none 0 0, .int .i64 0, .string ⟨#[]⟩, .int .i64 0, .slice none 0 0, .int .i64 0, .string ⟨#[]⟩, .int .i64 0, .slice none 0 0, .int .i64 0, .string ⟨#[]⟩, .int .i64 0, .slice none 0 0, .int .i64 0, .string ⟨#[]⟩, .int .i64 0, .slice none 0 0, .int .i64 0, .string ⟨#[]⟩, .int .i64 0, .slice none 0 0, .string ⟨#[]⟩, .string ⟨#[]⟩, .string ⟨#[]⟩, .string ⟨#[]⟩, .string ⟨#[]⟩, .string ⟨#[]⟩, .string ⟨#[]⟩, .string ⟨#[]⟩, .string ⟨#[]⟩]) (c' := #[.int .i64 0, .string ⟨#[]⟩, .int .i64 0, .slice none 0 0, .int .i64 0, .string ⟨#[]⟩, .int .i64 0, .slice none 0 0, .int .i64 0, .string ⟨#[]⟩, .int .i64 0, .slice none 0 0, .int .i64 0, .string ⟨#[]⟩, .int .i64 0, .slice none 0 0, .int .i64 0, .string ⟨#[]⟩, .int .i64 0, .slice none 0 0, .int .i64 0, .string ⟨#[]⟩, .int .i64 0, .slice none 0 0, .string ⟨#[]⟩, .string ⟨#[]⟩, .string ⟨#[]⟩, .string ⟨#[]⟩, .string ⟨#[]⟩, .string ⟨#[]⟩, .string ⟨#[]⟩, .string ⟨#[]⟩, .string ⟨#[]⟩]) rfl rfl HRB.out rfl rfl (by kernel_rfl) rfl (by kernel_rfl) ?_) | fail)
                refine bodyPost_ret (v := .tuple #[.agg #[.int .i64 0, .string ⟨#[]⟩, .int .i64 0, .slice none 0 0, .int .i64 0, .string ⟨#[]⟩, .int .i64 0, .slice none 0 0, .int .i64 0, .string ⟨#[]⟩, .int .i64 0, .slice none 0 0, .int .i64 0, .string ⟨#[]⟩, .int .i64 0, .slice none 0 0, .int .i64 0, .string ⟨#[]⟩, .int .i64 0, .slice none 0 0, .int .i64 0, .string ⟨#[]⟩, .int .i64 0, .slice none 0 0, .string ⟨#[]⟩, .string ⟨#[]⟩, .string ⟨#[]⟩, .string ⟨#[]⟩, .string ⟨#[]⟩, .string ⟨#[]⟩, .string ⟨#[]⟩, .string ⟨#[]⟩, .string ⟨#[]⟩], .bool false]) (results_blk Tryz.results15 rfl (HRB.out.setRow #[.int .i64 0, .string ⟨#[]⟩, .int .i64 0, .slice none 0 0, .int .i64 0, .string ⟨#[]⟩, .int .i64 0, .slice none 0 0, .int .i64 0, .string ⟨#[]⟩, .int .i64 0, .slice none 0 0, .int .i64 0, .string ⟨#[]⟩, .int .i64 0, .slice none 0 0, .int .i64 0, .string ⟨#[]⟩, .int .i64 0, .slice none 0 0, .int .i64 0, .string ⟨#[]⟩, .int .i64 0, .slice none 0 0, .string ⟨#[]⟩, .string ⟨#[]⟩, .string ⟨#[]⟩, .string ⟨#[]⟩, .string ⟨#[]⟩, .string ⟨#[]⟩, .string ⟨#[]⟩, .string ⟨#[]⟩, .string ⟨#[]⟩]) Tryz.underlying44 rfl (by kernel_rfl)) rfl ?_
                exact ConfP.no HNO.out (below_setRow HBL.out (by omega) _)
            case' kb10 =>
              rw [if_pos (by kernel_rfl)]
              go_simp
              have HBA := hide (show Below V.heap.size V (V.alloc (.cells #[.int .i64 0, .string ⟨#[]⟩, .int .i64 0, .slice none 0 0] ( /- t -/ 40))).drew from (alloc_below V _).drew)
              have HSL := hide (HSL0.out.still (Still.of_below HBA.out))
              have HZ10 := hide ((Box4.now V (.int .i64 0) (.string ⟨#[]⟩) (.int .i64 0) (.slice none 0 0) ( /- t -/ 40)).drew)
              have HB9A := hide (HB9.out.below HBA.out)
              refine hK.out _ _ ?_ (fun hHeld => ?_)
              · exact HB9A.out
              clear hK K
              (try simp only [Act.put]); (try simp only [List.setIfInBounds_toArray]); (try simp only [List.set_cons_zero]); (try simp only [List.set_cons_succ])
              refine wpAnyH_ready (rs := [2]) (by kernel_rfl) (by simp) (AllReadyH.cons rfl (fun K hK => ?_) AllReadyH.nil)
              rw [if_pos (by kernel_rfl)]
              go_simp
              (go_at_call 29; (with_reducible refine (HRO.out _).mono ?_); rintro e wF ⟨rfl, rfl⟩)
              refine hK.out _ _ ?_ (fun hHeld => ?_)
              · exact HB9A.out
              clear hK K
              (try simp only [Act.put]); (try simp only [List.setIfInBounds_toArray]); (try simp only [List.set_cons_zero]); (try simp only [List.set_cons_succ])
              refine wpAnyH_ready (rs := [3]) (by kernel_rfl) (by simp) (AllReadyH.cons rfl (fun K hK => ?_) AllReadyH.nil)
              rw [if_pos (by kernel_rfl)]
              go_simp
              go_at_call 28
              refine (HCT.out _ HSL.out).mono ?_
              rintro e wC ⟨u1, b1, rfl, how, hge, hnd, hbC⟩
              obtain ⟨ua, uc, rfl⟩ := how.val
              have HOW := hide how
              have HGE := hide hge
              have HBC := hide hbC
              clear how hge hnd hbC
              have HB9C := hide (HB9A.out.below HBC.out)
              have HZ10 := hide (HZ10.out.below HBC.out)
              obtain ⟨h0, h1, h2, h3⟩ := HZ10.out.cells
              have hf10 := HZ10.out.frozen
              have hl10 := HZ10.out.lt
              refine hK.out _ _ ?_ (fun hHeld => ?_)
              · exact HB9C.out
              clear hK K
              (try simp only [Act.put]); (try simp only [List.setIfInBounds_toArray]); (try simp only [List.set_cons_zero]); (try simp only [List.set_cons_succ])
              have HB9S := hide (fun (v0 v1 v2 v3 : Value) => (show Box4 (set4 wC V.heap.size 0 v0 v1 v2 v3) wr.heap.size (.int .i64 g1.k) (.string g1.fr) (.int .i64 g1.ix) (.slice t1 g1.kids.len k1) from HB9C.out.same (set4_other _ _ _ _ _ _ _ _ (by have := HVS.out; omega))))
              refine wpAnyH_take (i := 4) (v := ?v4b10) rfl (by kernel_rfl) (by kernel_rfl) (by kernel_rfl) (fun _ _ _ h => h) (Or.inl ⟨by kernel_rfl, ?hy4b10⟩) (by assumption) ?rest4b10
              case hy4b10 => ((intro wS hSw); (obtain ⟨y0, y1, y2, y3⟩ := Box4.cells hSw); (go_simp); (try with_reducible rfl))
              change wpAnyH _ _ _ _ _ _ _ (Act.put _ (some 66) _) _
              (try simp only [Act.put]); (try simp only [List.setIfInBounds_toArray]); (try simp only [List.set_cons_zero]); (try simp only [List.set_cons_succ])
              refine wpAnyH_take (i := 5) (v := ?v5b10) rfl (by kernel_rfl) (by kernel_rfl) (by kernel_rfl) (fun _ _ _ h => h) (Or.inl ⟨by kernel_rfl, ?hy5b10⟩) (by assumption) ?rest5b10
              case hy5b10 => ((intro wS hSw); (obtain ⟨y0, y1, y2, y3⟩ := Box4.cells hSw); (go_simp); (try with_reducible rfl))
              change wpAnyH _ _ _ _ _ _ _ (Act.put _ (some 71) _) _
              (try simp only [Act.put]); (try simp only [List.setIfInBounds_toArray]); (try simp only [List.set_cons_zero]); (try simp only [List.set_cons_succ])
              refine wpAnyH_take (i := 6) (v := ?v6b10) rfl (by kernel_rfl) (by kernel_rfl) (by kernel_rfl) (fun _ _ _ h => h) (Or.inl ⟨by kernel_rfl, ?hy6b10⟩) (by assumption) ?rest6b10
              case hy6b10 => ((intro wS hSw); (obtain ⟨y0, y1, y2, y3⟩ := Box4.cells hSw); (go_simp); (try with_reducible rfl))
              change wpAnyH _ _ _ _ _ _ _ (Act.put _ (some 72) _) _
              (try simp only [Act.put]); (try simp only [List.setIfInBounds_toArray]); (try simp only [List.set_cons_zero]); (try simp only [List.set_cons_succ])
              refine wpAnyH_ready (rs := [8]) (by kernel_rfl) (by simp) (AllReadyH.cons rfl (fun K hK => ?_) AllReadyH.nil)
              rw [if_pos (by kernel_rfl)]
              go_simp
              refine hK.out _ _ ?_ (fun hHeld => ?_)
              · exact HB9S.out _ _ _ _
              clear hK K
              (try simp only [Act.put]); (try simp only [List.setIfInBounds_toArray]); (try simp only [List.set_cons_zero]); (try simp only [List.set_cons_succ])
              refine wpAnyH_take (i := 9) (v := ?v9b10) rfl (by kernel_rfl) (by kernel_rfl) (by kernel_rfl) (fun _ _ _ h => h) (Or.inl ⟨by kernel_rfl, ?hy9b10⟩) (by assumption) ?rest9b10
              case hy9b10 => ((intro wS hSw); (obtain ⟨y0, y1, y2, y3⟩ := Box4.cells hSw); (go_simp); (try with_reducible rfl))
              change wpAnyH _ _ _ _ _ _ _ (Act.put _ (some 11) _) _
              (try simp only [Act.put]); (try simp only [List.setIfInBounds_toArray]); (try simp only [List.set_cons_zero]); (try simp only [List.set_cons_succ])
              refine wpAnyH_done (by kernel_rfl) ?_ _
              have hge2 : V.heap.size ≤ V.heap.size := Nat.le_refl _
              have HBF := hide (set4_below (HBA.out.trans (HBC.out.mono HBA.out.size)) V.heap.size 0 (Nat.le_refl _) (.int .i64 R.k) (.string R.fr) (.int .i64 R.ix) (.slice ua R.kids.len uc))
              have HBX := hide (HZ10.out.setAll (.int .i64 R.k) (.string R.fr) (.int .i64 R.ix) (.slice ua R.kids.len uc))
              have HOX := hide (HOW.out.same (show Same wC (set4 wC V.heap.size 0 (.int .i64 R.k) (.string R.fr) (.int .i64 R.ix) (.slice ua R.kids.len uc)) b1 from fun x hx => set4_other _ _ _ _ _ _ _ _ (by have := HGE.out x hx; simp at this; omega)))
              change Exit.then _ _ _ _ (set4 wC V.heap.size 0 (.int .i64 R.k) (.string R.fr) (.int .i64 R.ix) (.slice ua R.kids.len uc))
              change Hid (Box4 (set4 wC V.heap.size 0 (.int .i64 R.k) (.string R.fr) (.int .i64 R.ix) (.slice ua R.kids.len uc)) _ _ _ _ _) at HBX
              generalize set4 wC V.heap.size 0 (.int .i64 R.k) (.string R.fr) (.int .i64 R.ix) (.slice ua R.kids.len uc) = X at *
              obtain ⟨B10, hB10⟩ : ∃ B10, B10 = V.heap.size := ⟨_, rfl⟩
              rw [← hB10] at HBX hge2 ⊢
              clear hB10
              have HGN := hide (fun x (hx : x ∈ b1) => (show V.heap.size ≤ x by have := HGE.out x hx; simp at this; omega))
              have HBX2 := hide (HVB.out.trans (HBF.out.mono HVB.out.size))
              have HRB := hide (HRB.out.below HBX2.out)
              have HBL3 := HBL
              have HBL := hide (HBL.out.trans (HBX2.out.mono HBL.out.size))
              go_wp2_with (first | (refine wpList_store_blk (b := w.heap.size + 1) (c := #[.int .i64 0, .string ⟨#[]⟩, .int .i64 0, .slice none 0 0, .int .i64 0, .string ⟨#[]⟩, .int .i64 0, .slice none 0 0, .int .i64 0, .string ⟨#[]⟩, .int .i64 0, .slice none 0 0, .int .i64 0, .string ⟨#[]⟩, .int .i64 0, .slice none 0 0, .int .i64 0, .string ⟨#[]⟩, .int .i64 0, .slice none 0 0, .int .i64 0, .string ⟨#[]⟩, .int .i64 0, .slice none 0 0, .string ⟨#[]⟩, .string ⟨#[]⟩, .string ⟨#[]⟩, .string ⟨#[]⟩, .string ⟨#[]⟩, .string ⟨#[]⟩, .string ⟨#[]⟩, .string ⟨#[]⟩, .string ⟨#[]⟩]) (c' := #[.int .i64 0, .string ⟨#[]⟩, .int .i64 0, .slice none 0 0, .int .i64 0, .string ⟨#[]⟩, .int .i64 0, .slice none 0 0, .int .i64 0, .string ⟨#[]⟩, .int .i64 0, .slice none 0 0, .int .i64 0, .string ⟨#[]⟩, .int .i64 0, .slice none 0 0, .int .i64 0, .string ⟨#[]⟩, .int .i64 0, .slice none 0 0, .int .i64 0, .string ⟨#[]⟩, .int .i64 0, .slice none 0 0, .string ⟨#[]⟩, .string ⟨#[]⟩, .string ⟨#[]⟩, .string ⟨#[]⟩, .string ⟨#[]⟩, .string ⟨#[]⟩, .string ⟨#[]⟩, .string ⟨#[]⟩, .string ⟨#[]⟩]) rfl rfl HRB.out rfl rfl (by kernel_rfl) rfl (by kernel_rfl) ?_) | fail)
              refine bodyPost_ret (v := .tuple #[.agg #[.int .i64 0, .string ⟨#[]⟩, .int .i64 0, .slice none 0 0, .int .i64 0, .string ⟨#[]⟩, .int .i64 0, .slice none 0 0, .int .i64 0, .string ⟨#[]⟩, .int .i64 0, .slice none 0 0, .int .i64 0, .string ⟨#[]⟩, .int .i64 0, .slice none 0 0, .int .i64 0, .string ⟨#[]⟩, .int .i64 0, .slice none 0 0, .int .i64 0, .string ⟨#[]⟩, .int .i64 0, .slice none 0 0, .string ⟨#[]⟩, .string ⟨#[]⟩, .string ⟨#[]⟩, .string ⟨#[]⟩, .string ⟨#[]⟩, .string ⟨#[]⟩, .string ⟨#[]⟩, .string ⟨#[]⟩, .string ⟨#[]⟩], .bool false]) (results_blk Tryz.results15 rfl (HRB.out.setRow #[.int .i64 0, .string ⟨#[]⟩, .int .i64 0, .slice none 0 0, .int .i64 0, .string ⟨#[]⟩, .int .i64 0, .slice none 0 0, .int .i64 0, .string ⟨#[]⟩, .int .i64 0, .slice none 0 0, .int .i64 0, .string ⟨#[]⟩, .int .i64 0, .slice none 0 0, .int .i64 0, .string ⟨#[]⟩, .int .i64 0, .slice none 0 0, .int .i64 0, .string ⟨#[]⟩, .int .i64 0, .slice none 0 0, .string ⟨#[]⟩, .string ⟨#[]⟩, .string ⟨#[]⟩, .string ⟨#[]⟩, .string ⟨#[]⟩, .string ⟨#[]⟩, .string ⟨#[]⟩, .string ⟨#[]⟩, .string ⟨#[]⟩]) Tryz.underlying44 rfl (by kernel_rfl)) rfl ?_
              exact ConfP.no HNO.out (below_setRow HBL.out (by omega) _)
          | true =>
            obtain ⟨R, hR⟩ : ∃ R, R = unf ⟨g1.k, g1.fr, g1.ix, g1.kids⟩ := ⟨_, rfl⟩
            have HCT := hide (fun (W : World) (hs : Sl W (.slice t1 g1.kids.len k1) g1.kids) => (show Calls Tryz.prog 28 #[.agg #[.int .i64 g1.k, .string g1.fr, .int .i64 g1.ix, .slice t1 g1.kids.len k1], .string ⟨#[66]⟩] W (MadeR R true W) by have := implCur W ⟨g1.k, g1.fr, g1.ix, g1.kids⟩ (.slice t1 g1.kids.len k1) 66 hs; rw [show curR ⟨g1.k, g1.fr, g1.ix, g1.kids⟩ 66 = R by rw [hR]; unfold curR; rw [show curOk ⟨g1.k, g1.fr, g1.ix, g1.kids⟩ 66 = true from hcu]; rfl, show curOk ⟨g1.k, g1.fr, g1.ix, g1.kids⟩ 66 = true from hcu] at this; exact this))
            have HR := hide hR
            have hrbl := HRB.out.lt
            clear hR
            refine wp_region_held_drew (S := (fun w' => Box4 w' wr.heap.size (.int .i64 g1.k) (.string g1.fr) (.int .i64 g1.ix) (.slice t1 g1.kids.len k1))) (by kernel_rfl) ?_ (fun hHeld => ?_)
            · exact HB9.out.drew
            refine wpAnyH_take (i := 0) (v := ?v0p11) rfl (by kernel_rfl) (by kernel_rfl) (by kernel_rfl) (fun _ _ _ h => h) (Or.inl ⟨by kernel_rfl, ?hy0p11⟩) (by assumption) ?rest0p11
            case hy0p11 => ((intro wS hSw); (obtain ⟨y0, y1, y2, y3⟩ := Box4.cells hSw); (go_simp); (try with_reducible rfl))
            change wpAnyH _ _ _ _ _ _ _ (Act.put _ (some 67) _) _
            (try simp only [Act.put]); (try simp only [List.setIfInBounds_toArray]); (try simp only [List.set_cons_zero]); (try simp only [List.set_cons_succ])
            refine wpAnyH_take (i := 1) (v := ?v1p11) rfl (by kernel_rfl) (by kernel_rfl) (by kernel_rfl) (fun _ _ _ h => h) (Or.inl ⟨by kernel_rfl, ?hy1p11⟩) (by assumption) ?rest1p11
            case hy1p11 => ((intro wS hSw); (obtain ⟨y0, y1, y2, y3⟩ := Box4.cells hSw); (go_simp); (try with_reducible rfl))
            change wpAnyH _ _ _ _ _ _ _ (Act.put _ (some 68) _) _
            (try simp only [Act.put]); (try simp only [List.setIfInBounds_toArray]); (try simp only [List.set_cons_zero]); (try simp only [List.set_cons_succ])
            refine wpAnyH_ready (rs := [2, 7]) (by kernel_rfl) (by simp) (AllReadyH.cons rfl (fun K hK => ?ka11) (AllReadyH.cons rfl (fun K hK => ?kb11) AllReadyH.nil))
            case' ka11 =>
              rw [if_pos (by kernel_rfl)]
              go_simp
              (go_at_call 29; (with_reducible refine (HRO.out _).mono ?_); rintro e wF ⟨rfl, rfl⟩)
              refine hK.out _ _ ?_ (fun hHeld => ?_)
              · exact HB9.out.drew
              clear hK K
              (try simp only [Act.put]); (try simp only [List.setIfInBounds_toArray]); (try simp only [List.set_cons_zero]); (try simp only [List.set_cons_succ])
              refine wpAnyH_ready (rs := [3, 7]) (by kernel_rfl) (by simp) (AllReadyH.cons rfl (fun K hK => ?kc11) (AllReadyH.cons rfl (fun K hK => ?kd11) AllReadyH.nil))
              case' kc11 =>
                rw [if_pos (by kernel_rfl)]
                go_simp
                go_at_call 28
                refine (HCT.out _ HSL.out).mono ?_
                rintro e wC ⟨u1, b1, rfl, how, hge, hnd, hbC⟩
                obtain ⟨ua, uc, rfl⟩ := how.val
                have HOW := hide how
                have HGE := hide hge
                have HBC := hide hbC
                clear how hge hnd hbC
                refine hK.out _ _ ?_ (fun hHeld => ?_)
                · exact HB9.out.drew.below HBC.out
                clear hK K
                (try simp only [Act.put]); (try simp only [List.setIfInBounds_toArray]); (try simp only [List.set_cons_zero]); (try simp only [List.set_cons_succ])
                have HB9C := hide (HB9.out.drew.below HBC.out)
                refine wpAnyH_take (i := 4) (v := ?v4c11) rfl (by kernel_rfl) (by kernel_rfl) (by kernel_rfl) (fun _ _ _ h => h) (Or.inl ⟨by kernel_rfl, ?hy4c11⟩) (by assumption) ?rest4c11
                case hy4c11 => ((intro wS hSw); (obtain ⟨y0, y1, y2, y3⟩ := Box4.cells hSw); (go_simp); (try with_reducible rfl))
                change wpAnyH _ _ _ _ _ _ _ (Act.put _ (some 66) _) _
                (try simp only [Act.put]); (try simp only [List.setIfInBounds_toArray]); (try simp only [List.set_cons_zero]); (try simp only [List.set_cons_succ])
                refine wpAnyH_take (i := 5) (v := ?v5c11) rfl (by kernel_rfl) (by kernel_rfl) (by kernel_rfl) (fun _ _ _ h => h) (Or.inl ⟨by kernel_rfl, ?hy5c11⟩) (by assumption) ?rest5c11
                case hy5c11 => ((intro wS hSw); (obtain ⟨y0, y1, y2, y3⟩ := Box4.cells hSw); (go_simp); (try with_reducible rfl))
                change wpAnyH _ _ _ _ _ _ _ (Act.put _ (some 71) _) _
                (try simp only [Act.put]); (try simp only [List.setIfInBounds_toArray]); (try simp only [List.set_cons_zero]); (try simp only [List.set_cons_succ])
                refine wpAnyH_take (i := 6) (v := ?v6c11) rfl (by kernel_rfl) (by kernel_rfl) (by kernel_rfl) (fun _ _ _ h => h) (Or.inl ⟨by kernel_rfl, ?hy6c11⟩) (by assumption) ?rest6c11
                case hy6c11 => ((intro wS hSw); (obtain ⟨y0, y1, y2, y3⟩ := Box4.cells hSw); (go_simp); (try with_reducible rfl))
                change wpAnyH _ _ _ _ _ _ _ (Act.put _ (some 72) _) _
                (try simp only [Act.put]); (try simp only [List.setIfInBounds_toArray]); (try simp only [List.set_cons_zero]); (try simp only [List.set_cons_succ])
                refine wpAnyH_ready (rs := [7]) (by kernel_rfl) (by simp) (AllReadyH.cons rfl (fun K hK => ?_) AllReadyH.nil)
                rw [if_pos (by kernel_rfl)]
                go_simp
                refine hK.out _ _ ?_ (fun hHeld => ?_)
                · exact (Box4.below (HB9C.out) (alloc_below _ _))
                clear hK K
                (try simp only [Act.put]); (try simp only [List.setIfInBounds_toArray]); (try simp only [List.set_cons_zero]); (try simp only [List.set_cons_succ])
                refine wpAnyH_ready (rs := [8]) (by kernel_rfl) (by simp) (AllReadyH.cons rfl (fun K hK => ?_) AllReadyH.nil)
                rw [if_pos (by kernel_rfl)]
                go_simp
                refine hK.out _ _ ?_ (fun hHeld => ?_)
                · exact (Box4.below (HB9C.out) (alloc_below _ _))
                clear hK K
                (try simp only [Act.put]); (try simp only [List.setIfInBounds_toArray]); (try simp only [List.set_cons_zero]); (try simp only [List.set_cons_succ])
                refine wpAnyH_take (i := 9) (v := ?v9c11) rfl (by kernel_rfl) (by kernel_rfl) (by kernel_rfl) (fun _ _ _ h => h) (Or.inl ⟨by kernel_rfl, ?hy9c11⟩) (by assumption) ?rest9c11
                case hy9c11 => ((intro wS hSw); (obtain ⟨y0, y1, y2, y3⟩ := Box4.cells hSw); (go_simp); (try with_reducible rfl))
                change wpAnyH _ _ _ _ _ _ _ (Act.put _ (some 11) _) _
                (try simp only [Act.put]); (try simp only [List.setIfInBounds_toArray]); (try simp only [List.set_cons_zero]); (try simp only [List.set_cons_succ])
                refine wpAnyH_done (by kernel_rfl) ?_ _
                have HBF := hide ((show Below V.heap.size V V.drew from (Below.refl _ _).drew).trans (HBC.out.trans ((alloc_below wC (.cells #[.int .i64 R.k, .string R.fr, .int .i64 R.ix, .slice ua R.kids.len uc] ( /- t -/ 40))).mono (HBC.out.size))))
                have HBX := hide (Box4.now wC (.int .i64 R.k) (.string R.fr) (.int .i64 R.ix) (.slice ua R.kids.len uc) ( /- t -/ 40))
                have HOX := hide (HOW.out.same (Same.of_below (alloc_below wC (.cells #[.int .i64 R.k, .string R.fr, .int .i64 R.ix, .slice ua R.kids.len uc] ( /- t -/ 40))) HOW.out.lt))
                have hge2 : V.heap.size ≤ wC.heap.size := HBC.out.size
                generalize wC.alloc (.cells #[.int .i64 R.k, .string R.fr, .int .i64 R.ix, .slice ua R.kids.len uc] ( /- t -/ 40)) = X at *
                have HGN := hide (fun x (hx : x ∈ b1) => (show V.heap.size ≤ x by have := HGE.out x hx; simpa using this))
                generalize wC.heap.size = B10 at *
                have HBX2 := hide (HVB.out.trans (HBF.out.mono HVB.out.size))
                have HRB := hide (HRB.out.below HBX2.out)
                have HBL3 := HBL
                have HBL := hide (HBL.out.trans (HBX2.out.mono HBL.out.size))
                have HBLK2 := hide (HBLK.out.below HBX2.out)
                obtain ⟨e0, e1, e2, e3⟩ := HBX.out.cells
                have f0 := HBLK2.out.cell 16
                have f1 := HBLK2.out.cell 17
                have f2 := HBLK2.out.cell 18
                have f3 := HBLK2.out.cell 19
                simp only [List.getElem?_toArray, List.getElem?_cons_succ, List.getElem?_cons_zero] at f0 f1 f2 f3
                have ff := HBLK2.out.frozen
                have fl := HBLK2.out.lt
                have el := HBX.out.lt
                go_wp2_with fail
                go_roundw
                case rel =>
                  have hR := HR.out
                  subst hR
                  have hsame : ∀ bs : List Nat, (∀ x, x ∈ bs → x ≠ W.heap.size) → Same X (((( X.setCell ⟨W.heap.size, 16, none⟩ (.int .i64 (unf ⟨g1.k, g1.fr, g1.ix, g1.kids⟩).k)).setCell ⟨W.heap.size, 17, none⟩ (.string (unf ⟨g1.k, g1.fr, g1.ix, g1.kids⟩).fr)).setCell ⟨W.heap.size, 18, none⟩ (.int .i64 (unf ⟨g1.k, g1.fr, g1.ix, g1.kids⟩).ix)).setCell ⟨W.heap.size, 19, none⟩ (.slice ua (unf ⟨g1.k, g1.fr, g1.ix, g1.kids⟩).kids.len uc)) bs := fun bs hb => by
                    repeat (refine Same.setCell ?_ (fun x hx => by have := hb x hx; simpa using this) _)
                    exact Same.refl _ _
                  exact ⟨2, by omega, rfl, ⟨u0, b0, _, b1, (((HBLK2.out.set 16 _).set 17 _).set 18 _).set 19 _, ⟨(hso0.same (Same.of_below HBX2.out hso0.lt)).same (hsame _ (fun x hx => (hsn0 x hx).1)), hsn0⟩, ⟨HOX.out.same (hsame _ (fun x hx => by have := HGN.out x hx; have := HBLK.out.lt; have := HVS.out; omega)), fun x hx => ⟨by have := HGN.out x hx; have := HBLK.out.lt; have := HVS.out; omega, by have := HGN.out x hx; have := hrbl; have := HVS.out; omega⟩⟩, hc0, hcu⟩, (((HBL.out.setCell (by show w.heap.size ≤ W.heap.size; omega) _).setCell (by show w.heap.size ≤ W.heap.size; omega) _).setCell (by show w.heap.size ≤ W.heap.size; omega) _).setCell (by show w.heap.size ≤ W.heap.size; omega) _, (((HRB.out.setOtherCell (by show w.heap.size + 1 ≠ W.heap.size; omega) _).setOtherCell (by show w.heap.size + 1 ≠ W.heap.size; omega) _).setOtherCell (by show w.heap.size + 1 ≠ W.heap.size; omega) _).setOtherCell (by show w.heap.size + 1 ≠ W.heap.size; omega) _⟩
                case measure => simp [intOf]
              case' kd11 =>
                rw [if_pos (by kernel_rfl)]
                go_simp
                have HBA := hide (show Below V.heap.size V (V.alloc (.cells #[.int .i64 0, .string ⟨#[]⟩, .int .i64 0, .slice none 0 0] ( /- t -/ 40))).drew from (alloc_below V _).drew)
                have HSL := hide (HSL0.out.still (Still.of_below HBA.out))
                have HZ10 := hide ((Box4.now V (.int .i64 0) (.string ⟨#[]⟩) (.int .i64 0) (.slice none 0 0) ( /- t -/ 40)).drew)
                have HB9A := hide (HB9.out.below HBA.out)
                refine hK.out _ _ ?_ (fun hHeld => ?_)
                · exact HB9A.out
                clear hK K
                (try simp only [Act.put]); (try simp only [List.setIfInBounds_toArray]); (try simp only [List.set_cons_zero]); (try simp only [List.set_cons_succ])
                refine wpAnyH_ready (rs := [3]) (by kernel_rfl) (by simp) (AllReadyH.cons rfl (fun K hK => ?_) AllReadyH.nil)
                rw [if_pos (by kernel_rfl)]
                go_simp
                go_at_call 28
                refine (HCT.out _ HSL.out).mono ?_
                rintro e wC ⟨u1, b1, rfl, how, hge, hnd, hbC⟩
                obtain ⟨ua, uc, rfl⟩ := how.val
                have HOW := hide how
                have HGE := hide hge
                have HBC := hide hbC
                clear how hge hnd hbC
                have HB9C := hide (HB9A.out.below HBC.out)
                have HZ10 := hide (HZ10.out.below HBC.out)
                obtain ⟨h0, h1, h2, h3⟩ := HZ10.out.cells
                have hf10 := HZ10.out.frozen
                have hl10 := HZ10.out.lt
                refine hK.out _ _ ?_ (fun hHeld => ?_)
                · exact HB9C.out
                clear hK K
                (try simp only [Act.put]); (try simp only [List.setIfInBounds_toArray]); (try simp only [List.set_cons_zero]); (try simp only [List.set_cons_succ])
                have HB9S := hide (fun (v0 v1 v2 v3 : Value) => (show Box4 (set4 wC V.heap.size 0 v0 v1 v2 v3) wr.heap.size (.int .i64 g1.k) (.string g1.fr) (.int .i64 g1.ix) (.slice t1 g1.kids.len k1) from HB9C.out.same (set4_other _ _ _ _ _ _ _ _ (by have := HVS.out; omega))))
                refine wpAnyH_take (i := 4) (v := ?v4d11) rfl (by kernel_rfl) (by kernel_rfl) (by kernel_rfl) (fun _ _ _ h => h) (Or.inl ⟨by kernel_rfl, ?hy4d11⟩) (by assumption) ?rest4d11
                case hy4d11 => ((intro wS hSw); (obtain ⟨y0, y1, y2, y3⟩ := Box4.cells hSw); (go_simp); (try with_reducible rfl))
                change wpAnyH _ _ _ _ _ _ _ (Act.put _ (some 66) _) _
                (try simp only [Act.put]); (try simp only [List.setIfInBounds_toArray]); (try simp only [List.set_cons_zero]); (try simp only [List.set_cons_succ])
                refine wpAnyH_take (i := 5) (v := ?v5d11) rfl (by kernel_rfl) (by kernel_rfl) (by kernel_rfl) (fun _ _ _ h => h) (Or.inl ⟨by kernel_rfl, ?hy5d11⟩) (by assumption) ?rest5d11
                case hy5d11 => ((intro wS hSw); (obtain ⟨y0, y1, y2, y3⟩ := Box4.cells hSw); (go_simp); (try with_reducible rfl))
                change wpAnyH _ _ _ _ _ _ _ (Act.put _ (some 71) _) _
                (try simp only [Act.put]); (try simp only [List.setIfInBounds_toArray]); (try simp only [List.set_cons_zero]); (try simp only [List.set_cons_succ])
                refine wpAnyH_take (i := 6) (v := ?v6d11) rfl (by kernel_rfl) (by kernel_rfl) (by kernel_rfl) (fun _ _ _ h => h) (Or.inl ⟨by kernel_rfl, ?hy6d11⟩) (by assumption) ?rest6d11
                case hy6d11 => ((intro wS hSw); (obtain ⟨y0, y1, y2, y3⟩ := Box4.cells hSw); (go_simp); (try with_reducible rfl))
                change wpAnyH _ _ _ _ _ _ _ (Act.put _ (some 72) _) _
                (try simp only [Act.put]); (try simp only [List.setIfInBounds_toArray]); (try simp only [List.set_cons_zero]); (try simp only [List.set_cons_succ])
                refine wpAnyH_ready (rs := [8]) (by kernel_rfl) (by simp) (AllReadyH.cons rfl (fun K hK => ?_) AllReadyH.nil)
                rw [if_pos (by kernel_rfl)]
                go_simp
                refine hK.out _ _ ?_ (fun hHeld => ?_)
                · exact HB9S.out _ _ _ _
                clear hK K
                (try simp only [Act.put]); (try simp only [List.setIfInBounds_toArray]); (try simp only [List.set_cons_zero]); (try simp only [List.set_cons_succ])
                refine wpAnyH_take (i := 9) (v := ?v9d11) rfl (by kernel_rfl) (by kernel_rfl) (by kernel_rfl) (fun _ _ _ h => h) (Or.inl ⟨by kernel_rfl, ?hy9d11⟩) (by assumption) ?rest9d11
                case hy9d11 => ((intro wS hSw); (obtain ⟨y0, y1, y2, y3⟩ := Box4.cells hSw); (go_simp); (try with_reducible rfl))
                change wpAnyH _ _ _ _ _ _ _ (Act.put _ (some 11) _) _
                (try simp only [Act.put]); (try simp only [List.setIfInBounds_toArray]); (try simp only [List.set_cons_zero]); (try simp only [List.set_cons_succ])
                refine wpAnyH_done (by kernel_rfl) ?_ _
                have hge2 : V.heap.size ≤ V.heap.size := Nat.le_refl _
                have HBF := hide (set4_below (HBA.out.trans (HBC.out.mono HBA.out.size)) V.heap.size 0 (Nat.le_refl _) (.int .i64 R.k) (.string R.fr) (.int .i64 R.ix) (.slice ua R.kids.len uc))
                have HBX := hide (HZ10.out.setAll (.int .i64 R.k) (.string R.fr) (.int .i64 R.ix) (.slice ua R.kids.len uc))
                have HOX := hide (HOW.out.same (show Same wC (set4 wC V.heap.size 0 (.int .i64 R.k) (.string R.fr) (.int .i64 R.ix) (.slice ua R.kids.len uc)) b1 from fun x hx => set4_other _ _ _ _ _ _ _ _ (by have := HGE.out x hx; simp at this; omega)))
                change Exit.then _ _ _ _ (set4 wC V.heap.size 0 (.int .i64 R.k) (.string R.fr) (.int .i64 R.ix) (.slice ua R.kids.len uc))
                change Hid (Box4 (set4 wC V.heap.size 0 (.int .i64 R.k) (.string R.fr) (.int .i64 R.ix) (.slice ua R.kids.len uc)) _ _ _ _ _) at HBX
                generalize set4 wC V.heap.size 0 (.int .i64 R.k) (.string R.fr) (.int .i64 R.ix) (.slice ua R.kids.len uc) = X at *
                obtain ⟨B10, hB10⟩ : ∃ B10, B10 = V.heap.size := ⟨_, rfl⟩
                rw [← hB10] at HBX hge2 ⊢
                clear hB10
                have HGN := hide (fun x (hx : x ∈ b1) => (show V.heap.size ≤ x by have := HGE.out x hx; simp at this; omega))
                have HBX2 := hide (HVB.out.trans (HBF.out.mono HVB.out.size))
                have HRB := hide (HRB.out.below HBX2.out)
                have HBL3 := HBL
                have HBL := hide (HBL.out.trans (HBX2.out.mono HBL.out.size))
                have HBLK2 := hide (HBLK.out.below HBX2.out)
                obtain ⟨e0, e1, e2, e3⟩ := HBX.out.cells
                have f0 := HBLK2.out.cell 16
                have f1 := HBLK2.out.cell 17
                have f2 := HBLK2.out.cell 18
                have f3 := HBLK2.out.cell 19
                simp only [List.getElem?_toArray, List.getElem?_cons_succ, List.getElem?_cons_zero] at f0 f1 f2 f3
                have ff := HBLK2.out.frozen
                have fl := HBLK2.out.lt
                have el := HBX.out.lt
                go_wp2_with fail
                go_roundw
                case rel =>
                  have hR := HR.out
                  subst hR
                  have hsame : ∀ bs : List Nat, (∀ x, x ∈ bs → x ≠ W.heap.size) → Same X (((( X.setCell ⟨W.heap.size, 16, none⟩ (.int .i64 (unf ⟨g1.k, g1.fr, g1.ix, g1.kids⟩).k)).setCell ⟨W.heap.size, 17, none⟩ (.string (unf ⟨g1.k, g1.fr, g1.ix, g1.kids⟩).fr)).setCell ⟨W.heap.size, 18, none⟩ (.int .i64 (unf ⟨g1.k, g1.fr, g1.ix, g1.kids⟩).ix)).setCell ⟨W.heap.size, 19, none⟩ (.slice ua (unf ⟨g1.k, g1.fr, g1.ix, g1.kids⟩).kids.len uc)) bs := fun bs hb => by
                    repeat (refine Same.setCell ?_ (fun x hx => by have := hb x hx; simpa using this) _)
                    exact Same.refl _ _
                  exact ⟨2, by omega, rfl, ⟨u0, b0, _, b1, (((HBLK2.out.set 16 _).set 17 _).set 18 _).set 19 _, ⟨(hso0.same (Same.of_below HBX2.out hso0.lt)).same (hsame _ (fun x hx => (hsn0 x hx).1)), hsn0⟩, ⟨HOX.out.same (hsame _ (fun x hx => by have := HGN.out x hx; have := HBLK.out.lt; have := HVS.out; omega)), fun x hx => ⟨by have := HGN.out x hx; have := HBLK.out.lt; have := HVS.out; omega, by have := HGN.out x hx; have := hrbl; have := HVS.out; omega⟩⟩, hc0, hcu⟩, (((HBL.out.setCell (by show w.heap.size ≤ W.heap.size; omega) _).setCell (by show w.heap.size ≤ W.heap.size; omega) _).setCell (by show w.heap.size ≤ W.heap.size; omega) _).setCell (by show w.heap.size ≤ W.heap.size; omega) _, (((HRB.out.setOtherCell (by show w.heap.size + 1 ≠ W.heap.size; omega) _).setOtherCell (by show w.heap.size + 1 ≠ W.heap.size; omega) _).setOtherCell (by show w.heap.size + 1 ≠ W.heap.size; omega) _).setOtherCell (by show w.heap.size + 1 ≠ W.heap.size; omega) _⟩
                case measure => simp [intOf]
            case' kb11 =>
              rw [if_pos (by kernel_rfl)]
              go_simp
              have HBA := hide (show Below V.heap.size V (V.alloc (.cells #[.int .i64 0, .string ⟨#[]⟩, .int .i64 0, .slice none 0 0] ( /- t -/ 40))).drew from (alloc_below V _).drew)
              have HSL := hide (HSL0.out.still (Still.of_below HBA.out))
              have HZ10 := hide ((Box4.now V (.int .i64 0) (.string ⟨#[]⟩) (.int .i64 0) (.slice none 0 0) ( /- t -/ 40)).drew)
              have HB9A := hide (HB9.out.below HBA.out)
              refine hK.out _ _ ?_ (fun hHeld => ?_)
              · exact HB9A.out
              clear hK K
              (try simp only [Act.put]); (try simp only [List.setIfInBounds_toArray]); (try simp only [List.set_cons_zero]); (try simp only [List.set_cons_succ])
              refine wpAnyH_ready (rs := [2]) (by kernel_rfl) (by simp) (AllReadyH.cons rfl (fun K hK => ?_) AllReadyH.nil)
              rw [if_pos (by kernel_rfl)]
              go_simp
              (go_at_call 29; (with_reducible refine (HRO.out _).mono ?_); rintro e wF ⟨rfl, rfl⟩)
              refine hK.out _ _ ?_ (fun hHeld => ?_)
              · exact HB9A.out
              clear hK K
              (try simp only [Act.put]); (try simp only [List.setIfInBounds_toArray]); (try simp only [List.set_cons_zero]); (try simp only [List.set_cons_succ])
              refine wpAnyH_ready (rs := [3]) (by kernel_rfl) (by simp) (AllReadyH.cons rfl (fun K hK => ?_) AllReadyH.nil)
              rw [if_pos (by kernel_rfl)]
              go_simp
              go_at_call 28
              refine (HCT.out _ HSL.out).mono ?_
              rintro e wC ⟨u1, b1, rfl, how, hge, hnd, hbC⟩
              obtain ⟨ua, uc, rfl⟩ := how.val
              have HOW := hide how
              have HGE := hide hge
              have HBC := hide hbC
              clear how hge hnd hbC
              have HB9C := hide (HB9A.out.below HBC.out)
              have HZ10 := hide (HZ10.out.below HBC.out)
              obtain ⟨h0, h1, h2, h3⟩ := HZ10.out.cells
              have hf10 := HZ10.out.frozen
              have hl10 := HZ10.out.lt
              refine hK.out _ _ ?_ (fun hHeld => ?_)
              · exact HB9C.out
              clear hK K
              (try simp only [Act.put]); (try simp only [List.setIfInBounds_toArray]); (try simp only [List.set_cons_zero]); (try simp only [List.set_cons_succ])
              have HB9S := hide (fun (v0 v1 v2 v3 : Value) => (show Box4 (set4 wC V.heap.size 0 v0 v1 v2 v3) wr.heap.size (.int .i64 g1.k) (.string g1.fr) (.int .i64 g1.ix) (.slice t1 g1.kids.len k1) from HB9C.out.same (set4_other _ _ _ _ _ _ _ _ (by have := HVS.out; omega))))
              refine wpAnyH_take (i := 4) (v := ?v4b11) rfl (by kernel_rfl) (by kernel_rfl) (by kernel_rfl) (fun _ _ _ h => h) (Or.inl ⟨by kernel_rfl, ?hy4b11⟩) (by assumption) ?rest4b11
              case hy4b11 => ((intro wS hSw); (obtain ⟨y0, y1, y2, y3⟩ := Box4.cells hSw); (go_simp); (try with_reducible rfl))
              change wpAnyH _ _ _ _ _ _ _ (Act.put _ (some 66) _) _
              (try simp only [Act.put]); (try simp only [List.setIfInBounds_toArray]); (try simp only [List.set_cons_zero]); (try simp only [List.set_cons_succ])
              refine wpAnyH_take (i := 5) (v := ?v5b11) rfl (by kernel_rfl) (by kernel_rfl) (by kernel_rfl) (fun _ _ _ h => h) (Or.inl ⟨by kernel_rfl, ?hy5b11⟩) (by assumption) ?rest5b11
              case hy5b11 => ((intro wS hSw); (obtain ⟨y0, y1, y2, y3⟩ := Box4.cells hSw); (go_simp); (try with_reducible rfl))
              change wpAnyH _ _ _ _ _ _ _ (Act.put _ (some 71) _) _
              (try simp only [Act.put]); (try simp only [List.setIfInBounds_toArray]); (try simp only [List.set_cons_zero]); (try simp only [List.set_cons_succ])
              refine wpAnyH_take (i := 6) (v := ?v6b11) rfl (by kernel_rfl) (by kernel_rfl) (by kernel_rfl) (fun _ _ _ h => h) (Or.inl ⟨by kernel_rfl, ?hy6b11⟩) (by assumption) ?rest6b11
              case hy6b11 => ((intro wS hSw); (obtain ⟨y0, y1, y2, y3⟩ := Box4.cells hSw); (go_simp); (try with_reducible rfl))
              change wpAnyH _ _ _ _ _ _ _ (Act.put _ (some 72) _) _
              (try simp only [Act.put]); (try simp only [List.setIfInBounds_toArray]); (try simp only [List.set_cons_zero]); (try simp only [List.set_cons_succ])
              refine wpAnyH_ready (rs := [8]) (by kernel_rfl) (by simp) (AllReadyH.cons rfl (fun K hK => ?_) AllReadyH.nil)
              rw [if_pos (by kernel_rfl)]
              go_simp
              refine hK.out _ _ ?_ (fun hHeld => ?_)
              · exact HB9S.out _ _ _ _
              clear hK K
              (try simp only [Act.put]); (try simp only [List.setIfInBounds_toArray]); (try simp only [List.set_cons_zero]); (try simp only [List.set_cons_succ])
              refine wpAnyH_take (i := 9) (v := ?v9b11) rfl (by kernel_rfl) (by kernel_rfl) (by kernel_rfl) (fun _ _ _ h => h) (Or.inl ⟨by kernel_rfl, ?hy9b11⟩) (by assumption) ?rest9b11
              case hy9b11 => ((intro wS hSw); (obtain ⟨y0, y1, y2, y3⟩ := Box4.cells hSw); (go_simp); (try with_reducible rfl))
              change wpAnyH _ _ _ _ _ _ _ (Act.put _ (some 11) _) _
              (try simp only [Act.put]); (try simp only [List.setIfInBounds_toArray]); (try simp only [List.set_cons_zero]); (try simp only [List.set_cons_succ])
              refine wpAnyH_done (by kernel_rfl) ?_ _
              have hge2 : V.heap.size ≤ V.heap.size := Nat.le_refl _
              have HBF := hide (set4_below (HBA.out.trans (HBC.out.mono HBA.out.size)) V.heap.size 0 (Nat.le_refl _) (.int .i64 R.k) (.string R.fr) (.int .i64 R.ix) (.slice ua R.kids.len uc))
              have HBX := hide (HZ10.out.setAll (.int .i64 R.k) (.string R.fr) (.int .i64 R.ix) (.slice ua R.kids.len uc))
              have HOX := hide (HOW.out.same (show Same wC (set4 wC V.heap.size 0 (.int .i64 R.k) (.string R.fr) (.int .i64 R.ix) (.slice ua R.kids.len uc)) b1 from fun x hx => set4_other _ _ _ _ _ _ _ _ (by have := HGE.out x hx; simp at this; omega)))
              change Exit.then _ _ _ _ (set4 wC V.heap.size 0 (.int .i64 R.k) (.string R.fr) (.int .i64 R.ix) (.slice ua R.kids.len uc))
              change Hid (Box4 (set4 wC V.heap.size 0 (.int .i64 R.k) (.string R.fr) (.int .i64 R.ix) (.slice ua R.kids.len uc)) _ _ _ _ _) at HBX
              generalize set4 wC V.heap.size 0 (.int .i64 R.k) (.string R.fr) (.int .i64 R.ix) (.slice ua R.kids.len uc) = X at *
              obtain ⟨B10, hB10⟩ : ∃ B10, B10 = V.heap.size := ⟨_, rfl⟩
              rw [← hB10] at HBX hge2 ⊢
              clear hB10
              have HGN := hide (fun x (hx : x ∈ b1) => (show V.heap.size ≤ x by have := HGE.out x hx; simp at this; omega))
              have HBX2 := hide (HVB.out.trans (HBF.out.mono HVB.out.size))
              have HRB := hide (HRB.out.below HBX2.out)
              have HBL3 := HBL
              have HBL := hide (HBL.out.trans (HBX2.out.mono HBL.out.size))
              have HBLK2 := hide (HBLK.out.below HBX2.out)
              obtain ⟨e0, e1, e2, e3⟩ := HBX.out.cells
              have f0 := HBLK2.out.cell 16
              have f1 := HBLK2.out.cell 17
              have f2 := HBLK2.out.cell 18
              have f3 := HBLK2.out.cell 19
              simp only [List.getElem?_toArray, List.getElem?_cons_succ, List.getElem?_cons_zero] at f0 f1 f2 f3
              have ff := HBLK2.out.frozen
              have fl := HBLK2.out.lt
              have el := HBX.out.lt
              go_wp2_with fail
              go_roundw
              case rel =>
                have hR := HR.out
                subst hR
                have hsame : ∀ bs : List Nat, (∀ x, x ∈ bs → x ≠ W.heap.size) → Same X (((( X.setCell ⟨W.heap.size, 16, none⟩ (.int .i64 (unf ⟨g1.k, g1.fr, g1.ix, g1.kids⟩).k)).setCell ⟨W.heap.size, 17, none⟩ (.string (unf ⟨g1.k, g1.fr, g1.ix, g1.kids⟩).fr)).setCell ⟨W.heap.size, 18, none⟩ (.int .i64 (unf ⟨g1.k, g1.fr, g1.ix, g1.kids⟩).ix)).setCell ⟨W.heap.size, 19, none⟩ (.slice ua (unf ⟨g1.k, g1.fr, g1.ix, g1.kids⟩).kids.len uc)) bs := fun bs hb => by
                  repeat (refine Same.setCell ?_ (fun x hx => by have := hb x hx; simpa using this) _)
                  exact Same.refl _ _
                exact ⟨2, by omega, rfl, ⟨u0, b0, _, b1, (((HBLK2.out.set 16 _).set 17 _).set 18 _).set 19 _, ⟨(hso0.same (Same.of_below HBX2.out hso0.lt)).same (hsame _ (fun x hx => (hsn0 x hx).1)), hsn0⟩, ⟨HOX.out.same (hsame _ (fun x hx => by have := HGN.out x hx; have := HBLK.out.lt; have := HVS.out; omega)), fun x hx => ⟨by have := HGN.out x hx; have := HBLK.out.lt; have := HVS.out; omega, by have := HGN.out x hx; have := hrbl; have := HVS.out; omega⟩⟩, hc0, hcu⟩, (((HBL.out.setCell (by show w.heap.size ≤ W.heap.size; omega) _).setCell (by show w.heap.size ≤ W.heap.size; omega) _).setCell (by show w.heap.size ≤ W.heap.size; omega) _).setCell (by show w.heap.size ≤ W.heap.size; omega) _, (((HRB.out.setOtherCell (by show w.heap.size + 1 ≠ W.heap.size; omega) _).setOtherCell (by show w.heap.size + 1 ≠ W.heap.size; omega) _).setOtherCell (by show w.heap.size + 1 ≠ W.heap.size; omega) _).setOtherCell (by show w.heap.size + 1 ≠ W.heap.size; omega) _⟩
              case measure => simp [intOf]
        | 2, _, hiv, HCUR =>
          obtain rfl : _ = Value.int .i64 (2 : Int) := hiv
          obtain ⟨u0, b0, u1, b1, hblk, ⟨hso0, hsn0⟩, ⟨hso1, hsn1⟩, hc0, hc1⟩ := HCUR.out
          have HBLK := hide hblk
          have hix2 : ∀ W : World, (Instr.index ( /- t -/ 41) (.agg #[.int .i64 g0.k, .string g0.fr, .int .i64 g0.ix, .slice t0 g0.kids.len k0, .int .i64 g1.k, .string g1.fr, .int .i64 g1.ix, .slice t1 g1.kids.len k1, .int .i64 g2.k, .string g2.fr, .int .i64 g2.ix, .slice t2 g2.kids.len k2]) (.int .i64 2)).run Tryz.prog W = .ok (.agg #[.int .i64 g2.k, .string g2.fr, .int .i64 g2.ix, .slice t2 g2.kids.len k2]) W := fun W => by kernel_rfl
          clear hblk
          go_wp2_with fail
          obtain ⟨V, hV⟩ : ∃ V, V = wr.alloc (.cells #[.int .i64 g2.k, .string g2.fr, .int .i64 g2.ix, .slice t2 g2.kids.len k2] ( /- t -/ 40)) := ⟨_, rfl⟩
          have HB9 := hide (show Box4 V wr.heap.size (.int .i64 g2.k) (.string g2.fr) (.int .i64 g2.ix) (.slice t2 g2.kids.len k2) by rw [hV]; exact Box4.now wr _ _ _ _ _)
          have HVB := hide (show Below wr.heap.size wr V by rw [hV]; exact alloc_below _ _)
          have HVS := hide (show V.heap.size = wr.heap.size + 1 by rw [hV]; simp)
          have HSL0 := hide ((HC0.out.l2.still (Still.of_below HBL.out)).still (Still.of_below HVB.out))
          have HSL := hide (HSL0.out.still (still_drew V))
          rw [← hV]
          clear hV hix2
          have HRO := hide (fun (W : World) => (show Calls Tryz.prog 29 #[.int .i64 2] W (fun e w' => e = .returned (.string ⟨#[67]⟩) ∧ W = w') from implLett2 W))
          cases hcu : cuB g2 67 with
          | false =>
            obtain ⟨R, hR⟩ : ∃ R, R = curR ⟨g2.k, g2.fr, g2.ix, g2.kids⟩ 67 := ⟨_, rfl⟩
            have HCT := hide (fun (W : World) (hs : Sl W (.slice t2 g2.kids.len k2) g2.kids) => (show Calls Tryz.prog 28 #[.agg #[.int .i64 g2.k, .string g2.fr, .int .i64 g2.ix, .slice t2 g2.kids.len k2], .string ⟨#[67]⟩] W (MadeR R false W) by have := implCur W ⟨g2.k, g2.fr, g2.ix, g2.kids⟩ (.slice t2 g2.kids.len k2) 67 hs; rw [← hR, show curOk ⟨g2.k, g2.fr, g2.ix, g2.kids⟩ 67 = false from hcu] at this; exact this))
            have HNO := hide (show okc = false by rw [HLS.out, hcu]; simp)
            clear hR hcu
            refine wp_region_held_drew (S := (fun w' => Box4 w' wr.heap.size (.int .i64 g2.k) (.string g2.fr) (.int .i64 g2.ix) (.slice t2 g2.kids.len k2))) (by kernel_rfl) ?_ (fun hHeld => ?_)
            · exact HB9.out.drew
            refine wpAnyH_take (i := 0) (v := ?v0p20) rfl (by kernel_rfl) (by kernel_rfl) (by kernel_rfl) (fun _ _ _ h => h) (Or.inl ⟨by kernel_rfl, ?hy0p20⟩) (by assumption) ?rest0p20
            case hy0p20 => ((intro wS hSw); (obtain ⟨y0, y1, y2, y3⟩ := Box4.cells hSw); (go_simp); (try with_reducible rfl))
            change wpAnyH _ _ _ _ _ _ _ (Act.put _ (some 67) _) _
            (try simp only [Act.put]); (try simp only [List.setIfInBounds_toArray]); (try simp only [List.set_cons_zero]); (try simp only [List.set_cons_succ])
            refine wpAnyH_take (i := 1) (v := ?v1p20) rfl (by kernel_rfl) (by kernel_rfl) (by kernel_rfl) (fun _ _ _ h => h) (Or.inl ⟨by kernel_rfl, ?hy1p20⟩) (by assumption) ?rest1p20
            case hy1p20 => ((intro wS hSw); (obtain ⟨y0, y1, y2, y3⟩ := Box4.cells hSw); (go_simp); (try with_reducible rfl))
            change wpAnyH _ _ _ _ _ _ _ (Act.put _ (some 68) _) _
            (try simp only [Act.put]); (try simp only [List.setIfInBounds_toArray]); (try simp only [List.set_cons_zero]); (try simp only [List.set_cons_succ])
            refine wpAnyH_ready (rs := [2, 7]) (by kernel_rfl) (by simp) (AllReadyH.cons rfl (fun K hK => ?ka20) (AllReadyH.cons rfl (fun K hK => ?kb20) AllReadyH.nil))
            case' ka20 =>
              rw [if_pos (by kernel_rfl)]
              go_simp
              (go_at_call 29; (with_reducible refine (HRO.out _).mono ?_); rintro e wF ⟨rfl, rfl⟩)
              refine hK.out _ _ ?_ (fun hHeld => ?_)
              · exact HB9.out.drew
              clear hK K
              (try simp only [Act.put]); (try simp only [List.setIfInBounds_toArray]); (try simp only [List.set_cons_zero]); (try simp only [List.set_cons_succ])
              refine wpAnyH_ready (rs := [3, 7]) (by kernel_rfl) (by simp) (AllReadyH.cons rfl (fun K hK => ?kc20) (AllReadyH.cons rfl (fun K hK => ?kd20) AllReadyH.nil))
              case' kc20 =>
                rw [if_pos (by kernel_rfl)]
                go_simp
                go_at_call 28
                refine (HCT.out _ HSL.out).mono ?_
                rintro e wC ⟨u2, b2, rfl, how, hge, hnd, hbC⟩
                obtain ⟨ua, uc, rfl⟩ := how.val
                have HOW := hide how
                have HGE := hide hge
                have HBC := hide hbC
                clear how hge hnd hbC
                refine hK.out _ _ ?_ (fun hHeld => ?_)
                · exact HB9.out.drew.below HBC.out
                clear hK K
                (try simp only [Act.put]); (try simp only [List.setIfInBounds_toArray]); (try simp only [List.set_cons_zero]); (try simp only [List.set_cons_succ])
                have HB9C := hide (HB9.out.drew.below HBC.out)
                refine wpAnyH_take (i := 4) (v := ?v4c20) rfl (by kernel_rfl) (by kernel_rfl) (by kernel_rfl) (fun _ _ _ h => h) (Or.inl ⟨by kernel_rfl, ?hy4c20⟩) (by assumption) ?rest4c20
                case hy4c20 => ((intro wS hSw); (obtain ⟨y0, y1, y2, y3⟩ := Box4.cells hSw); (go_simp); (try with_reducible rfl))
                change wpAnyH _ _ _ _ _ _ _ (Act.put _ (some 66) _) _
                (try simp only [Act.put]); (try simp only [List.setIfInBounds_toArray]); (try simp only [List.set_cons_zero]); (try simp only [List.set_cons_succ])
                refine wpAnyH_take (i := 5) (v := ?v5c20) rfl (by kernel_rfl) (by kernel_rfl) (by kernel_rfl) (fun _ _ _ h => h) (Or.inl ⟨by kernel_rfl, ?hy5c20⟩) (by assumption) ?rest5c20
                case hy5c20 => ((intro wS hSw); (obtain ⟨y0, y1, y2, y3⟩ := Box4.cells hSw); (go_simp); (try with_reducible rfl))
                change wpAnyH _ _ _ _ _ _ _ (Act.put _ (some 71) _) _
                (try simp only [Act.put]); (try simp only [List.setIfInBounds_toArray]); (try simp only [List.set_cons_zero]); (try simp only [List.set_cons_succ])
                refine wpAnyH_take (i := 6) (v := ?v6c20) rfl (by kernel_rfl) (by kernel_rfl) (by kernel_rfl) (fun _ _ _ h => h) (Or.inl ⟨by kernel_rfl, ?hy6c20⟩) (by assumption) ?rest6c20
                case hy6c20 => ((intro wS hSw); (obtain ⟨y0, y1, y2, y3⟩ := Box4.cells hSw); (go_simp); (try with_reducible rfl))
                change wpAnyH _ _ _ _ _ _ _ (Act.put _ (some 72) _) _
                (try simp only [Act.put]); (try simp only [List.setIfInBounds_toArray]); (try simp only [List.set_cons_zero]); (try simp only [List.set_cons_succ])
                refine wpAnyH_ready (rs := [7]) (by kernel_rfl) (by simp) (AllReadyH.cons rfl (fun K hK => ?_) AllReadyH.nil)
                rw [if_pos (by kernel_rfl)]
                go_simp
                refine hK.out _ _ ?_ (fun hHeld => ?_)
                · exact (Box4.below (HB9C.out) (alloc_below _ _))
                clear hK K
                (try simp only [Act.put]); (try simp only [List.setIfInBounds_toArray]); (try simp only [List.set_cons_zero]); (try simp only [List.set_cons_succ])
                refine wpAnyH_ready (rs := [8]) (by kernel_rfl) (by simp) (AllReadyH.cons rfl (fun K hK => ?_) AllReadyH.nil)
                rw [if_pos (by kernel_rfl)]
                go_simp
                refine hK.out _ _ ?_ (fun hHeld => ?_)
                · exact (Box4.below (HB9C.out) (alloc_below _ _))
                clear hK K
                (try simp only [Act.put]); (try simp only [List.setIfInBounds_toArray]); (try simp only [List.set_cons_zero]); (try simp only [List.set_cons_succ])
                refine wpAnyH_take (i := 9) (v := ?v9c20) rfl (by kernel_rfl) (by kernel_rfl) (by kernel_rfl) (fun _ _ _ h => h) (Or.inl ⟨by kernel_rfl, ?hy9c20⟩) (by assumption) ?rest9c20
                case hy9c20 => ((intro wS hSw); (obtain ⟨y0, y1, y2, y3⟩ := Box4.cells hSw); (go_simp); (try with_reducible rfl))
                change wpAnyH _ _ _ _ _ _ _ (Act.put _ (some 11) _) _
                (try simp only [Act.put]); (try simp only [List.setIfInBounds_toArray]); (try simp only [List.set_cons_zero]); (try simp only [List.set_cons_succ])
                refine wpAnyH_done (by kernel_rfl) ?_ _
                have HBF := hide ((show Below V.heap.size V V.drew from (Below.refl _ _).drew).trans (HBC.out.trans ((alloc_below wC (.cells #[.int .i64 R.k, .string R.fr, .int .i64 R.ix, .slice ua R.kids.len uc] ( /- t -/ 40))).mono (HBC.out.size))))
                have HBX := hide (Box4.now wC (.int .i64 R.k) (.string R.fr) (.int .i64 R.ix) (.slice ua R.kids.len uc) ( /- t -/ 40))
                have HOX := hide (HOW.out.same (Same.of_below (alloc_below wC (.cells #[.int .i64 R.k, .string R.fr, .int .i64 R.ix, .slice ua R.kids.len uc] ( /- t -/ 40))) HOW.out.lt))
                have hge2 : V.heap.size ≤ wC.heap.size := HBC.out.size
                generalize wC.alloc (.cells #[.int .i64 R.k, .string R.fr, .int .i64 R.ix, .slice ua R.kids.len uc] ( /- t -/ 40)) = X at *
                have HGN := hide (fun x (hx : x ∈ b2) => (show V.heap.size ≤ x by have := HGE.out x hx; simpa using this))
                generalize wC.heap.size = B10 at *
                have HBX2 := hide (HVB.out.trans (HBF.out.mono HVB.out.size))
                have HRB := hide (HRB.out.below HBX2.out)
                have HBL3 := HBL
                have HBL := hide (HBL.out.trans (HBX2.out.mono HBL.out.size))
                go_wp2_with (first | (refine wpList_store_blk (b := w.heap.size + 1) (c := #[.int .i64 0, .string ⟨#[]⟩, .int .i64 0, .slice none 0 0, .int .i64 0, .string ⟨#[]⟩, .int .i64 0, .slice none 0 0, .int .i64 0, .string ⟨#[]⟩, .int .i64 0, .slice none 0 0, .int .i64 0, .string ⟨#[]⟩, .int .i64 0, .slice none 0 0, .int .i64 0, .string ⟨#[]⟩, .int .i64 0, .slice none 0 0, .int .i64 0, .string ⟨#[]⟩, .int .i64 0, .slice none 0 0, .string ⟨#[]⟩, .string ⟨#[]⟩, .string ⟨#[]⟩, .string ⟨#[]⟩, .string ⟨#[]⟩, .string ⟨#[]⟩, .string ⟨#[]⟩, .string ⟨#[]⟩, .string ⟨#[]⟩]) (c' := #[.int .i64 0, .string ⟨#[]⟩, .int .i64 0, .slice none 0 0, .int .i64 0, .string ⟨#[]⟩, .int .i64 0, .slice none 0 0, .int .i64 0, .string ⟨#[]⟩, .int .i64 0, .slice none 0 0, .int .i64 0, .string ⟨#[]⟩, .int .i64 0, .slice none 0 0, .int .i64 0, .string ⟨#[]⟩, .int .i64 0, .slice none 0 0, .int .i64 0, .string ⟨#[]⟩, .int .i64 0, .slice none 0 0, .string ⟨#[]⟩, .string ⟨#[]⟩, .string ⟨#[]⟩, .string ⟨#[]⟩, .string ⟨#[]⟩, .string ⟨#[]⟩, .string ⟨#[]⟩, .string ⟨#[]⟩, .string ⟨#[]⟩]) rfl rfl HRB.out rfl rfl (by kernel_rfl) rfl (by kernel_rfl) ?_) | fail)
                refine bodyPost_ret (v := .tuple #[.agg #[.int .i64 0, .string ⟨#[]⟩, .int .i64 0, .slice none 0 0, .int .i64 0, .string ⟨#[]⟩, .int .i64 0, .slice none 0 0, .int .i64 0, .string ⟨#[]⟩, .int .i64 0, .slice none 0 0, .int .i64 0, .string ⟨#[]⟩, .int .i64 0, .slice none 0 0, .int .i64 0, .string ⟨#[]⟩, .int .i64 0, .slice none 0 0, .int .i64 0, .string ⟨#[]⟩, .int .i64 0, .slice none 0 0, .string ⟨#[]⟩, .string ⟨#[]⟩, .string ⟨#[]⟩, .string ⟨#[]⟩, .string ⟨#[]⟩, .string ⟨#[]⟩, .string ⟨#[]⟩, .string ⟨#[]⟩, .string ⟨#[]⟩], .bool false]) (results_blk Tryz.results15 rfl (HRB.out.setRow #[.int .i64 0, .string ⟨#[]⟩, .int .i64 0, .slice none 0 0, .int .i64 0, .string ⟨#[]⟩, .int .i64 0, .slice none 0 0, .int .i64 0, .string ⟨#[]⟩, .int .i64 0, .slice none 0 0, .int .i64 0, .string ⟨#[]⟩, .int .i64 0, .slice none 0 0, .int .i64 0, .string ⟨#[]⟩, .int .i64 0, .slice none 0 0, .int .i64 0, .string ⟨#[]⟩, .int .i64 0, .slice none 0 0, .string ⟨#[]⟩, .string ⟨#[]⟩, .string ⟨#[]⟩, .string ⟨#[]⟩, .string ⟨#[]⟩, .string ⟨#[]⟩, .string ⟨#[]⟩, .string ⟨#[]⟩, .string ⟨#[]⟩]) Tryz.underlying44 rfl (by kernel_rfl)) rfl ?_
                exact ConfP.no HNO.out (below_setRow HBL.out (by omega) _)
              case' kd20 =>
                rw [if_pos (by kernel_rfl)]
                go_simp
                have HBA := hide (show Below V.heap.size V (V.alloc (.cells #[.int .i64 0, .string ⟨#[]⟩, .int .i64 0, .slice none 0 0] ( /- t -/ 40))).drew from (alloc_below V _).drew)
                have HSL := hide (HSL0.out.still (Still.of_below HBA.out))
                have HZ10 := hide ((Box4.now V (.int .i64 0) (.string ⟨#[]⟩) (.int .i64 0) (.slice none 0 0) ( /- t -/ 40)).drew)
                have HB9A := hide (HB9.out.below HBA.out)
                refine hK.out _ _ ?_ (fun hHeld => ?_)
                · exact HB9A.out
                clear hK K
                (try simp only [Act.put]); (try simp only [List.setIfInBounds_toArray]); (try simp only [List.set_cons_zero]); (try simp only [List.set_cons_succ])
                refine wpAnyH_ready (rs := [3]) (by kernel_rfl) (by simp) (AllReadyH.cons rfl (fun K hK => ?_) AllReadyH.nil)
                rw [if_pos (by kernel_rfl)]
                go_simp
                go_at_call 28
                refine (HCT.out _ HSL.out).mono ?_
                rintro e wC ⟨u2, b2, rfl, how, hge, hnd, hbC⟩
                obtain ⟨ua, uc, rfl⟩ := how.val
                have HOW := hide how
                have HGE := hide hge
                have HBC := hide hbC
                clear how hge hnd hbC
                have HB9C := hide (HB9A.out.below HBC.out)
                have HZ10 := hide (HZ10.out.below HBC.out)
                obtain ⟨h0, h1, h2, h3⟩ := HZ10.out.cells
                have hf10 := HZ10.out.frozen
                have hl10 := HZ10.out.lt
                refine hK.out _ _ ?_ (fun hHeld => ?_)
                · exact HB9C.out
                clear hK K
                (try simp only [Act.put]); (try simp only [List.setIfInBounds_toArray]); (try simp only [List.set_cons_zero]); (try simp only [List.set_cons_succ])
                have HB9S := hide (fun (v0 v1 v2 v3 : Value) => (show Box4 (set4 wC V.heap.size 0 v0 v1 v2 v3) wr.heap.size (.int .i64 g2.k) (.string g2.fr) (.int .i64 g2.ix) (.slice t2 g2.kids.len k2) from HB9C.out.same (set4_other _ _ _ _ _ _ _ _ (by have := HVS.out; omega))))
                refine wpAnyH_take (i := 4) (v := ?v4d20) rfl (by kernel_rfl) (by kernel_rfl) (by kernel_rfl) (fun _ _ _ h => h) (Or.inl ⟨by kernel_rfl, ?hy4d20⟩) (by assumption) ?rest4d20
                case hy4d20 => ((intro wS hSw); (obtain ⟨y0, y1, y2, y3⟩ := Box4.cells hSw); (go_simp); (try with_reducible rfl))
                change wpAnyH _ _ _ _ _ _ _ (Act.put _ (some 66) _) _
                (try simp only [Act.put]); (try simp only [List.setIfInBounds_toArray]); (try simp only [List.set_cons_zero]); (try simp only [List.set_cons_succ])
                refine wpAnyH_take (i := 5) (v := ?v5d20) rfl (by kernel_rfl) (by kernel_rfl) (by kernel_rfl) (fun _ _ _ h => h) (Or.inl ⟨by kernel_rfl, ?hy5d20⟩) (by assumption) ?rest5d20
                case hy5d20 => ((intro wS hSw); (obtain ⟨y0, y1, y2, y3⟩ := Box4.cells hSw); (go_simp); (try with_reducible rfl))
                change wpAnyH _ _ _ _ _ _ _ (Act.put _ (some 71) _) _
                (try simp only [Act.put]); (try simp only [List.setIfInBounds_toArray]); (try simp only [List.set_cons_zero]); (try simp only [List.set_cons_succ])
                refine wpAnyH_take (i := 6) (v := ?v6d20) rfl (by kernel_rfl) (by kernel_rfl) (by kernel_rfl) (fun _ _ _ h => h) (Or.inl ⟨by kernel_rfl, ?hy6d20⟩) (by assumption) ?rest6d20
                case hy6d20 => ((intro wS hSw); (obtain ⟨y0, y1, y2, y3⟩ := Box4.cells hSw); (go_simp); (try with_reducible rfl))
                change wpAnyH _ _ _ _ _ _ _ (Act.put _ (some 72) _) _
                (try simp only [Act.put]); (try simp only [List.setIfInBounds_toArray]); (try simp only [List.set_cons_zero]); (try simp only [List.set_cons_succ])
                refine wpAnyH_ready (rs := [8]) (by kernel_rfl) (by simp) (AllReadyH.cons rfl (fun K hK => ?_) AllReadyH.nil)
                rw [if_pos (by kernel_rfl)]
                go_simp
                refine hK.out _ _ ?_ (fun hHeld => ?_)
                · exact HB9S.out _ _ _ _
                clear hK K
                (try simp only [Act.put]); (try simp only [List.setIfInBounds_toArray]); (try simp only [List.set_cons_zero]); (try simp only [List.set_cons_succ])
                refine wpAnyH_take (i := 9) (v := ?v9d20) rfl (by kernel_rfl) (by kernel_rfl) (by kernel_rfl) (fun _ _ _ h => h) (Or.inl ⟨by kernel_rfl, ?hy9d20⟩) (by assumption) ?rest9d20
                case hy9d20 => ((intro wS hSw); (obtain ⟨y0, y1, y2, y3⟩ := Box4.cells hSw); (go_simp); (try with_reducible rfl))
                change wpAnyH _ _ _ _ _ _ _ (Act.put _ (some 11) _) _
                (try simp only [Act.put]); (try simp only [List.setIfInBounds_toArray]); (try simp only [List.set_cons_zero]); (try simp only [List.set_cons_succ])
                refine wpAnyH_done (by kernel_rfl) ?_ _
                have hge2 : V.heap.size ≤ V.heap.size := Nat.le_refl _
                have HBF := hide (set4_below (HBA.out.trans (HBC.out.mono HBA.out.size)) V.heap.size 0 (Nat.le_refl _) (.int .i64 R.k) (.string R.fr) (.int .i64 R.ix) (.slice ua R.kids.len uc))
                have HBX := hide (HZ10.out.setAll (.int .i64 R.k) (.string R.fr) (.int .i64 R.ix) (.slice ua R.kids.len uc))
                have HOX := hide (HOW.out.same (show Same wC (set4 wC V.heap.size 0 (.int .i64 R.k) (.string R.fr) (.int .i64 R.ix) (.slice ua R.kids.len uc)) b2 from fun x hx => set4_other _ _ _ _ _ _ _ _ (by have := HGE.out x hx; simp at this; omega)))
                change Exit.then _ _ _ _ (set4 wC V.heap.size 0 (.int .i64 R.k) (.string R.fr) (.int .i64 R.ix) (.slice ua R.kids.len uc))
                change Hid (Box4 (set4 wC V.heap.size 0 (.int .i64 R.k) (.string R.fr) (.int .i64 R.ix) (.slice ua R.kids.len uc)) _ _ _ _ _) at HBX
                generalize set4 wC V.heap.size 0 (.int .i64 R.k) (.string R.fr) (.int .i64 R.ix) (.slice ua R.kids.len uc) = X at *
                obtain ⟨B10, hB10⟩ : ∃ B10, B10 = V.heap.size := ⟨_, rfl⟩
                rw [← hB10] at HBX hge2 ⊢
                clear hB10
                have HGN := hide (fun x (hx : x ∈ b2) => (show V.heap.size ≤ x by have := HGE.out x hx; simp at this; omega))
                have HBX2 := hide (HVB.out.trans (HBF.out.mono HVB.out.size))
                have HRB := hide (HRB.out.below HBX2.out)
                have HBL3 := HBL
                have HBL := hide (HBL.out.trans (HBX2.out.mono HBL.out.size))
                go_wp2_with (first | (refine wpList_store_blk (b := w.heap.size + 1) (c := #[.int .i64 0, .string ⟨#[]⟩, .int .i64 0, .slice none 0 0, .int .i64 0, .string ⟨#[]⟩, .int .i64 0, .slice none 0 0, .int .i64 0, .string ⟨#[]⟩, .int .i64 0, .slice none 0 0, .int .i64 0, .string ⟨#[]⟩, .int .i64 0, .slice none 0 0, .int .i64 0, .string ⟨#[]⟩, .int .i64 0, .slice none 0 0, .int .i64 0, .string ⟨#[]⟩, .int .i64 0, .slice none 0 0, .string ⟨#[]⟩, .string ⟨#[]⟩, .string ⟨#[]⟩, .string ⟨#[]⟩, .string ⟨#[]⟩, .string ⟨#[]⟩, .string ⟨#[]⟩, .string ⟨#[]⟩, .string ⟨#[]⟩]) (c' := #[.int .i64 0, .string ⟨#[]⟩, .int .i64 0, .slice none 0 0, .int .i64 0, .string ⟨#[]⟩, .int .i64 0, .slice none 0 0, .int .i64 0, .string ⟨#[]⟩, .int .i64 0, .slice none 0 0, .int .i64 0, .string ⟨#[]⟩, .int .i64 0, .slice none 0 0, .int .i64 0, .string ⟨#[]⟩, .int .i64 0, .slice none 0 0, .int .i64 0, .string ⟨#[]⟩, .int .i64 0, .slice none 0 0, .string ⟨#[]⟩, .string ⟨#[]⟩, .string ⟨#[]⟩, .string ⟨#[]⟩, .string ⟨#[]⟩, .string ⟨#[]⟩, .string ⟨#[]⟩, .string ⟨#[]⟩, .string ⟨#[]⟩]) rfl rfl HRB.out rfl rfl (by kernel_rfl) rfl (by kernel_rfl) ?_) | fail)
                refine bodyPost_ret (v := .tuple #[.agg #[.int .i64 0, .string ⟨#[]⟩, .int .i64 0, .slice none 0 0, .int .i64 0, .string ⟨#[]⟩, .int .i64 0, .slice none 0 0, .int .i64 0, .string ⟨#[]⟩, .int .i64 0, .slice none 0 0, .int .i64 0, .string ⟨#[]⟩, .int .i64 0, .slice none 0 0, .int .i64 0, .string ⟨#[]⟩, .int .i64 0, .slice none 0 0, .int .i64 0, .string ⟨#[]⟩, .int .i64 0, .slice none 0 0, .string ⟨#[]⟩, .string ⟨#[]⟩, .string ⟨#[]⟩, .string ⟨#[]⟩, .string ⟨#[]⟩, .string ⟨#[]⟩, .string ⟨#[]⟩, .string ⟨#[]⟩, .string ⟨#[]⟩], .bool false]) (results_blk Tryz.results15 rfl (HRB.out.setRow #[.int .i64 0, .string ⟨#[]⟩, .int .i64 0, .slice none 0 0, .int .i64 0, .string ⟨#[]⟩, .int .i64 0, .slice none 0 0, .int .i64 0, .string ⟨#[]⟩, .int .i64 0, .slice none 0 0, .int .i64 0, .string ⟨#[]⟩, .int .i64 0, .slice none 0 0, .int .i64 0, .string ⟨#[]⟩, .int .i64 0, .slice none 0 0, .int .i64 0, .string ⟨#[]⟩, .int .i64 0, .slice none 0 0, .string ⟨#[]⟩, .string ⟨#[]⟩, .string ⟨#[]⟩, .string ⟨#[]⟩, .string ⟨#[]⟩, .string ⟨#[]⟩, .string ⟨#[]⟩, .string ⟨#[]⟩, .string ⟨#[]⟩]) Tryz.underlying44 rfl (by kernel_rfl)) rfl ?_
                exact ConfP.no HNO.out (below_setRow HBL.out (by omega) _)
            case' kb20 =>
              rw [if_pos (by kernel_rfl)]
              go_simp
              have HBA := hide (show Below V.heap.size V (V.alloc (.cells #[.int .i64 0, .string ⟨#[]⟩, .int .i64 0, .slice none 0 0] ( /- t -/ 40))).drew from (alloc_below V _).drew)
              have HSL := hide (HSL0.out.still (Still.of_below HBA.out))
              have HZ10 := hide ((Box4.now V (.int .i64 0) (.string ⟨#[]⟩) (.int .i64 0) (.slice none 0 0) ( /- t -/ 40)).drew)
              have HB9A := hide (HB9.out.below HBA.out)
              refine hK.out _ _ ?_ (fun hHeld => ?_)
              · exact HB9A.out
              clear hK K
              (try simp only [Act.put]); (try simp only [List.setIfInBounds_toArray]); (try simp only [List.set_cons_zero]); (try simp only [List.set_cons_succ])
              refine wpAnyH_ready (rs := [2]) (by kernel_rfl) (by simp) (AllReadyH.cons rfl (fun K hK => ?_) AllReadyH.nil)
              rw [if_pos (by kernel_rfl)]
              go_simp
              (go_at_call 29; (with_reducible refine (HRO.out _).mono ?_); rintro e wF ⟨rfl, rfl⟩)
              refine hK.out _ _ ?_ (fun hHeld => ?_)
              · exact HB9A.out
              clear hK K
              (try simp only [Act.put]); (try simp only [List.setIfInBounds_toArray]); (try simp only [List.set_cons_zero]); (try simp only [List.set_cons_succ])
              refine wpAnyH_ready (rs := [3]) (by kernel_rfl) (by simp) (AllReadyH.cons rfl (fun K hK => ?_) AllReadyH.nil)
              rw [if_pos (by kernel_rfl)]
              go_simp
              go_at_call 28
              refine (HCT.out _ HSL.out).mono ?_
              rintro e wC ⟨u2, b2, rfl, how, hge, hnd, hbC⟩
              obtain ⟨ua, uc, rfl⟩ := how.val
              have HOW := hide how
              have HGE := hide hge
              have HBC := hide hbC
              clear how hge hnd hbC
              have HB9C := hide (HB9A.out.below HBC.out)
              have HZ10 := hide (HZ10.out.below HBC.out)
              obtain ⟨h0, h1, h2, h3⟩ := HZ10.out.cells
              have hf10 := HZ10.out.frozen
              have hl10 := HZ10.out.lt
              refine hK.out _ _ ?_ (fun hHeld => ?_)
              · exact HB9C.out
              clear hK K
              (try simp only [Act.put]); (try simp only [List.setIfInBounds_toArray]); (try simp only [List.set_cons_zero]); (try simp only [List.set_cons_succ])
              have HB9S := hide (fun (v0 v1 v2 v3 : Value) => (show Box4 (set4 wC V.heap.size 0 v0 v1 v2 v3) wr.heap.size (.int .i64 g2.k) (.string g2.fr) (.int .i64 g2.ix) (.slice t2 g2.kids.len k2) from HB9C.out.same (set4_other _ _ _ _ _ _ _ _ (by have := HVS.out; omega))))
              refine wpAnyH_take (i := 4) (v := ?v4b20) rfl (by kernel_rfl) (by kernel_rfl) (by kernel_rfl) (fun _ _ _ h => h) (Or.inl ⟨by kernel_rfl, ?hy4b20⟩) (by assumption) ?rest4b20
              case hy4b20 => ((intro wS hSw); (obtain ⟨y0, y1, y2, y3⟩ := Box4.cells hSw); (go_simp); (try with_reducible rfl))
              change wpAnyH _ _ _ _ _ _ _ (Act.put _ (some 66) _) _
              (try simp only [Act.put]); (try simp only [List.setIfInBounds_toArray]); (try simp only [List.set_cons_zero]); (try simp only [List.set_cons_succ])
              refine wpAnyH_take (i := 5) (v := ?v5b20) rfl (by kernel_rfl) (by kernel_rfl) (by kernel_rfl) (fun _ _ _ h => h) (Or.inl ⟨by kernel_rfl, ?hy5b20⟩) (by assumption) ?rest5b20
              case hy5b20 => ((intro wS hSw); (obtain ⟨y0, y1, y2, y3⟩ := Box4.cells hSw); (go_simp); (try with_reducible rfl))
              change wpAnyH _ _ _ _ _ _ _ (Act.put _ (some 71) _) _
              (try simp only [Act.put]); (try simp only [List.setIfInBounds_toArray]); (try simp only [List.set_cons_zero]); (try simp only [List.set_cons_succ])
              refine wpAnyH_take (i := 6) (v := ?v6b20) rfl (by kernel_rfl) (by kernel_rfl) (by kernel_rfl) (fun _ _ _ h => h) (Or.inl ⟨by kernel_rfl, ?hy6b20⟩) (by assumption) ?rest6b20
              case hy6b20 => ((intro wS hSw); (obtain ⟨y0, y1, y2, y3⟩ := Box4.cells hSw); (go_simp); (try with_reducible rfl))
              change wpAnyH _ _ _ _ _ _ _ (Act.put _ (some 72) _) _
              (try simp only [Act.put]); (try simp only [List.setIfInBounds_toArray]); (try simp only [List.set_cons_zero]); (try simp only [List.set_cons_succ])
              refine wpAnyH_ready (rs := [8]) (by kernel_rfl) (by simp) (AllReadyH.cons rfl (fun K hK => ?_) AllReadyH.nil)
              rw [if_pos (by kernel_rfl)]
              go_simp
              refine hK.out _ _ ?_ (fun hHeld => ?_)
              · exact HB9S.out _ _ _ _
              clear hK K
              (try simp only [Act.put]); (try simp only [List.setIfInBounds_toArray]); (try simp only [List.set_cons_zero]); (try simp only [List.set_cons_succ])
              refine wpAnyH_take (i := 9) (v := ?v9b20) rfl (by kernel_rfl) (by kernel_rfl) (by kernel_rfl) (fun _ _ _ h => h) (Or.inl ⟨by kernel_rfl, ?hy9b20⟩) (by assumption) ?rest9b20
              case hy9b20 => ((intro wS hSw); (obtain ⟨y0, y1, y2, y3⟩ := Box4.cells hSw); (go_simp); (try with_reducible rfl))
              change wpAnyH _ _ _ _ _ _ _ (Act.put _ (some 11) _) _
              (try simp only [Act.put]); (try simp only [List.setIfInBounds_toArray]); (try simp only [List.set_cons_zero]); (try simp only [List.set_cons_succ])
              refine wpAnyH_done (by kernel_rfl) ?_ _
              have hge2 : V.heap.size ≤ V.heap.size := Nat.le_refl _
              have HBF := hide (set4_below (HBA.out.trans (HBC.out.mono HBA.out.size)) V.heap.size 0 (Nat.le_refl _) (.int .i64 R.k) (.string R.fr) (.int .i64 R.ix) (.slice ua R.kids.len uc))
              have HBX := hide (HZ10.out.setAll (.int .i64 R.k) (.string R.fr) (.int .i64 R.ix) (.slice ua R.kids.len uc))
              have HOX := hide (HOW.out.same (show Same wC (set4 wC V.heap.size 0 (.int .i64 R.k) (.string R.fr) (.int .i64 R.ix) (.slice ua R.kids.len uc)) b2 from fun x hx => set4_other _ _ _ _ _ _ _ _ (by have := HGE.out x hx; simp at this; omega)))
              change Exit.then _ _ _ _ (set4 wC V.heap.size 0 (.int .i64 R.k) (.string R.fr) (.int .i64 R.ix) (.slice ua R.kids.len uc))
              change Hid (Box4 (set4 wC V.heap.size 0 (.int .i64 R.k) (.string R.fr) (.int .i64 R.ix) (.slice ua R.kids.len uc)) _ _ _ _ _) at HBX
              generalize set4 wC V.heap.size 0 (.int .i64 R.k) (.string R.fr) (.int .i64 R.ix) (.slice ua R.kids.len uc) = X at *
              obtain ⟨B10, hB10⟩ : ∃ B10, B10 = V.heap.size := ⟨_, rfl⟩
              rw [← hB10] at HBX hge2 ⊢
              clear hB10
              have HGN := hide (fun x (hx : x ∈ b2) => (show V.heap.size ≤ x by have := HGE.out x hx; simp at this; omega))
              have HBX2 := hide (HVB.out.trans (HBF.out.mono HVB.out.size))
              have HRB := hide (HRB.out.below HBX2.out)
              have HBL3 := HBL
              have HBL := hide (HBL.out.trans (HBX2.out.mono HBL.out.size))
              go_wp2_with (first | (refine wpList_store_blk (b := w.heap.size + 1) (c := #[.int .i64 0, .string ⟨#[]⟩, .int .i64 0, .slice none 0 0, .int .i64 0, .string ⟨#[]⟩, .int .i64 0, .slice none 0 0, .int .i64 0, .string ⟨#[]⟩, .int .i64 0, .slice none 0 0, .int .i64 0, .string ⟨#[]⟩, .int .i64 0, .slice none 0 0, .int .i64 0, .string ⟨#[]⟩, .int .i64 0, .slice none 0 0, .int .i64 0, .string ⟨#[]⟩, .int .i64 0, .slice none 0 0, .string ⟨#[]⟩, .string ⟨#[]⟩, .string ⟨#[]⟩, .string ⟨#[]⟩, .string ⟨#[]⟩, .string ⟨#[]⟩, .string ⟨#[]⟩, .string ⟨#[]⟩, .string ⟨#[]⟩]) (c' := #[.int .i64 0, .string ⟨#[]⟩, .int .i64 0, .slice none 0 0, .int .i64 0, .string ⟨#[]⟩, .int .i64 0, .slice none 0 0, .int .i64 0, .string ⟨#[]⟩, .int .i64 0, .slice none 0 0, .int .i64 0, .string ⟨#[]⟩, .int .i64 0, .slice none 0 0, .int .i64 0, .string ⟨#[]⟩, .int .i64 0, .slice none 0 0, .int .i64 0, .string ⟨#[]⟩, .int .i64 0, .slice none 0 0, .string ⟨#[]⟩, .string ⟨#[]⟩, .string ⟨#[]⟩, .string ⟨#[]⟩, .string ⟨#[]⟩, .string ⟨#[]⟩, .string ⟨#[]⟩, .string ⟨#[]⟩, .string ⟨#[]⟩]) rfl rfl HRB.out rfl rfl (by kernel_rfl) rfl (by kernel_rfl) ?_) | fail)
              refine bodyPost_ret (v := .tuple #[.agg #[.int .i64 0, .string ⟨#[]⟩, .int .i64 0, .slice none 0 0, .int .i64 0, .string ⟨#[]⟩, .int .i64 0, .slice none 0 0, .int .i64 0, .string ⟨#[]⟩, .int .i64 0, .slice none 0 0, .int .i64 0, .string ⟨#[]⟩, .int .i64 0, .slice none 0 0, .int .i64 0, .string ⟨#[]⟩, .int .i64 0, .slice none 0 0, .int .i64 0, .string ⟨#[]⟩, .int .i64 0, .slice none 0 0, .string ⟨#[]⟩, .string ⟨#[]⟩, .string ⟨#[]⟩, .string ⟨#[]⟩, .string ⟨#[]⟩, .string ⟨#[]⟩, .string ⟨#[]⟩, .string ⟨#[]⟩, .string ⟨#[]⟩], .bool false]) (results_blk Tryz.results15 rfl (HRB.out.setRow #[.int .i64 0, .string ⟨#[]⟩, .int .i64 0, .slice none 0 0, .int .i64 0, .string ⟨#[]⟩, .int .i64 0, .slice none 0 0, .int .i64 0, .string ⟨#[]⟩, .int .i64 0, .slice none 0 0, .int .i64 0, .string ⟨#[]⟩, .int .i64 0, .slice none 0 0, .int .i64 0, .string ⟨#[]⟩, .int .i64 0, .slice none 0 0, .int .i64 0, .string ⟨#[]⟩, .int .i64 0, .slice none 0 0, .string ⟨#[]⟩, .string ⟨#[]⟩, .string ⟨#[]⟩, .string ⟨#[]⟩, .string ⟨#[]⟩, .string ⟨#[]⟩, .string ⟨#[]⟩, .string ⟨#[]⟩, .string ⟨#[]⟩]) Tryz.underlying44 rfl (by kernel_rfl)) rfl ?_
              exact ConfP.no HNO.out (below_setRow HBL.out (by omega) _)
          | true =>
            obtain ⟨R, hR⟩ : ∃ R, R = unf ⟨g2.k, g2.fr, g2.ix, g2.kids⟩ := ⟨_, rfl⟩
            have HCT := hide (fun (W : World) (hs : Sl W (.slice t2 g2.kids.len k2) g2.kids) => (show Calls Tryz.prog 28 #[.agg #[.int .i64 g2.k, .string g2.fr, .int .i64 g2.ix, .slice t2 g2.kids.len k2], .string ⟨#[67]⟩] W (MadeR R true W) by have := implCur W ⟨g2.k, g2.fr, g2.ix, g2.kids⟩ (.slice t2 g2.kids.len k2) 67 hs; rw [show curR ⟨g2.k, g2.fr, g2.ix, g2.kids⟩ 67 = R by rw [hR]; unfold curR; rw [show curOk ⟨g2.k, g2.fr, g2.ix, g2.kids⟩ 67 = true from hcu]; rfl, show curOk ⟨g2.k, g2.fr, g2.ix, g2.kids⟩ 67 = true from hcu] at this; exact this))
            have HR := hide hR
            have hrbl := HRB.out.lt
            clear hR
            refine wp_region_held_drew (S := (fun w' => Box4 w' wr.heap.size (.int .i64 g2.k) (.string g2.fr) (.int .i64 g2.ix) (.slice t2 g2.kids.len k2))) (by kernel_rfl) ?_ (fun hHeld => ?_)
            · exact HB9.out.drew
            refine wpAnyH_take (i := 0) (v := ?v0p21) rfl (by kernel_rfl) (by kernel_rfl) (by kernel_rfl) (fun _ _ _ h => h) (Or.inl ⟨by kernel_rfl, ?hy0p21⟩) (by assumption) ?rest0p21
            case hy0p21 => ((intro wS hSw); (obtain ⟨y0, y1, y2, y3⟩ := Box4.cells hSw); (go_simp); (try with_reducible rfl))
            change wpAnyH _ _ _ _ _ _ _ (Act.put _ (some 67) _) _
            (try simp only [Act.put]); (try simp only [List.setIfInBounds_toArray]); (try simp only [List.set_cons_zero]); (try simp only [List.set_cons_succ])
            refine wpAnyH_take (i := 1) (v := ?v1p21) rfl (by kernel_rfl) (by kernel_rfl) (by kernel_rfl) (fun _ _ _ h => h) (Or.inl ⟨by kernel_rfl, ?hy1p21⟩) (by assumption) ?rest1p21
            case hy1p21 => ((intro wS hSw); (obtain ⟨y0, y1, y2, y3⟩ := Box4.cells hSw); (go_simp); (try with_reducible rfl))
            change wpAnyH _ _ _ _ _ _ _ (Act.put _ (some 68) _) _
            (try simp only [Act.put]); (try simp only [List.setIfInBounds_toArray]); (try simp only [List.set_cons_zero]); (try simp only [List.set_cons_succ])
            refine wpAnyH_ready (rs := [2, 7]) (by kernel_rfl) (by simp) (AllReadyH.cons rfl (fun K hK => ?ka21) (AllReadyH.cons rfl (fun K hK => ?kb21) AllReadyH.nil))
            case' ka21 =>
              rw [if_pos (by kernel_rfl)]
              go_simp
              (go_at_call 29; (with_reducible refine (HRO.out _).mono ?_); rintro e wF ⟨rfl, rfl⟩)
              refine hK.out _ _ ?_ (fun hHeld => ?_)
              · exact HB9.out.drew
              clear hK K
              (try simp only [Act.put]); (try simp only [List.setIfInBounds_toArray]); (try simp only [List.set_cons_zero]); (try simp only [List.set_cons_succ])
              refine wpAnyH_ready (rs := [3, 7]) (by kernel_rfl) (by simp) (AllReadyH.cons rfl (fun K hK => ?kc21) (AllReadyH.cons rfl (fun K hK => ?kd21) AllReadyH.nil))
              case' kc21 =>
                rw [if_pos (by kernel_rfl)]
                go_simp
                go_at_call 28
                refine (HCT.out _ HSL.out).mono ?_
                rintro e wC ⟨u2, b2, rfl, how, hge, hnd, hbC⟩
                obtain ⟨ua, uc, rfl⟩ := how.val
                have HOW := hide how
                have HGE := hide hge
                have HBC := hide hbC
                clear how hge hnd hbC
                refine hK.out _ _ ?_ (fun hHeld => ?_)
                · exact HB9.out.drew.below HBC.out
                clear hK K
                (try simp only [Act.put]); (try simp only [List.setIfInBounds_toArray]); (try simp only [List.set_cons_zero]); (try simp only [List.set_cons_succ])
                have HB9C := hide (HB9.out.drew.below HBC.out)
                refine wpAnyH_take (i := 4) (v := ?v4c21) rfl (by kernel_rfl) (by kernel_rfl) (by kernel_rfl) (fun _ _ _ h => h) (Or.inl ⟨by kernel_rfl, ?hy4c21⟩) (by assumption) ?rest4c21
                case hy4c21 => ((intro wS hSw); (obtain ⟨y0, y1, y2, y3⟩ := Box4.cells hSw); (go_simp); (try with_reducible rfl))
                change wpAnyH _ _ _ _ _ _ _ (Act.put _ (some 66) _) _
                (try simp only [Act.put]); (try simp only [List.setIfInBounds_toArray]); (try simp only [List.set_cons_zero]); (try simp only [List.set_cons_succ])
                refine wpAnyH_take (i := 5) (v := ?v5c21) rfl (by kernel_rfl) (by kernel_rfl) (by kernel_rfl) (fun _ _ _ h => h) (Or.inl ⟨by kernel_rfl, ?hy5c21⟩) (by assumption) ?rest5c21
                case hy5c21 => ((intro wS hSw); (obtain ⟨y0, y1, y2, y3⟩ := Box4.cells hSw); (go_simp); (try with_reducible rfl))
                change wpAnyH _ _ _ _ _ _ _ (Act.put _ (some 71) _) _
                (try simp only [Act.put]); (try simp only [List.setIfInBounds_toArray]); (try simp only [List.set_cons_zero]); (try simp only [List.set_cons_succ])
                refine wpAnyH_take (i := 6) (v := ?v6c21) rfl (by kernel_rfl) (by kernel_rfl) (by kernel_rfl) (fun _ _ _ h => h) (Or.inl ⟨by kernel_rfl, ?hy6c21⟩) (by assumption) ?rest6c21
                case hy6c21 => ((intro wS hSw); (obtain ⟨y0, y1, y2, y3⟩ := Box4.cells hSw); (go_simp); (try with_reducible rfl))
                change wpAnyH _ _ _ _ _ _ _ (Act.put _ (some 72) _) _
                (try simp only [Act.put]); (try simp only [List.setIfInBounds_toArray]); (try simp only [List.set_cons_zero]); (try simp only [List.set_cons_succ])
                refine wpAnyH_ready (rs := [7]) (by kernel_rfl) (by simp) (AllReadyH.cons rfl (fun K hK => ?_) AllReadyH.nil)
                rw [if_pos (by kernel_rfl)]
                go_simp
                refine hK.out _ _ ?_ (fun hHeld => ?_)
                · exact (Box4.below (HB9C.out) (alloc_below _ _))
                clear hK K
                (try simp only [Act.put]); (try simp only [List.setIfInBounds_toArray]); (try simp only [List.set_cons_zero]); (try simp only [List.set_cons_succ])
                refine wpAnyH_ready (rs := [8]) (by kernel_rfl) (by simp) (AllReadyH.cons rfl (fun K hK => ?_) AllReadyH.nil)
                rw [if_pos (by kernel_rfl)]
                go_simp
                refine hK.out _ _ ?_ (fun hHeld => ?_)
                · exact (Box4.below (HB9C.out) (alloc_below _ _))
                clear hK K
                (try simp only [Act.put]); (try simp only [List.setIfInBounds_toArray]); (try simp only [List.set_cons_zero]); (try simp only [List.set_cons_succ])
                refine wpAnyH_take (i := 9) (v := ?v9c21) rfl (by kernel_rfl) (by kernel_rfl) (by kernel_rfl) (fun _ _ _ h => h) (Or.inl ⟨by kernel_rfl, ?hy9c21⟩) (by assumption) ?rest9c21
                case hy9c21 => ((intro wS hSw); (obtain ⟨y0, y1, y2, y3⟩ := Box4.cells hSw); (go_simp); (try with_reducible rfl))
                change wpAnyH _ _ _ _ _ _ _ (Act.put _ (some 11) _) _
                (try simp only [Act.put]); (try simp only [List.setIfInBounds_toArray]); (try simp only [List.set_cons_zero]); (try simp only [List.set_cons_succ])
                refine wpAnyH_done (by kernel_rfl) ?_ _
                have HBF := hide ((show Below V.heap.size V V.drew from (Below.refl _ _).drew).trans (HBC.out.trans ((alloc_below wC (.cells #[.int .i64 R.k, .string R.fr, .int .i64 R.ix, .slice ua R.kids.len uc] ( /- t -/ 40))).mono (HBC.out.size))))
                have HBX := hide (Box4.now wC (.int .i64 R.k) (.string R.fr) (.int .i64 R.ix) (.slice ua R.kids.len uc) ( /- t -/ 40))
                have HOX := hide (HOW.out.same (Same.of_below (alloc_below wC (.cells #[.int .i64 R.k, .string R.fr, .int .i64 R.ix, .slice ua R.kids.len uc] ( /- t -/ 40))) HOW.out.lt))
                have hge2 : V.heap.size ≤ wC.heap.size := HBC.out.size
                generalize wC.alloc (.cells #[.int .i64 R.k, .string R.fr, .int .i64 R.ix, .slice ua R.kids.len uc] ( /- t -/ 40)) = X at *
                have HGN := hide (fun x (hx : x ∈ b2) => (show V.heap.size ≤ x by have := HGE.out x hx; simpa using this))
                generalize wC.heap.size = B10 at *
                have HBX2 := hide (HVB.out.trans (HBF.out.mono HVB.out.size))
                have HRB := hide (HRB.out.below HBX2.out)
                have HBL3 := HBL
                have HBL := hide (HBL.out.trans (HBX2.out.mono HBL.out.size))
                have HBLK2 := hide (HBLK.out.below HBX2.out)
                obtain ⟨e0, e1, e2, e3⟩ := HBX.out.cells
                have f0 := HBLK2.out.cell 20
                have f1 := HBLK2.out.cell 21
                have f2 := HBLK2.out.cell 22
                have f3 := HBLK2.out.cell 23
                simp only [List.getElem?_toArray, List.getElem?_cons_succ, List.getElem?_cons_zero] at f0 f1 f2 f3
                have ff := HBLK2.out.frozen
                have fl := HBLK2.out.lt
                have el := HBX.out.lt
                go_wp2_with fail
                go_roundw
                case rel =>
                  have hR := HR.out
                  subst hR
                  have hsame : ∀ bs : List Nat, (∀ x, x ∈ bs → x ≠ W.heap.size) → Same X (((( X.setCell ⟨W.heap.size, 20, none⟩ (.int .i64 (unf ⟨g2.k, g2.fr, g2.ix, g2.kids⟩).k)).setCell ⟨W.heap.size, 21, none⟩ (.string (unf ⟨g2.k, g2.fr, g2.ix, g2.kids⟩).fr)).setCell ⟨W.heap.size, 22, none⟩ (.int .i64 (unf ⟨g2.k, g2.fr, g2.ix, g2.kids⟩).ix)).setCell ⟨W.heap.size, 23, none⟩ (.slice ua (unf ⟨g2.k, g2.fr, g2.ix, g2.kids⟩).kids.len uc)) bs := fun bs hb => by
                    repeat (refine Same.setCell ?_ (fun x hx => by have := hb x hx; simpa using this) _)
                    exact Same.refl _ _
                  exact ⟨3, by omega, rfl, ⟨u0, b0, u1, b1, _, b2, (((HBLK2.out.set 20 _).set 21 _).set 22 _).set 23 _, ⟨(hso0.same (Same.of_below HBX2.out hso0.lt)).same (hsame _ (fun x hx => (hsn0 x hx).1)), hsn0⟩, ⟨(hso1.same (Same.of_below HBX2.out hso1.lt)).same (hsame _ (fun x hx => (hsn1 x hx).1)), hsn1⟩, ⟨HOX.out.same (hsame _ (fun x hx => by have := HGN.out x hx; have := HBLK.out.lt; have := HVS.out; omega)), fun x hx => ⟨by have := HGN.out x hx; have := HBLK.out.lt; have := HVS.out; omega, by have := HGN.out x hx; have := hrbl; have := HVS.out; omega⟩⟩, hc0, hc1, hcu⟩, (((HBL.out.setCell (by show w.heap.size ≤ W.heap.size; omega) _).setCell (by show w.heap.size ≤ W.heap.size; omega) _).setCell (by show w.heap.size ≤ W.heap.size; omega) _).setCell (by show w.heap.size ≤ W.heap.size; omega) _, (((HRB.out.setOtherCell (by show w.heap.size + 1 ≠ W.heap.size; omega) _).setOtherCell (by show w.heap.size + 1 ≠ W.heap.size; omega) _).setOtherCell (by show w.heap.size + 1 ≠ W.heap.size; omega) _).setOtherCell (by show w.heap.size + 1 ≠ W.heap.size; omega) _⟩
                case measure => simp [intOf]
              case' kd21 =>
                rw [if_pos (by kernel_rfl)]
                go_simp
                have HBA := hide (show Below V.heap.size V (V.alloc (.cells #[.int .i64 0, .string ⟨#[]⟩, .int .i64 0, .slice none 0 0] ( /- t -/ 40))).drew from (alloc_below V _).drew)
                have HSL := hide (HSL0.out.still (Still.of_below HBA.out))
                have HZ10 := hide ((Box4.now V (.int .i64 0) (.string ⟨#[]⟩) (.int .i64 0) (.slice none 0 0) ( /- t -/ 40)).drew)
                have HB9A := hide (HB9.out.below HBA.out)
                refine hK.out _ _ ?_ (fun hHeld => ?_)
                · exact HB9A.out
                clear hK K
                (try simp only [Act.put]); (try simp only [List.setIfInBounds_toArray]); (try simp only [List.set_cons_zero]); (try simp only [List.set_cons_succ])
                refine wpAnyH_ready (rs := [3]) (by kernel_rfl) (by simp) (AllReadyH.cons rfl (fun K hK => ?_) AllReadyH.nil)
                rw [if_pos (by kernel_rfl)]
                go_simp
                go_at_call 28
                refine (HCT.out _ HSL.out).mono ?_
                rintro e wC ⟨u2, b2, rfl, how, hge, hnd, hbC⟩
                obtain ⟨ua, uc, rfl⟩ := how.val
                have HOW := hide how
                have HGE := hide hge
                have HBC := hide hbC
                clear how hge hnd hbC
                have HB9C := hide (HB9A.out.below HBC.out)
                have HZ10 := hide (HZ10.out.below HBC.out)
                obtain ⟨h0, h1, h2, h3⟩ := HZ10.out.cells
                have hf10 := HZ10.out.frozen
                have hl10 := HZ10.out.lt
                refine hK.out _ _ ?_ (fun hHeld => ?_)
                · exact HB9C.out
                clear hK K
                (try simp only [Act.put]); (try simp only [List.setIfInBounds_toArray]); (try simp only [List.set_cons_zero]); (try simp only [List.set_cons_succ])
                have HB9S := hide (fun (v0 v1 v2 v3 : Value) => (show Box4 (set4 wC V.heap.size 0 v0 v1 v2 v3) wr.heap.size (.int .i64 g2.k) (.string g2.fr) (.int .i64 g2.ix) (.slice t2 g2.kids.len k2) from HB9C.out.same (set4_other _ _ _ _ _ _ _ _ (by have := HVS.out; omega))))
                refine wpAnyH_take (i := 4) (v := ?v4d21) rfl (by kernel_rfl) (by kernel_rfl) (by kernel_rfl) (fun _ _ _ h => h) (Or.inl ⟨by kernel_rfl, ?hy4d21⟩) (by assumption) ?rest4d21
                case hy4d21 => ((intro wS hSw); (obtain ⟨y0, y1, y2, y3⟩ := Box4.cells hSw); (go_simp); (try with_reducible rfl))
                change wpAnyH _ _ _ _ _ _ _ (Act.put _ (some 66) _) _
                (try simp only [Act.put]); (try simp only [List.setIfInBounds_toArray]); (try simp only [List.set_cons_zero]); (try simp only [List.set_cons_succ])
                refine wpAnyH_take (i := 5) (v := ?v5d21) rfl (by kernel_rfl) (by kernel_rfl) (by kernel_rfl) (fun _ _ _ h => h) (Or.inl ⟨by kernel_rfl, ?hy5d21⟩) (by assumption) ?rest5d21
                case hy5d21 => ((intro wS hSw); (obtain ⟨y0, y1, y2, y3⟩ := Box4.cells hSw); (go_simp); (try with_reducible rfl))
                change wpAnyH _ _ _ _ _ _ _ (Act.put _ (some 71) _) _
                (try simp only [Act.put]); (try simp only [List.setIfInBounds_toArray]); (try simp only [List.set_cons_zero]); (try simp only [List.set_cons_succ])
                refine wpAnyH_take (i := 6) (v := ?v6d21) rfl (by kernel_rfl) (by kernel_rfl) (by kernel_rfl) (fun _ _ _ h => h) (Or.inl ⟨by kernel_rfl, ?hy6d21⟩) (by assumption) ?rest6d21
                case hy6d21 => ((intro wS hSw); (obtain ⟨y0, y1, y2, y3⟩ := Box4.cells hSw); (go_simp); (try with_reducible rfl))
                change wpAnyH _ _ _ _ _ _ _ (Act.put _ (some 72) _) _
                (try simp only [Act.put]); (try simp only [List.setIfInBounds_toArray]); (try simp only [List.set_cons_zero]); (try simp only [List.set_cons_succ])
                refine wpAnyH_ready (rs := [8]) (by kernel_rfl) (by simp) (AllReadyH.cons rfl (fun K hK => ?_) AllReadyH.nil)
                rw [if_pos (by kernel_rfl)]
                go_simp
                refine hK.out _ _ ?_ (fun hHeld => ?_)
                · exact HB9S.out _ _ _ _
                clear hK K
                (try simp only [Act.put]); (try simp only [List.setIfInBounds_toArray]); (try simp only [List.set_cons_zero]); (try simp only [List.set_cons_succ])
                refine wpAnyH_take (i := 9) (v := ?v9d21) rfl (by kernel_rfl) (by kernel_rfl) (by kernel_rfl) (fun _ _ _ h => h) (Or.inl ⟨by kernel_rfl, ?hy9d21⟩) (by assumption) ?rest9d21
                case hy9d21 => ((intro wS hSw); (obtain ⟨y0, y1, y2, y3⟩ := Box4.cells hSw); (go_simp); (try with_reducible rfl))
                change wpAnyH _ _ _ _ _ _ _ (Act.put _ (some 11) _) _
                (try simp only [Act.put]); (try simp only [List.setIfInBounds_toArray]); (try simp only [List.set_cons_zero]); (try simp only [List.set_cons_succ])
                refine wpAnyH_done (by kernel_rfl) ?_ _
                have hge2 : V.heap.size ≤ V.heap.size := Nat.le_refl _
                have HBF := hide (set4_below (HBA.out.trans (HBC.out.mono HBA.out.size)) V.heap.size 0 (Nat.le_refl _) (.int .i64 R.k) (.string R.fr) (.int .i64 R.ix) (.slice ua R.kids.len uc))
                have HBX := hide (HZ10.out.setAll (.int .i64 R.k) (.string R.fr) (.int .i64 R.ix) (.slice ua R.kids.len uc))
                have HOX := hide (HOW.out.same (show Same wC (set4 wC V.heap.size 0 (.int .i64 R.k) (.string R.fr) (.int .i64 R.ix) (.slice ua R.kids.len uc)) b2 from fun x hx => set4_other _ _ _ _ _ _ _ _ (by have := HGE.out x hx; simp at this; omega)))
                change Exit.then _ _ _ _ (set4 wC V.heap.size 0 (.int .i64 R.k) (.string R.fr) (.int .i64 R.ix) (.slice ua R.kids.len uc))
                change Hid (Box4 (set4 wC V.heap.size 0 (.int .i64 R.k) (.string R.fr) (.int .i64 R.ix) (.slice ua R.kids.len uc)) _ _ _ _ _) at HBX
                generalize set4 wC V.heap.size 0 (.int .i64 R.k) (.string R.fr) (.int .i64 R.ix) (.slice ua R.kids.len uc) = X at *
                obtain ⟨B10, hB10⟩ : ∃ B10, B10 = V.heap.size := ⟨_, rfl⟩
                rw [← hB10] at HBX hge2 ⊢
                clear hB10
                have HGN := hide (fun x (hx : x ∈ b2) => (show V.heap.size ≤ x by have := HGE.out x hx; simp at this; omega))
                have HBX2 := hide (HVB.out.trans (HBF.out.mono HVB.out.size))
                have HRB := hide (HRB.out.below HBX2.out)
                have HBL3 := HBL
                have HBL := hide (HBL.out.trans (HBX2.out.mono HBL.out.size))
                have HBLK2 := hide (HBLK.out.below HBX2.out)
                obtain ⟨e0, e1, e2, e3⟩ := HBX.out.cells
                have f0 := HBLK2.out.cell 20
                have f1 := HBLK2.out.cell 21
                have f2 := HBLK2.out.cell 22
                have f3 := HBLK2.out.cell 23
                simp only [List.getElem?_toArray, List.getElem?_cons_succ, List.getElem?_cons_zero] at f0 f1 f2 f3
                have ff := HBLK2.out.frozen
                have fl := HBLK2.out.lt
                have el := HBX.out.lt
                go_wp2_with fail
                go_roundw
                case rel =>
                  have hR := HR.out
                  subst hR
                  have hsame : ∀ bs : List Nat, (∀ x, x ∈ bs → x ≠ W.heap.size) → Same X (((( X.setCell ⟨W.heap.size, 20, none⟩ (.int .i64 (unf ⟨g2.k, g2.fr, g2.ix, g2.kids⟩).k)).setCell ⟨W.heap.size, 21, none⟩ (.string (unf ⟨g2.k, g2.fr, g2.ix, g2.kids⟩).fr)).setCell ⟨W.heap.size, 22, none⟩ (.int .i64 (unf ⟨g2.k, g2.fr, g2.ix, g2.kids⟩).ix)).setCell ⟨W.heap.size, 23, none⟩ (.slice ua (unf ⟨g2.k, g2.fr, g2.ix, g2.kids⟩).kids.len uc)) bs := fun bs hb => by
                    repeat (refine Same.setCell ?_ (fun x hx => by have := hb x hx; simpa using this) _)
                    exact Same.refl _ _
                  exact ⟨3, by omega, rfl, ⟨u0, b0, u1, b1, _, b2, (((HBLK2.out.set 20 _).set 21 _).set 22 _).set 23 _, ⟨(hso0.same (Same.of_below HBX2.out hso0.lt)).same (hsame _ (fun x hx => (hsn0 x hx).1)), hsn0⟩, ⟨(hso1.same (Same.of_below HBX2.out hso1.lt)).same (hsame _ (fun x hx => (hsn1 x hx).1)), hsn1⟩, ⟨HOX.out.same (hsame _ (fun x hx => by have := HGN.out x hx; have := HBLK.out.lt; have := HVS.out; omega)), fun x hx => ⟨by have := HGN.out x hx; have := HBLK.out.lt; have := HVS.out; omega, by have := HGN.out x hx; have := hrbl; have := HVS.out; omega⟩⟩, hc0, hc1, hcu⟩, (((HBL.out.setCell (by show w.heap.size ≤ W.heap.size; omega) _).setCell (by show w.heap.size ≤ W.heap.size; omega) _).setCell (by show w.heap.size ≤ W.heap.size; omega) _).setCell (by show w.heap.size ≤ W.heap.size; omega) _, (((HRB.out.setOtherCell (by show w.heap.size + 1 ≠ W.heap.size; omega) _).setOtherCell (by show w.heap.size + 1 ≠ W.heap.size; omega) _).setOtherCell (by show w.heap.size + 1 ≠ W.heap.size; omega) _).setOtherCell (by show w.heap.size + 1 ≠ W.heap.size; omega) _⟩
                case measure => simp [intOf]
            case' kb21 =>
              rw [if_pos (by kernel_rfl)]
              go_simp
              have HBA := hide (show Below V.heap.size V (V.alloc (.cells #[.int .i64 0, .string ⟨#[]⟩, .int .i64 0, .slice none 0 0] ( /- t -/ 40))).drew from (alloc_below V _).drew)
              have HSL := hide (HSL0.out.still (Still.of_below HBA.out))
              have HZ10 := hide ((Box4.now V (.int .i64 0) (.string ⟨#[]⟩) (.int .i64 0) (.slice none 0 0) ( /- t -/ 40)).drew)
              have HB9A := hide (HB9.out.below HBA.out)
              refine hK.out _ _ ?_ (fun hHeld => ?_)
              · exact HB9A.out
              clear hK K
              (try simp only [Act.put]); (try simp only [List.setIfInBounds_toArray]); (try simp only [List.set_cons_zero]); (try simp only [List.set_cons_succ])
              refine wpAnyH_ready (rs := [2]) (by kernel_rfl) (by simp) (AllReadyH.cons rfl (fun K hK => ?_) AllReadyH.nil)
              rw [if_pos (by kernel_rfl)]
              go_simp
              (go_at_call 29; (with_reducible refine (HRO.out _).mono ?_); rintro e wF ⟨rfl, rfl⟩)
              refine hK.out _ _ ?_ (fun hHeld => ?_)
              · exact HB9A.out
              clear hK K
              (try simp only [Act.put]); (try simp only [List.setIfInBounds_toArray]); (try simp only [List.set_cons_zero]); (try simp only [List.set_cons_succ])
              refine wpAnyH_ready (rs := [3]) (by kernel_rfl) (by simp) (AllReadyH.cons rfl (fun K hK => ?_) AllReadyH.nil)
              rw [if_pos (by kernel_rfl)]
              go_simp
              go_at_call 28
              refine (HCT.out _ HSL.out).mono ?_
              rintro e wC ⟨u2, b2, rfl, how, hge, hnd, hbC⟩
              obtain ⟨ua, uc, rfl⟩ := how.val
              have HOW := hide how
              have HGE := hide hge
              have HBC := hide hbC
              clear how hge hnd hbC
              have HB9C := hide (HB9A.out.below HBC.out)
              have HZ10 := hide (HZ10.out.below HBC.out)
              obtain ⟨h0, h1, h2, h3⟩ := HZ10.out.cells
              have hf10 := HZ10.out.frozen
              have hl10 := HZ10.out.lt
              refine hK.out _ _ ?_ (fun hHeld => ?_)
              · exact HB9C.out
              clear hK K
              (try simp only [Act.put]); (try simp only [List.setIfInBounds_toArray]); (try simp only [List.set_cons_zero]); (try simp only [List.set_cons_succ])
              have HB9S := hide (fun (v0 v1 v2 v3 : Value) => (show Box4 (set4 wC V.heap.size 0 v0 v1 v2 v3) wr.heap.size (.int .i64 g2.k) (.string g2.fr) (.int .i64 g2.ix) (.slice t2 g2.kids.len k2) from HB9C.out.same (set4_other _ _ _ _ _ _ _ _ (by have := HVS.out; omega))))
              refine wpAnyH_take (i := 4) (v := ?v4b21) rfl (by kernel_rfl) (by kernel_rfl) (by kernel_rfl) (fun _ _ _ h => h) (Or.inl ⟨by kernel_rfl, ?hy4b21⟩) (by assumption) ?rest4b21
              case hy4b21 => ((intro wS hSw); (obtain ⟨y0, y1, y2, y3⟩ := Box4.cells hSw); (go_simp); (try with_reducible rfl))
              change wpAnyH _ _ _ _ _ _ _ (Act.put _ (some 66) _) _
              (try simp only [Act.put]); (try simp only [List.setIfInBounds_toArray]); (try simp only [List.set_cons_zero]); (try simp only [List.set_cons_succ])
              refine wpAnyH_take (i := 5) (v := ?v5b21) rfl (by kernel_rfl) (by kernel_rfl) (by kernel_rfl) (fun _ _ _ h => h) (Or.inl ⟨by kernel_rfl, ?hy5b21⟩) (by assumption) ?rest5b21
              case hy5b21 => ((intro wS hSw); (obtain ⟨y0, y1, y2, y3⟩ := Box4.cells hSw); (go_simp); (try with_reducible rfl))
              change wpAnyH _ _ _ _ _ _ _ (Act.put _ (some 71) _) _
              (try simp only [Act.put]); (try simp only [List.setIfInBounds_toArray]); (try simp only [List.set_cons_zero]); (try simp only [List.set_cons_succ])
              refine wpAnyH_take (i := 6) (v := ?v6b21) rfl (by kernel_rfl) (by kernel_rfl) (by kernel_rfl) (fun _ _ _ h => h) (Or.inl ⟨by kernel_rfl, ?hy6b21⟩) (by assumption) ?rest6b21
              case hy6b21 => ((intro wS hSw); (obtain ⟨y0, y1, y2, y3⟩ := Box4.cells hSw); (go_simp); (try with_reducible rfl))
              change wpAnyH _ _ _ _ _ _ _ (Act.put _ (some 72) _) _
              (try simp only [Act.put]); (try simp only [List.setIfInBounds_toArray]); (try simp only [List.set_cons_zero]); (try simp only [List.set_cons_succ])
              refine wpAnyH_ready (rs := [8]) (by kernel_rfl) (by simp) (AllReadyH.cons rfl (fun K hK => ?_) AllReadyH.nil)
              rw [if_pos (by kernel_rfl)]
              go_simp
              refine hK.out _ _ ?_ (fun hHeld => ?_)
              · exact HB9S.out _ _ _ _
              clear hK K
              (try simp only [Act.put]); (try simp only [List.setIfInBounds_toArray]); (try simp only [List.set_cons_zero]); (try simp only [List.set_cons_succ])
              refine wpAnyH_take (i := 9) (v := ?v9b21) rfl (by kernel_rfl) (by kernel_rfl) (by kernel_rfl) (fun _ _ _ h => h) (Or.inl ⟨by kernel_rfl, ?hy9b21⟩) (by assumption) ?rest9b21
              case hy9b21 => ((intro wS hSw); (obtain ⟨y0, y1, y2, y3⟩ := Box4.cells hSw); (go_simp); (try with_reducible rfl))
              change wpAnyH _ _ _ _ _ _ _ (Act.put _ (some 11) _) _
              (try simp only [Act.put]); (try simp only [List.setIfInBounds_toArray]); (try simp only [List.set_cons_zero]); (try simp only [List.set_cons_succ])
              refine wpAnyH_done (by kernel_rfl) ?_ _
              have hge2 : V.heap.size ≤ V.heap.size := Nat.le_refl _
              have HBF := hide (set4_below (HBA.out.trans (HBC.out.mono HBA.out.size)) V.heap.size 0 (Nat.le_refl _) (.int .i64 R.k) (.string R.fr) (.int .i64 R.ix) (.slice ua R.kids.len uc))
              have HBX := hide (HZ10.out.setAll (.int .i64 R.k) (.string R.fr) (.int .i64 R.ix) (.slice ua R.kids.len uc))
              have HOX := hide (HOW.out.same (show Same wC (set4 wC V.heap.size 0 (.int .i64 R.k) (.string R.fr) (.int .i64 R.ix) (.slice ua R.kids.len uc)) b2 from fun x hx => set4_other _ _ _ _ _ _ _ _ (by have := HGE.out x hx; simp at this; omega)))
              change Exit.then _ _ _ _ (set4 wC V.heap.size 0 (.int .i64 R.k) (.string R.fr) (.int .i64 R.ix) (.slice ua R.kids.len uc))
              change Hid (Box4 (set4 wC V.heap.size 0 (.int .i64 R.k) (.string R.fr) (.int .i64 R.ix) (.slice ua R.kids.len uc)) _ _ _ _ _) at HBX
              generalize set4 wC V.heap.size 0 (.int .i64 R.k) (.string R.fr) (.int .i64 R.ix) (.slice ua R.kids.len uc) = X at *
              obtain ⟨B10, hB10⟩ : ∃ B10, B10 = V.heap.size := ⟨_, rfl⟩
              rw [← hB10] at HBX hge2 ⊢
              clear hB10
              have HGN := hide (fun x (hx : x ∈ b2) => (show V.heap.size ≤ x by have := HGE.out x hx; simp at this; omega))
              have HBX2 := hide (HVB.out.trans (HBF.out.mono HVB.out.size))
              have HRB := hide (HRB.out.below HBX2.out)
              have HBL3 := HBL
              have HBL := hide (HBL.out.trans (HBX2.out.mono HBL.out.size))
              have HBLK2 := hide (HBLK.out.below HBX2.out)
              obtain ⟨e0, e1, e2, e3⟩ := HBX.out.cells
              have f0 := HBLK2.out.cell 20
              have f1 := HBLK2.out.cell 21
              have f2 := HBLK2.out.cell 22
              have f3 := HBLK2.out.cell 23
              simp only [List.getElem?_toArray, List.getElem?_cons_succ, List.getElem?_cons_zero] at f0 f1 f2 f3
              have ff := HBLK2.out.frozen
              have fl := HBLK2.out.lt
              have el := HBX.out.lt
              go_wp2_with fail
              go_roundw
              case rel =>
                have hR := HR.out
                subst hR
                have hsame : ∀ bs : List Nat, (∀ x, x ∈ bs → x ≠ W.heap.size) → Same X (((( X.setCell ⟨W.heap.size, 20, none⟩ (.int .i64 (unf ⟨g2.k, g2.fr, g2.ix, g2.kids⟩).k)).setCell ⟨W.heap.size, 21, none⟩ (.string (unf ⟨g2.k, g2.fr, g2.ix, g2.kids⟩).fr)).setCell ⟨W.heap.size, 22, none⟩ (.int .i64 (unf ⟨g2.k, g2.fr, g2.ix, g2.kids⟩).ix)).setCell ⟨W.heap.size, 23, none⟩ (.slice ua (unf ⟨g2.k, g2.fr, g2.ix, g2.kids⟩).kids.len uc)) bs := fun bs hb => by
                  repeat (refine Same.setCell ?_ (fun x hx => by have := hb x hx; simpa using this) _)
                  exact Same.refl _ _
                exact ⟨3, by omega, rfl, ⟨u0, b0, u1, b1, _, b2, (((HBLK2.out.set 20 _).set 21 _).set 22 _).set 23 _, ⟨(hso0.same (Same.of_below HBX2.out hso0.lt)).same (hsame _ (fun x hx => (hsn0 x hx).1)), hsn0⟩, ⟨(hso1.same (Same.of_below HBX2.out hso1.lt)).same (hsame _ (fun x hx => (hsn1 x hx).1)), hsn1⟩, ⟨HOX.out.same (hsame _ (fun x hx => by have := HGN.out x hx; have := HBLK.out.lt; have := HVS.out; omega)), fun x hx => ⟨by have := HGN.out x hx; have := HBLK.out.lt; have := HVS.out; omega, by have := HGN.out x hx; have := hrbl; have := HVS.out; omega⟩⟩, hc0, hc1, hcu⟩, (((HBL.out.setCell (by show w.heap.size ≤ W.heap.size; omega) _).setCell (by show w.heap.size ≤ W.heap.size; omega) _).setCell (by show w.heap.size ≤ W.heap.size; omega) _).setCell (by show w.heap.size ≤ W.heap.size; omega) _, (((HRB.out.setOtherCell (by show w.heap.size + 1 ≠ W.heap.size; omega) _).setOtherCell (by show w.heap.size + 1 ≠ W.heap.size; omega) _).setOtherCell (by show w.heap.size + 1 ≠ W.heap.size; omega) _).setOtherCell (by show w.heap.size + 1 ≠ W.heap.size; omega) _⟩
              case measure => simp [intOf]
        | 3, _, hiv, HCUR =>
          obtain rfl : _ = Value.int .i64 (3 : Int) := hiv
          obtain ⟨u0, b0, u1, b1, u2, b2, hblk, ⟨hso0, hsn0⟩, ⟨hso1, hsn1⟩, ⟨hso2, hsn2⟩, hc0, hc1, hc2⟩ := HCUR.out
          have HBLK := hide hblk
          have HYES := hide (show okc = true by rw [HLS.out, hc0, hc1, hc2]; rfl)
          obtain ⟨v0, n0, rfl⟩ := hso0.val
          obtain ⟨v1, n1, rfl⟩ := hso1.val
          obtain ⟨v2, n2, rfl⟩ := hso2.val
          clear hblk
          go_wp2_with (first | (refine wpList_load_blk (b := W.heap.size) (c := #[.int .i64 g0.k, .string g0.fr, .int .i64 g0.ix, .slice t0 g0.kids.len k0, .int .i64 g1.k, .string g1.fr, .int .i64 g1.ix, .slice t1 g1.kids.len k1, .int .i64 g2.k, .string g2.fr, .int .i64 g2.ix, .slice t2 g2.kids.len k2, .int .i64 (unf ⟨g0.k, g0.fr, g0.ix, g0.kids⟩).k, .string (unf ⟨g0.k, g0.fr, g0.ix, g0.kids⟩).fr, .int .i64 (unf ⟨g0.k, g0.fr, g0.ix, g0.kids⟩).ix, .slice v0 (unf ⟨g0.k, g0.fr, g0.ix, g0.kids⟩).kids.len n0, .int .i64 (unf ⟨g1.k, g1.fr, g1.ix, g1.kids⟩).k, .string (unf ⟨g1.k, g1.fr, g1.ix, g1.kids⟩).fr, .int .i64 (unf ⟨g1.k, g1.fr, g1.ix, g1.kids⟩).ix, .slice v1 (unf ⟨g1.k, g1.fr, g1.ix, g1.kids⟩).kids.len n1, .int .i64 (unf ⟨g2.k, g2.fr, g2.ix, g2.kids⟩).k, .string (unf ⟨g2.k, g2.fr, g2.ix, g2.kids⟩).fr, .int .i64 (unf ⟨g2.k, g2.fr, g2.ix, g2.kids⟩).ix, .slice v2 (unf ⟨g2.k, g2.fr, g2.ix, g2.kids⟩).kids.len n2, .string q0, .string q1, .string q2, .string q3, .string q4, .string q5, .string q6, .string q7, .string q8]) rfl rfl HBLK.out rfl Tryz.underlying44 rfl (by kernel_rfl) ?_) | (refine wpList_store_blk (b := w.heap.size + 1) (c := #[.int .i64 0, .string ⟨#[]⟩, .int .i64 0, .slice none 0 0, .int .i64 0, .string ⟨#[]⟩, .int .i64 0, .slice none 0 0, .int .i64 0, .string ⟨#[]⟩, .int .i64 0, .slice none 0 0, .int .i64 0, .string ⟨#[]⟩, .int .i64 0, .slice none 0 0, .int .i64 0, .string ⟨#[]⟩, .int .i64 0, .slice none 0 0, .int .i64 0, .string ⟨#[]⟩, .int .i64 0, .slice none 0 0, .string ⟨#[]⟩, .string ⟨#[]⟩, .string ⟨#[]⟩, .string ⟨#[]⟩, .string ⟨#[]⟩, .string ⟨#[]⟩, .string ⟨#[]⟩, .string ⟨#[]⟩, .string ⟨#[]⟩]) (c' := #[.int .i64 g0.k, .string g0.fr, .int .i64 g0.ix, .slice t0 g0.kids.len k0, .int .i64 g1.k, .string g1.fr, .int .i64 g1.ix, .slice t1 g1.kids.len k1, .int .i64 g2.k, .string g2.fr, .int .i64 g2.ix, .slice t2 g2.kids.len k2, .int .i64 (unf ⟨g0.k, g0.fr, g0.ix, g0.kids⟩).k, .string (unf ⟨g0.k, g0.fr, g0.ix, g0.kids⟩).fr, .int .i64 (unf ⟨g0.k, g0.fr, g0.ix, g0.kids⟩).ix, .slice v0 (unf ⟨g0.k, g0.fr, g0.ix, g0.kids⟩).kids.len n0, .int .i64 (unf ⟨g1.k, g1.fr, g1.ix, g1.kids⟩).k, .string (unf ⟨g1.k, g1.fr, g1.ix, g1.kids⟩).fr, .int .i64 (unf ⟨g1.k, g1.fr, g1.ix, g1.kids⟩).ix, .slice v1 (unf ⟨g1.k, g1.fr, g1.ix, g1.kids⟩).kids.len n1, .int .i64 (unf ⟨g2.k, g2.fr, g2.ix, g2.kids⟩).k, .string (unf ⟨g2.k, g2.fr, g2.ix, g2.kids⟩).fr, .int .i64 (unf ⟨g2.k, g2.fr, g2.ix, g2.kids⟩).ix, .slice v2 (unf ⟨g2.k, g2.fr, g2.ix, g2.kids⟩).kids.len n2, .string q0, .string q1, .string q2, .string q3, .string q4, .string q5, .string q6, .string q7, .string q8]) rfl rfl HRB.out rfl rfl (by kernel_rfl) rfl (by kernel_rfl) ?_) | fail)
          refine bodyPost_ret (v := .tuple #[.agg #[.int .i64 g0.k, .string g0.fr, .int .i64 g0.ix, .slice t0 g0.kids.len k0, .int .i64 g1.k, .string g1.fr, .int .i64 g1.ix, .slice t1 g1.kids.len k1, .int .i64 g2.k, .string g2.fr, .int .i64 g2.ix, .slice t2 g2.kids.len k2, .int .i64 (unf ⟨g0.k, g0.fr, g0.ix, g0.kids⟩).k, .string (unf ⟨g0.k, g0.fr, g0.ix, g0.kids⟩).fr, .int .i64 (unf ⟨g0.k, g0.fr, g0.ix, g0.kids⟩).ix, .slice v0 (unf ⟨g0.k, g0.fr, g0.ix, g0.kids⟩).kids.len n0, .int .i64 (unf ⟨g1.k, g1.fr, g1.ix, g1.kids⟩).k, .string (unf ⟨g1.k, g1.fr, g1.ix, g1.kids⟩).fr, .int .i64 (unf ⟨g1.k, g1.fr, g1.ix, g1.kids⟩).ix, .slice v1 (unf ⟨g1.k, g1.fr, g1.ix, g1.kids⟩).kids.len n1, .int .i64 (unf ⟨g2.k, g2.fr, g2.ix, g2.kids⟩).k, .string (unf ⟨g2.k, g2.fr, g2.ix, g2.kids⟩).fr, .int .i64 (unf ⟨g2.k, g2.fr, g2.ix, g2.kids⟩).ix, .slice v2 (unf ⟨g2.k, g2.fr, g2.ix, g2.kids⟩).kids.len n2, .string q0, .string q1, .string q2, .string q3, .string q4, .string q5, .string q6, .string q7, .string q8], .bool true]) (results_blk Tryz.results15 rfl (HRB.out.setRow #[.int .i64 g0.k, .string g0.fr, .int .i64 g0.ix, .slice t0 g0.kids.len k0, .int .i64 g1.k, .string g1.fr, .int .i64 g1.ix, .slice t1 g1.kids.len k1, .int .i64 g2.k, .string g2.fr, .int .i64 g2.ix, .slice t2 g2.kids.len k2, .int .i64 (unf ⟨g0.k, g0.fr, g0.ix, g0.kids⟩).k, .string (unf ⟨g0.k, g0.fr, g0.ix, g0.kids⟩).fr, .int .i64 (unf ⟨g0.k, g0.fr, g0.ix, g0.kids⟩).ix, .slice v0 (unf ⟨g0.k, g0.fr, g0.ix, g0.kids⟩).kids.len n0, .int .i64 (unf ⟨g1.k, g1.fr, g1.ix, g1.kids⟩).k, .string (unf ⟨g1.k, g1.fr, g1.ix, g1.kids⟩).fr, .int .i64 (unf ⟨g1.k, g1.fr, g1.ix, g1.kids⟩).ix, .slice v1 (unf ⟨g1.k, g1.fr, g1.ix, g1.kids⟩).kids.len n1, .int .i64 (unf ⟨g2.k, g2.fr, g2.ix, g2.kids⟩).k, .string (unf ⟨g2.k, g2.fr, g2.ix, g2.kids⟩).fr, .int .i64 (unf ⟨g2.k, g2.fr, g2.ix, g2.kids⟩).ix, .slice v2 (unf ⟨g2.k, g2.fr, g2.ix, g2.kids⟩).kids.len n2, .string q0, .string q1, .string q2, .string q3, .string q4, .string q5, .string q6, .string q7, .string q8]) Tryz.underlying44 rfl (by kernel_rfl)) rfl ?_
          exact ConfP.yes HYES.out (below_setRow HBL.out (by omega) _) (hso0.same (fun x hx => setRow_other _ _ _ _ (hsn0 x hx).2)).sl (hso1.same (fun x hx => setRow_other _ _ _ _ (hsn1 x hx).2)).sl (hso2.same (fun x hx => setRow_other _ _ _ _ (hsn2 x hx).2)).sl
        | i + 4, hi, _, _ => exact absurd hi (by omega)
    | j + 10, hj, _, _ => exact absurd hj (by omega)
end Go.Proofs.YtnlihdcjpeabfaaGreatDoor.Lo.Ne
