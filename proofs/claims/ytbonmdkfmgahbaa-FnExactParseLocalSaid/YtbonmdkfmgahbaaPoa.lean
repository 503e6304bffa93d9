/- l2ParseAction of the model. -/
import Derived.Test.YtbonmdkfmgahbaaPn
import Derived.Deep.RegionLawGrows
namespace Go.Proofs.Ytbonmdkfmgahbaa.Lo.Ne
open Go.RowKit

def SpRel (T : List UInt8) (g : List UInt8 → Option (Nd × List UInt8)) (R : Option (F × List UInt8)) (kk : Int) (pr : ByteArray) (A : Nat) (w : World) (iv : Value) (wr : World) : Prop :=
  ∃ (j q : Nat) (acc : F) (v : Value) (bs : List Nat), iv = .int .i64 (q : Nat) ∧ q ≤ T.length ∧ Box4 wr A (.int .i64 kk) (.string pr) (.int .i64 0) v ∧ Gr wr (A + 1) v acc bs ∧ acc.len + j = 5 ∧ spB g j (T.drop q) acc = R ∧ Below w.heap.size w wr ∧ Box4 wr w.heap.size (.int .i64 0) (.string ⟨#[]⟩) (.int .i64 0) (.slice none 0 0)
def bxLen (w : World) (A : Nat) : Nat :=
  match w.cell? ⟨A, 3, none⟩ with
  | some (.slice _ n _) => n
  | _ => 0
theorem bxLen_eq {w : World} {A : Nat} {v0 v1 v2 : Value} {a : Option Addr} {n c : Nat} (h : Box4 w A v0 v1 v2 (.slice a n c)) : bxLen w A = n := by
  unfold bxLen
  rw [h.cells.2.2.2]
theorem exB_yes {T : List UInt8} {q : Nat} (hq : q < T.length) (hc : hdC (T.drop q) = 125) (acc : F) : exB (T.drop q) acc = some (acc, T.drop (q + 1)) := by
  obtain ⟨-, -, hdr⟩ := head_at hq
  rw [hdr, hc]
  rfl
theorem exB_end {T : List UInt8} {q : Nat} (hq : T.length ≤ q) (acc : F) : exB (T.drop q) acc = none := by
  rw [List.drop_eq_nil_of_le hq]
  rfl
theorem exB_no {T : List UInt8} {q : Nat} (hq : q < T.length) (hc : hdC (T.drop q) ≠ 125) (acc : F) : exB (T.drop q) acc = none := by
  obtain ⟨-, -, hdr⟩ := head_at hq
  generalize hdC (T.drop q) = c at *
  rw [hdr]
  unfold exB
  rw [if_neg (by simpa [nxC] using hc)]
theorem goes_iff {T : List UInt8} {q : Nat} : goesB (T.drop q) = true ↔ (q + 1 < T.length ∧ (hdC (T.drop q) = 123 ∨ hdC (T.drop q) = 124)) := by
  by_cases hq : q < T.length
  · obtain ⟨-, -, hdr⟩ := head_at hq
    have hl : (T.drop (q + 1)).length = T.length - (q + 1) := List.length_drop
    generalize hdC (T.drop q) = c at *
    rw [hdr]
    have e : (!(T.drop (q + 1)).isEmpty) = true ↔ q + 1 < T.length := by
      cases h : T.drop (q + 1) with
      | nil => rw [h] at hl; simp at hl ⊢; omega
      | cons a b => rw [h] at hl; simp at hl ⊢; omega
    unfold goesB
    rw [Bool.and_eq_true]
    simp only [List.tail_cons, nxC, Bool.or_eq_true, beq_iff_eq]
    rw [e]
    exact And.comm
  · rw [List.drop_eq_nil_of_le (by omega)]
    constructor
    · intro h; cases h
    · intro h; omega
end Go.Proofs.Ytbonmdkfmgahbaa.Lo.Ne
