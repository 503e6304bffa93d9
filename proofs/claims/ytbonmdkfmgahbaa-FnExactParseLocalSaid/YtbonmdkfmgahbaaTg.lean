/- What a reader's writing leaves. -/
import Derived.Test.YtbonmdkfmgahbaaTr
namespace Go.Proofs.Ytbonmdkfmgahbaa.Lo.Ne
open Go.RowKit

theorem box4_only {w w' : World} {c b : Nat} {v0 v1 v2 v3 : Value} (h : Box4 w b v0 v1 v2 v3) (ho : Only c w w') (hne : b ≠ c) : Box4 w' b v0 v1 v2 v3 := h.same (ho.block b h.lt hne)
theorem tail_le (s : List UInt8) : s.tail.length ≤ s.length := by cases s <;> simp

theorem only_set4 {c : Nat} {w w' : World} (h : Only c w w') (u0 u1 u2 u3 : Value) : Only c w ((((w'.setCell ⟨w.heap.size, 0, none⟩ u0).setCell ⟨w.heap.size, 1, none⟩ u1).setCell ⟨w.heap.size, 2, none⟩ u2).setCell ⟨w.heap.size, 3, none⟩ u3) :=
  (((h.setCell (Or.inr (Nat.le_refl _)) u0).setCell (Or.inr (Nat.le_refl _)) u1).setCell (Or.inr (Nat.le_refl _)) u2).setCell (Or.inr (Nat.le_refl _)) u3
theorem rd_set4 {w' : World} {b c : Nat} {s : List UInt8} (h : Rd w' c s) (hne : b ≠ c) (u0 u1 u2 u3 : Value) : Rd ((((w'.setCell ⟨b, 0, none⟩ u0).setCell ⟨b, 1, none⟩ u1).setCell ⟨b, 2, none⟩ u2).setCell ⟨b, 3, none⟩ u3) c s := by
  refine h.same ?_
  repeat rw [Below.heap_setCell _ _ _ _ (by exact hne.symm)]

/-- How much of the text is left. -/
def rdLen (w : World) (c : Nat) : Nat :=
  match w.cell? ⟨c, 0, none⟩ with
  | some (.string b) => b.size
  | _ => 0
theorem Rd.len {w : World} {c : Nat} {s : List UInt8} (h : Rd w c s) : rdLen w c = s.length := by
  unfold rdLen
  rw [h.cell]
  exact bs_size s
end Go.Proofs.Ytbonmdkfmgahbaa.Lo.Ne
