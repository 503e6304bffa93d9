/- What a writer to a builder keeps. -/
import Derived.Test.YtfppglfajbmapaaDoorTree
import Derived.Shelf.Strings.BuilderK
import Derived.Lib.BufferKept
import Derived.Lib.OthersKept
namespace Go.Proofs.YtfppglfajbmapaaDoor
open Go.RowKit

/-- What lay below B is as it was, and so is every block that is neither the builder's nor a row of bytes. -/
structure Kp (B bb : Nat) (a b : World) : Prop where
  below : Below B a b
  others : Lib.OthersKept ( /- t -/ 5) (some bb) a b
theorem Kp.refl (B bb : Nat) (a : World) : Kp B bb a a := ⟨Below.refl _ _, Lib.OthersKept.refl _ _ _⟩
theorem Kp.trans {B bb : Nat} {a b c : World} (h : Kp B bb a b) (k : Kp B bb b c) : Kp B bb a c := ⟨h.below.trans k.below, h.others.trans k.others⟩
theorem Kp.of_below {B bb : Nat} {a b c : World} (h : Kp B bb a b) (hB : B ≤ b.heap.size) (k : Below b.heap.size b c) : Kp B bb a c := ⟨h.below.trans (k.mono hB), h.others.below k⟩
theorem Kp.drew {B bb : Nat} {a b : World} (h : Kp B bb a b) : Kp B bb a b.drew := ⟨h.below.drew, h.others.drew⟩
theorem Kp.alloc {B bb : Nat} {a b : World} (h : Kp B bb a b) (hB : B ≤ b.heap.size) (o : Obj) : Kp B bb a (b.alloc o) := h.of_below hB (alloc_below _ _)
/-- A block that is not the builder's and no row of bytes is as it was. -/
theorem Kp.cells {B bb : Nat} {a b : World} (h : Kp B bb a b) {k : Nat} {cs : Array Value} {t : TypeId} {z : Nat × Nat} (hk : a.heap[k]? = some (.cells cs t z)) (hb : k ≠ bb) (ht : t ≠ ( /- t -/ 5)) : b.heap[k]? = some (.cells cs t z) :=
  h.others k _ hk (fun e => hb (by injection e)) (fun c fz e => ht (by injection e))

/-- A builder stays one where what was there is as it was. -/
theorem bu_below {B bb : Nat} {bs : List Value} {a b : World} (h : Lib.IsBuilderF ( /- t -/ 83) ( /- t -/ 5) B bb bs a) (k : Below a.heap.size a b) : Lib.IsBuilderF ( /- t -/ 83) ( /- t -/ 5) B bb bs b := by
  rcases h with h | h
  · obtain ⟨h1, v, h2, h3, h4⟩ := h
    have hl := (Array.getElem?_eq_some_iff.1 h2).1
    exact Or.inl ⟨h1, v, by rw [k.block bb hl]; exact h2, World.ownsRowF.kept h3 (row := none) ⟨k.os, k.tape, k.output, k.size, fun i hi _ => k.block i hi⟩ (Classical.em _), h4⟩
  · obtain ⟨h1, v, h2, h3, h4⟩ := h
    have hl := (Array.getElem?_eq_some_iff.1 h2).1
    exact Or.inr ⟨h1, v, by rw [k.block bb hl]; exact h2, World.ownsRowF.kept h3 (row := none) ⟨k.os, k.tape, k.output, k.size, fun i hi _ => k.block i hi⟩ (Classical.em _), h4⟩

end Go.Proofs.YtfppglfajbmapaaDoor
