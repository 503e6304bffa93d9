/- What is written into blocks that are named; a row cut in two. -/
import Derived.Test.YtgcefippeokmcaaTree
namespace Go.Proofs.Ytgcefippeokmcaa
open Go.RowKit

/-- But for the blocks named, what was there is as it was. -/
structure Wr (bs : List Nat) (w w' : World) : Prop where
  os : w'.os = w.os
  tape : w'.tape = w.tape
  output : w'.output = w.output
  size : w.heap.size ≤ w'.heap.size
  block : ∀ k, k < w.heap.size → k ∉ bs → w'.heap[k]? = w.heap[k]?

theorem Wr.refl (bs : List Nat) (w : World) : Wr bs w w := ⟨rfl, rfl, rfl, Nat.le_refl _, fun _ _ _ => rfl⟩
theorem Wr.trans {bs : List Nat} {a b c : World} (h : Wr bs a b) (k : Wr bs b c) : Wr bs a c :=
  ⟨k.os.trans h.os, k.tape.trans h.tape, k.output.trans h.output, Nat.le_trans h.size k.size, fun i hi hc => (k.block i (Nat.lt_of_lt_of_le hi h.size) hc).trans (h.block i hi hc)⟩
theorem Wr.mono {bs cs : List Nat} {a b : World} (h : Wr bs a b) (hs : ∀ x, x ∈ bs → x ∈ cs) : Wr cs a b :=
  ⟨h.os, h.tape, h.output, h.size, fun i hi hc => h.block i hi (fun hm => hc (hs i hm))⟩
theorem Wr.of_below {bs : List Nat} {a b : World} (k : Below a.heap.size a b) : Wr bs a b := ⟨k.os, k.tape, k.output, k.size, fun i hi _ => k.block i hi⟩
theorem Wr.setCell {bs : List Nat} {a b : World} (h : Wr bs a b) {p : Addr} (hp : p.block ∈ bs) (u : Value) : Wr bs a (b.setCell p u) :=
  ⟨h.os, h.tape, h.output, by simpa using h.size, fun i hi hc => (Below.heap_setCell _ _ _ _ (by rintro rfl; exact hc hp)).trans (h.block i hi hc)⟩
theorem Wr.to_below {bs : List Nat} {B : Nat} {a b : World} (h : Wr bs a b) (hB : ∀ x, x ∈ bs → B ≤ x) (hs : B ≤ a.heap.size) : Below B a b :=
  ⟨h.os, h.tape, h.output, h.size, fun k hk => h.block k (by omega) (fun hm => by have := hB k hm; omega)⟩

theorem OwRow.split {w : World} : ∀ (f g : F) (b o : Nat) (bs : List Nat), OwRow w b o (f.app g) bs → ∃ b1 b2, bs = b1 ++ b2 ∧ OwRow w b o f b1 ∧ OwRow w b (o + 6 * f.len) g b2 := by
  intro f
  induction f with
  | nil => intro g b o bs h; exact ⟨[], bs, rfl, rfl, by simpa [F.app, F.len] using h⟩
  | cons lab k fr to ix kids rest ihk ihr =>
    intro g b o bs hr
    obtain ⟨h2, h3, h4, h5, h6, c0, c1, c2, c3, c4, ks, rs, rfl, hs, hrest⟩ := hr
    obtain ⟨b1, b2, rfl, q1, q2⟩ := ihr _ _ _ _ hrest
    exact ⟨ks ++ b1, b2, by rw [List.append_assoc], ⟨h2, h3, h4, h5, h6, c0, c1, c2, c3, c4, ks, b1, rfl, hs, q1⟩, by simp only [F.len]; rw [show o + 6 * (rest.len + 1) = o + 6 + 6 * rest.len by omega]; exact q2⟩

theorem Free.lt_cell {w : World} {b n o : Nat} {v : Value} (h : Free w b n) (hc : w.cell? ⟨b, o, none⟩ = some v) : o < n := by
  obtain ⟨cs, t, hh, hn⟩ := h
  rw [cell_of_heap hh] at hc
  have := (Array.getElem?_eq_some_iff.1 hc).1
  omega

end Go.Proofs.Ytgcefippeokmcaa
