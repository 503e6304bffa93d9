/- Rows of elements of any kind: slices that read as lists. -/
import Derived.Test.YtfppglfajbmapaaDoorTree
namespace Go.Proofs.YtfppglfajbmapaaDoor
open Go.RowKit

theorem still_drew (W : World) : Still W W.drew := fun _ _ h => h

/-- What it is to be an element of a row: how many cells, what they hold. -/
structure El (α : Type) where
  st : Nat
  P : World → Nat → Nat → α → Prop
  still : ∀ {w w' : World}, Still w w' → ∀ {b o : Nat} {x : α}, P w b o x → P w' b o x

variable {α : Type} (E : El α)

/-- The row of elements from a cell on reads as the list. -/
def RowG (w : World) (b : Nat) : Nat → List α → Prop
  | _, [] => True
  | o, x :: r => E.P w b o x ∧ RowG w b (o + E.st) r
/-- A slice reads as the list. -/
def SlG (w : World) (v : Value) (l : List α) : Prop :=
  ∃ a cap, v = .slice a l.length cap ∧ l.length ≤ cap ∧ cap ≤ maxLen ∧ (l = [] ∨ ∃ b o, a = some ⟨b, o, none⟩ ∧ RowG E w b o l)
/-- What is left of a slice's row behind its first k elements. -/
def AtG (w : World) (a : Option Addr) (k : Nat) (g : List α) : Prop := g = [] ∨ ∃ b o, a = some ⟨b, o, none⟩ ∧ RowG E w b (o + k * E.st) g

variable {E}
theorem RowG.still {w w' : World} (h : Still w w') : ∀ {l : List α} {b o : Nat}, RowG E w b o l → RowG E w' b o l
  | [], _, _, _ => trivial
  | _ :: _, _, _, hr => ⟨E.still h hr.1, RowG.still h hr.2⟩
theorem SlG.still {w w' : World} (h : Still w w') {v : Value} {l : List α} (hs : SlG E w v l) : SlG E w' v l := by
  obtain ⟨a, cap, e0, e1, e2, hs⟩ := hs
  refine ⟨a, cap, e0, e1, e2, ?_⟩
  rcases hs with hs | ⟨b', o', e3, e4⟩
  · exact Or.inl hs
  · exact Or.inr ⟨b', o', e3, e4.still h⟩
theorem SlG.nil {w : World} : SlG E w (.slice none 0 0) [] := ⟨none, 0, rfl, Nat.le_refl _, Nat.zero_le _, Or.inl rfl⟩
theorem AtG.still {w w' : World} (h : Still w w') {a : Option Addr} {k : Nat} {g : List α} (hs : AtG E w a k g) : AtG E w' a k g := by
  rcases hs with hs | ⟨b, o, e1, e2⟩
  · exact Or.inl hs
  · exact Or.inr ⟨b, o, e1, e2.still h⟩
theorem SlG.at {w : World} {v : Value} {l : List α} (hs : SlG E w v l) : ∃ a cap, v = .slice a l.length cap ∧ l.length ≤ maxLen ∧ AtG E w a 0 l := by
  obtain ⟨a, cap, rfl, h1, h2, hr⟩ := hs
  refine ⟨a, cap, rfl, Nat.le_trans h1 h2, ?_⟩
  rcases hr with hr | ⟨b, o, e, hr⟩
  · exact Or.inl hr
  · exact Or.inr ⟨b, o, e, by simpa using hr⟩
/-- The first of what is left. -/
theorem AtG.head {w : World} {a : Option Addr} {i : Nat} {x : α} {rest : List α} (h : AtG E w a i (x :: rest)) :
    ∃ b o, a = some ⟨b, o, none⟩ ∧ E.P w b (o + i * E.st) x := by
  rcases h with h | ⟨b, o, rfl, hr⟩
  · cases h
  · exact ⟨b, o, rfl, hr.1⟩
theorem AtG.tail {w : World} {a : Option Addr} {i : Nat} {x : α} {rest : List α} (h : AtG E w a i (x :: rest)) : AtG E w a (i + 1) rest := by
  rcases h with h | ⟨b, o, rfl, hr⟩
  · cases h
  · exact Or.inr ⟨b, o, rfl, by rw [show o + (i + 1) * E.st = o + i * E.st + E.st by rw [Nat.succ_mul]; omega]; exact hr.2⟩
theorem RowG.app {w : World} : ∀ {l : List α} {b o : Nat} {g : List α}, RowG E w b o l → RowG E w b (o + l.length * E.st) g → RowG E w b o (l ++ g)
  | [], _, _, _, _, hg => by simpa using hg
  | x :: l, b, o, g, hr, hg => ⟨hr.1, RowG.app hr.2 (by rw [show o + E.st + l.length * E.st = o + (l.length + 1) * E.st by rw [Nat.succ_mul]; omega]; exact hg)⟩
/-- The element i of what is left. -/
theorem RowG.get {w : World} : ∀ {l : List α} {b o i : Nat} {x : α}, RowG E w b o l → l[i]? = some x → E.P w b (o + i * E.st) x
  | [], _, _, _, _, _, h => by simp at h
  | y :: l, b, o, 0, x, hr, h => by
    obtain rfl : y = x := by simpa using h
    simpa using hr.1
  | y :: l, b, o, i + 1, x, hr, h => by
    have := RowG.get (i := i) hr.2 (by simpa using h)
    rw [show o + (i + 1) * E.st = o + E.st + i * E.st by rw [Nat.succ_mul]; omega]
    exact this
theorem SlG.get {w : World} {a : Option Addr} {n cap : Nat} {l : List α} {i : Nat} {x : α} (h : SlG E w (.slice a n cap) l) (hi : l[i]? = some x) : ∃ b o, a = some ⟨b, o, none⟩ ∧ E.P w b (o + i * E.st) x := by
  obtain ⟨a', c', e, h1, h2, hr⟩ := h
  injection e with e1 e2 e3
  subst e1
  rcases hr with rfl | ⟨b, o, rfl, hr⟩
  · simp at hi
  · exact ⟨b, o, rfl, hr.get hi⟩

/-! ### A row that is being written, of elements with no memory of their own -/

/-- An element that its cells alone decide. -/
def El.Flat (E : El α) : Prop := ∀ {w w' : World} {b o : Nat} {x : α}, (∀ i, i < E.st → w'.cell? ⟨b, o + i, none⟩ = w.cell? ⟨b, o + i, none⟩) → E.P w b o x → E.P w' b o x
theorem RowG.flat (hF : E.Flat) {w w' : World} {b : Nat} : ∀ {l : List α} {o : Nat}, (∀ i, i < l.length * E.st → w'.cell? ⟨b, o + i, none⟩ = w.cell? ⟨b, o + i, none⟩) → RowG E w b o l → RowG E w' b o l
  | [], _, _, _ => trivial
  | x :: l, o, hc, hr => ⟨hF (fun i hi => hc i (by rw [List.length_cons, Nat.succ_mul]; omega)) hr.1,
      RowG.flat hF (fun i hi => by rw [Nat.add_assoc]; exact hc (E.st + i) (by rw [List.length_cons, Nat.succ_mul]; omega)) hr.2⟩
theorem SlG.of_row {w : World} {b o : Nat} {l : List α} {cap : Nat} (h : RowG E w b o l) (h1 : l.length ≤ cap) (h2 : cap ≤ maxLen) : SlG E w (.slice (some ⟨b, o, none⟩) l.length cap) l :=
  ⟨_, _, rfl, h1, h2, Or.inr ⟨b, o, rfl, h⟩⟩

/-- A slice of flat elements in a block of its own. -/
def OwG (E : El α) (w : World) (v : Value) (l : List α) (bs : List Nat) : Prop :=
  ∃ a cap, v = .slice a l.length cap ∧ l.length ≤ cap ∧ cap ≤ maxLen ∧
    ((l = [] ∧ bs = []) ∨ ∃ b n, a = some ⟨b, 0, none⟩ ∧ bs = [b] ∧ Free w b n ∧ l ≠ [] ∧ RowG E w b 0 l)
theorem OwG.sl {w : World} {v : Value} {l : List α} {bs : List Nat} (h : OwG E w v l bs) : SlG E w v l := by
  obtain ⟨a, cap, e0, e1, e2, hs⟩ := h
  refine ⟨a, cap, e0, e1, e2, ?_⟩
  rcases hs with ⟨hs, _⟩ | ⟨b', n, e3, _, _, _, e4⟩
  · exact Or.inl hs
  · exact Or.inr ⟨b', 0, e3, e4⟩
theorem OwG.val {w : World} {v : Value} {l : List α} {bs : List Nat} (h : OwG E w v l bs) : ∃ a cap, v = .slice a l.length cap := by
  obtain ⟨a, cap, e0, _⟩ := h
  exact ⟨a, cap, e0⟩
theorem OwG.lt {w : World} {v : Value} {l : List α} {bs : List Nat} (h : OwG E w v l bs) : ∀ x, x ∈ bs → x < w.heap.size := by
  intro x hx
  obtain ⟨a, cap, e0, e1, e2, hs⟩ := h
  rcases hs with ⟨_, rfl⟩ | ⟨b', n, e3, rfl, hf, _, _⟩
  · simp at hx
  · obtain rfl : x = b' := by simpa using hx
    exact hf.lt
theorem OwG.same (hF : E.Flat) {w w' : World} {v : Value} {l : List α} {bs : List Nat} (h : OwG E w v l bs) (hs : Same w w' bs) : OwG E w' v l bs := by
  obtain ⟨a, cap, e0, e1, e2, h⟩ := h
  refine ⟨a, cap, e0, e1, e2, ?_⟩
  rcases h with h | ⟨b', n, e3, rfl, hf, hne, hr⟩
  · exact Or.inl h
  · have hb' : w'.heap[b']? = w.heap[b']? := hs b' (by simp)
    exact Or.inr ⟨b', n, e3, rfl, hf.same hb', hne, hr.flat hF (fun i _ => Same.cell hb')⟩

/-- Strings. -/
def elS : El ByteArray where
  st := 1
  P w b o s := s.size ≤ maxLen ∧ w.cell? ⟨b, o, none⟩ = some (.string s)
  still h := fun ⟨a, c⟩ => ⟨a, h _ _ c⟩
theorem elS_flat : elS.Flat := fun hc ⟨a, c⟩ => ⟨a, by have := hc 0 (by decide); simpa using this.trans (by simpa using c)⟩
theorem AtS.head {w : World} {a : Option Addr} {i : Nat} {s : ByteArray} {rest : List ByteArray} (h : AtG elS w a i (s :: rest)) :
    ∃ b o, a = some ⟨b, o, none⟩ ∧ s.size ≤ maxLen ∧ w.cell? ⟨b, o + i, none⟩ = some (.string s) := by
  obtain ⟨b, o, e, h1, h2⟩ := h.head
  exact ⟨b, o, e, h1, by simpa [elS] using h2⟩
def wtS : List ByteArray → Nat
  | [] => 0
  | s :: r => s.size + wtS r
theorem wtS_app (g : List ByteArray) : ∀ l : List ByteArray, wtS (l ++ g) = wtS l + wtS g
  | [] => by simp [wtS]
  | n :: r => by simp only [List.cons_append, wtS, wtS_app g r]; omega

/-- A struct of two cells in a box of its own. -/
def Box2 (w : World) (b : Nat) (v0 v1 : Value) : Prop := ∃ t, w.heap[b]? = some (.cells #[v0, v1] t (0, 0))
theorem Box2.same {w w' : World} {b : Nat} {v0 v1 : Value} (h : Box2 w b v0 v1) (e : w'.heap[b]? = w.heap[b]?) : Box2 w' b v0 v1 := by
  obtain ⟨t, h⟩ := h
  exact ⟨t, e.trans h⟩
theorem Box2.lt {w : World} {b : Nat} {v0 v1 : Value} (h : Box2 w b v0 v1) : b < w.heap.size := by
  obtain ⟨t, h⟩ := h
  exact (Array.getElem?_eq_some_iff.1 h).1
theorem Box2.below {w w' : World} {b : Nat} {v0 v1 : Value} (h : Box2 w b v0 v1) (hb : Below w.heap.size w w') : Box2 w' b v0 v1 := h.same (hb.block _ h.lt)
theorem Box2.now (w : World) (v0 v1 : Value) (t : TypeId) : Box2 (w.alloc (.cells #[v0, v1] t)) w.heap.size v0 v1 :=
  ⟨t, by show (w.heap.push _)[w.heap.size]? = _; simp⟩
theorem Box2.cells {w : World} {b : Nat} {v0 v1 : Value} (h : Box2 w b v0 v1) : w.cell? ⟨b, 0, none⟩ = some v0 ∧ w.cell? ⟨b, 1, none⟩ = some v1 := by
  obtain ⟨t, h⟩ := h
  refine ⟨?_, ?_⟩ <;> simp [World.cell?, h]
theorem Box2.frozen {w : World} {b : Nat} {v0 v1 : Value} (h : Box2 w b v0 v1) (o : Nat) : w.frozen? ⟨b, o, none⟩ = false := by
  obtain ⟨t, h⟩ := h
  simp [World.frozen?, h]
theorem Box2.set0 {w : World} {b : Nat} {v0 v1 : Value} (h : Box2 w b v0 v1) (u : Value) : Box2 (w.setCell ⟨b, 0, none⟩ u) b u v1 := by
  obtain ⟨t, h⟩ := h
  exact ⟨t, heap_setCell_same h u⟩
theorem Box2.set1 {w : World} {b : Nat} {v0 v1 : Value} (h : Box2 w b v0 v1) (u : Value) : Box2 (w.setCell ⟨b, 1, none⟩ u) b v0 u := by
  obtain ⟨t, h⟩ := h
  exact ⟨t, heap_setCell_same h u⟩
theorem Box2.setOther {w : World} {b : Nat} {v0 v1 : Value} (h : Box2 w b v0 v1) {p : Addr} (hp : b ≠ p.block) (u : Value) : Box2 (w.setCell p u) b v0 v1 := h.same (Below.heap_setCell _ _ _ _ hp)
theorem Box2.drew {w : World} {b : Nat} {v0 v1 : Value} (h : Box2 w b v0 v1) : Box2 w.drew b v0 v1 := h
end Go.Proofs.YtfppglfajbmapaaDoor
