/- The trees that values of the type Global read as; what it is that a slice of branches reads as a tree, and that it is the call's own. -/
import Derived.Below
import Derived.Laws.World
namespace Go.Proofs.YtfppglfajbmapaaDoor
open Go.RowKit

/-- A fact kept aside. -/
theorem hide {p : Prop} (h : p) : Hid p := h
theorem ret_int {k : IntKind} {a b : Int} (h : a = b) : Ending.returned (.int k a) = .returned (.int k b) := by rw [h]
theorem ret_bool {a b : Bool} (h : a = b) : Ending.returned (.bool a) = .returned (.bool b) := by rw [h]

/-- A list of branches: the label and the fields of the node behind it, the node's own branches, the further branches. -/
inductive F where
  | nil
  | cons (lab : ByteArray) (k : Int) (fr to : ByteArray) (ix : Int) (kids rest : F)

namespace F
/-- How many branches. -/
def len : F → Nat
  | nil => 0
  | cons _ _ _ _ _ _ rest => rest.len + 1
/-- All branches below the outermost ones and the letters of all strings. -/
def wt : F → Nat
  | nil => 0
  | cons lab _ fr to _ kids rest => lab.size + (fr.size + (to.size + (kids.len + kids.wt))) + rest.wt
/-- The number of branches at every depth. -/
def sz : F → Nat
  | nil => 0
  | cons _ _ _ _ _ kids rest => kids.sz + rest.sz + 1
def app : F → F → F
  | nil, g => g
  | cons lab k fr to ix kids rest, g => cons lab k fr to ix kids (rest.app g)
theorem app_nil : ∀ f : F, f.app nil = f
  | nil => rfl
  | cons _ _ _ _ _ _ rest => by rw [app, app_nil rest]
theorem app_assoc (g h : F) : ∀ f : F, (f.app g).app h = f.app (g.app h)
  | nil => rfl
  | cons _ _ _ _ _ _ rest => by simp only [app, app_assoc g h rest]
theorem len_app (g : F) : ∀ f : F, (f.app g).len = f.len + g.len
  | nil => by simp [app, len]
  | cons _ _ _ _ _ _ rest => by simp only [app, len, len_app g rest]; omega
theorem wt_app (g : F) : ∀ f : F, (f.app g).wt = f.wt + g.wt
  | nil => by simp [app, wt]
  | cons _ _ _ _ _ _ rest => by simp only [app, wt, wt_app g rest]; omega
theorem sz_app (g : F) : ∀ f : F, (f.app g).sz = f.sz + g.sz
  | nil => by simp [app, sz]
  | cons _ _ _ _ _ _ rest => by simp only [app, sz, sz_app g rest]; omega
theorem sz_le : ∀ f : F, f.sz ≤ f.len + f.wt
  | nil => Nat.le_refl _
  | cons _ _ _ _ _ kids rest => by have := sz_le kids; have := sz_le rest; simp only [sz, len, wt]; omega
end F

/-- The row of branches from a cell on reads as the list. -/
def Row (w : World) : Nat → Nat → F → Prop
  | _, _, .nil => True
  | b, o, .cons lab k fr to ix kids rest => lab.size ≤ maxLen ∧ fr.size ≤ maxLen ∧ to.size ≤ maxLen ∧
      (Lit.int .i64 k).wf = true ∧ (Lit.int .i64 ix).wf = true ∧
      w.cell? ⟨b, o, none⟩ = some (.string lab) ∧ w.cell? ⟨b, o + 1, none⟩ = some (.int .i64 k) ∧
      w.cell? ⟨b, o + 2, none⟩ = some (.string fr) ∧ w.cell? ⟨b, o + 3, none⟩ = some (.string to) ∧
      w.cell? ⟨b, o + 4, none⟩ = some (.int .i64 ix) ∧
      (∃ a cap, w.cell? ⟨b, o + 5, none⟩ = some (.slice a kids.len cap) ∧ kids.len ≤ cap ∧ cap ≤ maxLen ∧
        (kids = .nil ∨ ∃ b' o', a = some ⟨b', o', none⟩ ∧ Row w b' o' kids)) ∧
      Row w b (o + 6) rest
/-- A slice of branches reads as the list. -/
def Sl (w : World) (v : Value) (f : F) : Prop :=
  ∃ a cap, v = .slice a f.len cap ∧ f.len ≤ cap ∧ cap ≤ maxLen ∧ (f = .nil ∨ ∃ b o, a = some ⟨b, o, none⟩ ∧ Row w b o f)

/-- What a reading of the first world's cells holds, holds in the second. -/
def Still (w w' : World) : Prop := ∀ p v, w.cell? p = some v → w'.cell? p = some v

theorem Still.refl (w : World) : Still w w := fun _ _ h => h
theorem Still.trans {a b c : World} (h : Still a b) (k : Still b c) : Still a c := fun p v e => k p v (h p v e)
theorem Still.of_below {w w' : World} (h : Below w.heap.size w w') : Still w w' := fun p v e => by
  rw [h.cell (World.block_lt_of_cell? _ _ e)]; exact e

theorem Row.still {w w' : World} (h : Still w w') : ∀ (f : F) (b o : Nat), Row w b o f → Row w' b o f := by
  intro f
  induction f with
  | nil => intro b o _; trivial
  | cons lab k fr to ix kids rest ihk ihr =>
    intro b o hr
    obtain ⟨h2, h3, h4, h5, h6, c0, c1, c2, c3, c4, ⟨a, cap, c5, e1, e2, hs⟩, hrest⟩ := hr
    refine ⟨h2, h3, h4, h5, h6, h _ _ c0, h _ _ c1, h _ _ c2, h _ _ c3, h _ _ c4, ⟨a, cap, h _ _ c5, e1, e2, ?_⟩, ihr _ _ hrest⟩
    rcases hs with hs | ⟨b', o', e3, e4⟩
    · exact Or.inl hs
    · exact Or.inr ⟨b', o', e3, ihk _ _ e4⟩

theorem Sl.still {w w' : World} (h : Still w w') {v : Value} {f : F} (hs : Sl w v f) : Sl w' v f := by
  obtain ⟨a, cap, e0, e1, e2, hs⟩ := hs
  refine ⟨a, cap, e0, e1, e2, ?_⟩
  rcases hs with hs | ⟨b', o', e3, e4⟩
  · exact Or.inl hs
  · exact Or.inr ⟨b', o', e3, Row.still h _ _ _ e4⟩

theorem Sl.nil {w : World} : Sl w (.slice none 0 0) .nil := ⟨none, 0, rfl, Nat.le_refl _, Nat.zero_le _, Or.inl rfl⟩

/-- What is left of a slice's row behind its first k elements. -/
def At (w : World) (a : Option Addr) (k : Nat) (g : F) : Prop := g = .nil ∨ ∃ b o, a = some ⟨b, o, none⟩ ∧ Row w b (o + k * 6) g

theorem At.still {w w' : World} (h : Still w w') {a : Option Addr} {k : Nat} {g : F} (hs : At w a k g) : At w' a k g := by
  rcases hs with hs | ⟨b, o, e1, e2⟩
  · exact Or.inl hs
  · exact Or.inr ⟨b, o, e1, Row.still h _ _ _ e2⟩

theorem Sl.at {w : World} {v : Value} {f : F} (hs : Sl w v f) : ∃ a cap, v = .slice a f.len cap ∧ f.len ≤ maxLen ∧ At w a 0 f := by
  obtain ⟨a, cap, rfl, h1, h2, hr⟩ := hs
  refine ⟨a, cap, rfl, Nat.le_trans h1 h2, ?_⟩
  rcases hr with hr | ⟨b, o, e, hr⟩
  · exact Or.inl hr
  · exact Or.inr ⟨b, o, e, by simpa using hr⟩

/-- The first of what is left: its cells, and what is left behind it. -/
theorem At.head {w : World} {a : Option Addr} {i : Nat} {lab : ByteArray} {k : Int} {fr to : ByteArray} {ix : Int} {kids rest : F} (h : At w a i (.cons lab k fr to ix kids rest)) :
    ∃ b o, a = some ⟨b, o, none⟩ ∧ lab.size ≤ maxLen ∧ fr.size ≤ maxLen ∧ to.size ≤ maxLen ∧ (Lit.int .i64 k).wf = true ∧ (Lit.int .i64 ix).wf = true ∧
      w.cell? ⟨b, o + i * 6, none⟩ = some (.string lab) ∧ w.cell? ⟨b, o + i * 6 + 1, none⟩ = some (.int .i64 k) ∧
      w.cell? ⟨b, o + i * 6 + 2, none⟩ = some (.string fr) ∧ w.cell? ⟨b, o + i * 6 + 3, none⟩ = some (.string to) ∧
      w.cell? ⟨b, o + i * 6 + 4, none⟩ = some (.int .i64 ix) ∧ (∃ sv, w.cell? ⟨b, o + i * 6 + 5, none⟩ = some sv ∧ Sl w sv kids) ∧ At w a (i + 1) rest := by
  rcases h with h | ⟨b, o, rfl, hr⟩
  · cases h
  · obtain ⟨h2, h3, h4, h5, h6, c0, c1, c2, c3, c4, ⟨a, cap, c5, e1, e2, hs⟩, hrest⟩ := hr
    exact ⟨b, o, rfl, h2, h3, h4, h5, h6, c0, c1, c2, c3, c4, ⟨_, c5, a, cap, rfl, e1, e2, hs⟩, Or.inr ⟨b, o, rfl, by rw [show o + (i + 1) * 6 = o + i * 6 + 6 by omega]; exact hrest⟩⟩

theorem At.tail {w : World} {a : Option Addr} {i : Nat} {lab : ByteArray} {k : Int} {fr to : ByteArray} {ix : Int} {kids rest : F} (h : At w a i (.cons lab k fr to ix kids rest)) : At w a (i + 1) rest := by
  obtain ⟨_, _, _, _, _, _, _, _, _, _, _, _, _, _, h⟩ := h.head
  exact h

/-! ### Memory of the call's own -/

/-- A block that may be written. -/
def Free (w : World) (b n : Nat) : Prop := ∃ cs t, w.heap[b]? = some (.cells cs t (0, 0)) ∧ cs.size = n

/-- As Row, and the blocks below are named: the blocks of the slices, each named once for each slice. -/
def OwRow (w : World) : Nat → Nat → F → List Nat → Prop
  | _, _, .nil, bs => bs = []
  | b, o, .cons lab k fr to ix kids rest, bs => lab.size ≤ maxLen ∧ fr.size ≤ maxLen ∧ to.size ≤ maxLen ∧
      (Lit.int .i64 k).wf = true ∧ (Lit.int .i64 ix).wf = true ∧
      w.cell? ⟨b, o, none⟩ = some (.string lab) ∧ w.cell? ⟨b, o + 1, none⟩ = some (.int .i64 k) ∧
      w.cell? ⟨b, o + 2, none⟩ = some (.string fr) ∧ w.cell? ⟨b, o + 3, none⟩ = some (.string to) ∧
      w.cell? ⟨b, o + 4, none⟩ = some (.int .i64 ix) ∧
      ∃ ks rs, bs = ks ++ rs ∧
      (∃ a cap, w.cell? ⟨b, o + 5, none⟩ = some (.slice a kids.len cap) ∧ kids.len ≤ cap ∧ cap ≤ maxLen ∧
        ((kids = .nil ∧ ks = []) ∨ ∃ b' n ks', a = some ⟨b', 0, none⟩ ∧ ks = b' :: ks' ∧ Free w b' n ∧ kids ≠ .nil ∧ OwRow w b' 0 kids ks')) ∧
      OwRow w b (o + 6) rest rs
/-- A slice of branches reads as the list, and its blocks are these. -/
def Ow (w : World) (v : Value) (f : F) (bs : List Nat) : Prop :=
  ∃ a cap, v = .slice a f.len cap ∧ f.len ≤ cap ∧ cap ≤ maxLen ∧
    ((f = .nil ∧ bs = []) ∨ ∃ b n bs', a = some ⟨b, 0, none⟩ ∧ bs = b :: bs' ∧ Free w b n ∧ f ≠ .nil ∧ OwRow w b 0 f bs')

theorem OwRow.row {w : World} : ∀ (f : F) (b o : Nat) (bs : List Nat), OwRow w b o f bs → Row w b o f := by
  intro f
  induction f with
  | nil => intro b o bs _; trivial
  | cons lab k fr to ix kids rest ihk ihr =>
    intro b o bs hr
    obtain ⟨h2, h3, h4, h5, h6, c0, c1, c2, c3, c4, ks, rs, _, ⟨a, cap, c5, e1, e2, hs⟩, hrest⟩ := hr
    refine ⟨h2, h3, h4, h5, h6, c0, c1, c2, c3, c4, ⟨a, cap, c5, e1, e2, ?_⟩, ihr _ _ _ hrest⟩
    rcases hs with ⟨hs, _⟩ | ⟨b', n, ks', e3, _, _, _, e4⟩
    · exact Or.inl hs
    · exact Or.inr ⟨b', 0, e3, ihk _ _ _ e4⟩

theorem Ow.sl {w : World} {v : Value} {f : F} {bs : List Nat} (hs : Ow w v f bs) : Sl w v f := by
  obtain ⟨a, cap, e0, e1, e2, hs⟩ := hs
  refine ⟨a, cap, e0, e1, e2, ?_⟩
  rcases hs with ⟨hs, _⟩ | ⟨b', n, ks', e3, _, _, _, e4⟩
  · exact Or.inl hs
  · exact Or.inr ⟨b', 0, e3, OwRow.row _ _ _ _ e4⟩

theorem Ow.val {w : World} {v : Value} {f : F} {bs : List Nat} (hs : Ow w v f bs) : ∃ a cap, v = .slice a f.len cap := by
  obtain ⟨a, cap, e0, _⟩ := hs
  exact ⟨a, cap, e0⟩

/-- Two worlds that hold the same in some blocks. -/
def Same (w w' : World) (bs : List Nat) : Prop := ∀ b, b ∈ bs → w'.heap[b]? = w.heap[b]?

theorem Same.of_below {B : Nat} {w w' : World} (h : Below B w w') {bs : List Nat} (hb : ∀ b, b ∈ bs → b < B) : Same w w' bs := fun b hm => h.block b (hb b hm)
theorem Same.cell {w w' : World} {b o : Nat} (h : w'.heap[b]? = w.heap[b]?) : w'.cell? ⟨b, o, none⟩ = w.cell? ⟨b, o, none⟩ := World.cell?_of_block (w := w) h

theorem Same.refl (w : World) (bs : List Nat) : Same w w bs := fun _ _ => rfl
theorem Same.trans {a b c : World} {bs : List Nat} (h : Same a b bs) (k : Same b c bs) : Same a c bs := fun x hx => (k x hx).trans (h x hx)
theorem Same.setCell {a w : World} {bs : List Nat} (h : Same a w bs) {p : Addr} (hp : ∀ b, b ∈ bs → b ≠ p.block) (u : Value) : Same a (w.setCell p u) bs :=
  fun x hx => (Below.heap_setCell _ _ _ _ (hp x hx)).trans (h x hx)
theorem Same.alloc {a w : World} {bs : List Nat} (h : Same a w bs) (hp : ∀ b, b ∈ bs → b < w.heap.size) (o : Obj) : Same a (w.alloc o) bs :=
  fun x hx => (Below.heap_alloc _ _ _ (hp x hx)).trans (h x hx)
theorem Same.below {B : Nat} {a w w' : World} {bs : List Nat} (h : Same a w bs) (hb : Below B w w') (hp : ∀ b, b ∈ bs → b < B) : Same a w' bs :=
  fun x hx => (hb.block x (hp x hx)).trans (h x hx)

/-- The row's own cells from o on, of so many branches, are the same. -/
theorem OwRow.same {w w' : World} : ∀ (f : F) (b o : Nat) (bs : List Nat), OwRow w b o f bs → (∀ i, i < 6 * f.len → w'.cell? ⟨b, o + i, none⟩ = w.cell? ⟨b, o + i, none⟩) → Same w w' bs → OwRow w' b o f bs := by
  intro f
  induction f with
  | nil => intro b o bs h _ _; exact h
  | cons lab k fr to ix kids rest ihk ihr =>
    intro b o bs hr hc hsame
    obtain ⟨h2, h3, h4, h5, h6, c0, c1, c2, c3, c4, ks, rs, rfl, ⟨a, cap, c5, e1, e2, hs⟩, hrest⟩ := hr
    have q : ∀ i, i < 6 → w'.cell? ⟨b, o + i, none⟩ = w.cell? ⟨b, o + i, none⟩ := fun i hi => hc i (by simp only [F.len]; omega)
    refine ⟨h2, h3, h4, h5, h6, (q 0 (by omega)).trans c0, (q 1 (by omega)).trans c1, (q 2 (by omega)).trans c2, (q 3 (by omega)).trans c3, (q 4 (by omega)).trans c4, ks, rs, rfl, ⟨a, cap, (q 5 (by omega)).trans c5, e1, e2, ?_⟩,
      ihr _ _ _ hrest (fun i hi => by rw [Nat.add_assoc]; exact hc (6 + i) (by simp only [F.len]; omega)) (fun x hx => hsame x (List.mem_append_right _ hx))⟩
    rcases hs with hs | ⟨b', n, ks', e3, rfl, hf, hne, e4⟩
    · exact Or.inl hs
    · have hb' : w'.heap[b']? = w.heap[b']? := hsame b' (by simp)
      refine Or.inr ⟨b', n, ks', e3, rfl, ?_, hne, ihk _ _ _ e4 (fun i _ => Same.cell hb') (fun x hx => hsame x (by simp [hx]))⟩
      obtain ⟨cs, t, hh, hn⟩ := hf
      exact ⟨cs, t, hb'.trans hh, hn⟩

theorem Ow.same {w w' : World} {v : Value} {f : F} {bs : List Nat} (hs : Ow w v f bs) (h : Same w w' bs) : Ow w' v f bs := by
  obtain ⟨a, cap, e0, e1, e2, hs⟩ := hs
  refine ⟨a, cap, e0, e1, e2, ?_⟩
  rcases hs with hs | ⟨b', n, ks', e3, rfl, hf, hne, e4⟩
  · exact Or.inl hs
  · have hb' : w'.heap[b']? = w.heap[b']? := h b' (by simp)
    refine Or.inr ⟨b', n, ks', e3, rfl, ?_, hne, e4.same _ _ _ _ (fun i _ => Same.cell hb') (fun x hx => h x (by simp [hx]))⟩
    obtain ⟨cs, t, hh, hn⟩ := hf
    exact ⟨cs, t, hb'.trans hh, hn⟩

/-- The blocks lie there. -/
theorem OwRow.lt {w : World} : ∀ (f : F) (b o : Nat) (bs : List Nat), OwRow w b o f bs → ∀ x, x ∈ bs → x < w.heap.size := by
  intro f
  induction f with
  | nil => intro b o bs h x hx; cases h; simp at hx
  | cons lab k fr to ix kids rest ihk ihr =>
    intro b o bs hr x hx
    obtain ⟨_, _, _, _, _, _, _, _, _, _, ks, rs, rfl, ⟨a, cap, _, _, _, hs⟩, hrest⟩ := hr
    rcases List.mem_append.1 hx with hx | hx
    · rcases hs with ⟨_, rfl⟩ | ⟨b', n, ks', _, rfl, ⟨cs, t, hh, _⟩, _, e4⟩
      · simp at hx
      · rcases List.mem_cons.1 hx with rfl | hx
        · exact (Array.getElem?_eq_some_iff.1 hh).1
        · exact ihk _ _ _ e4 x hx
    · exact ihr _ _ _ hrest x hx

theorem Ow.lt {w : World} {v : Value} {f : F} {bs : List Nat} (hs : Ow w v f bs) : ∀ x, x ∈ bs → x < w.heap.size := by
  intro x hx
  obtain ⟨a, cap, e0, e1, e2, hs⟩ := hs
  rcases hs with ⟨_, rfl⟩ | ⟨b', n, ks', e3, rfl, ⟨cs, t, hh, _⟩, hne, e4⟩
  · simp at hx
  · rcases List.mem_cons.1 hx with rfl | hx
    · exact (Array.getElem?_eq_some_iff.1 hh).1
    · exact e4.lt _ _ _ _ x hx

theorem OwRow.app {w : World} : ∀ (f g : F) (b o : Nat) (bs cs : List Nat), OwRow w b o f bs → OwRow w b (o + 6 * f.len) g cs → OwRow w b o (f.app g) (bs ++ cs) := by
  intro f
  induction f with
  | nil => intro g b o bs cs h hg; cases h; simpa [F.app, F.len] using hg
  | cons lab k fr to ix kids rest ihk ihr =>
    intro g b o bs cs hr hg
    obtain ⟨h2, h3, h4, h5, h6, c0, c1, c2, c3, c4, ks, rs, rfl, hs, hrest⟩ := hr
    refine ⟨h2, h3, h4, h5, h6, c0, c1, c2, c3, c4, ks, rs ++ cs, by rw [List.append_assoc], hs, ihr _ _ _ _ _ hrest ?_⟩
    rw [show o + 6 + 6 * rest.len = o + 6 * (rest.len + 1) by omega]
    exact hg

theorem alloc_below (w : World) (o : Obj) : Below w.heap.size w (w.alloc o) := (Below.refl _ _).alloc (Nat.le_refl _) o
theorem alloc_then {w w' : World} {o : Obj} (h : Below (w.alloc o).heap.size (w.alloc o) w') : Below w.heap.size w w' :=
  (alloc_below w o).trans (h.mono (by simp))
theorem bcell {W w1 : World} (hb : Below W.heap.size W w1) : (∀ b o, b < W.heap.size → w1.cell? ⟨b, o, none⟩ = W.cell? ⟨b, o, none⟩) ∧ (∀ b o, b < W.heap.size → w1.frozen? ⟨b, o, none⟩ = W.frozen? ⟨b, o, none⟩) :=
  ⟨fun b o h => hb.cell (p := ⟨b, o, none⟩) h, fun b o h => hb.frozen (p := ⟨b, o, none⟩) h⟩

/-- A struct of five cells in a box of its own, behind a call that wrote to no old block. -/
theorem box5 {w w1 : World} {v0 v1 v2 v3 v4 : Value} {t : TypeId} (hb : Below (w.alloc (.cells #[v0, v1, v2, v3, v4] t)).heap.size (w.alloc (.cells #[v0, v1, v2, v3, v4] t)) w1) :
    w1.cell? ⟨w.heap.size, 0, none⟩ = some v0 ∧ w1.cell? ⟨w.heap.size, 1, none⟩ = some v1 ∧ w1.cell? ⟨w.heap.size, 2, none⟩ = some v2 ∧ w1.cell? ⟨w.heap.size, 3, none⟩ = some v3 ∧
    w1.cell? ⟨w.heap.size, 4, none⟩ = some v4 ∧ w.heap.size < w1.heap.size ∧ Below w.heap.size w w1 := by
  have hn : (w.alloc (.cells #[v0, v1, v2, v3, v4] t)).heap[w.heap.size]? = some (.cells #[v0, v1, v2, v3, v4] t (0, 0)) := by
    show (w.heap.push _)[w.heap.size]? = _
    simp
  have hz : w.heap.size < (w.alloc (.cells #[v0, v1, v2, v3, v4] t)).heap.size := by simp
  have h1 : w1.heap[w.heap.size]? = some (.cells #[v0, v1, v2, v3, v4] t (0, 0)) := (hb.block _ hz).trans hn
  have hs := hb.size
  refine ⟨?_, ?_, ?_, ?_, ?_, Nat.lt_of_lt_of_le hz hs, (alloc_below w _).trans (hb.mono (Nat.le_of_lt hz))⟩ <;> simp [World.cell?, h1]

/-- Five cells of a block, and that block's worth behind a call that wrote to no old block. -/
def Box5 (w : World) (b : Nat) (v0 v1 v2 v3 v4 : Value) : Prop := ∃ t, w.heap[b]? = some (.cells #[v0, v1, v2, v3, v4] t (0, 0))
theorem Box5.below {w w' : World} {b : Nat} {v0 v1 v2 v3 v4 : Value} (h : Box5 w b v0 v1 v2 v3 v4) (hb : Below w.heap.size w w') : Box5 w' b v0 v1 v2 v3 v4 := by
  obtain ⟨t, h⟩ := h
  exact ⟨t, (hb.block _ (Array.getElem?_eq_some_iff.1 h).1).trans h⟩
theorem Box5.now (w : World) (v0 v1 v2 v3 v4 : Value) (t : TypeId) : Box5 (w.alloc (.cells #[v0, v1, v2, v3, v4] t)) w.heap.size v0 v1 v2 v3 v4 :=
  ⟨t, by show (w.heap.push _)[w.heap.size]? = _; simp⟩
theorem Box5.lt {w : World} {b : Nat} {v0 v1 v2 v3 v4 : Value} (h : Box5 w b v0 v1 v2 v3 v4) : b < w.heap.size := by
  obtain ⟨t, h⟩ := h
  exact (Array.getElem?_eq_some_iff.1 h).1
theorem Box5.cells {w : World} {b : Nat} {v0 v1 v2 v3 v4 : Value} (h : Box5 w b v0 v1 v2 v3 v4) :
    w.cell? ⟨b, 0, none⟩ = some v0 ∧ w.cell? ⟨b, 1, none⟩ = some v1 ∧ w.cell? ⟨b, 2, none⟩ = some v2 ∧ w.cell? ⟨b, 3, none⟩ = some v3 ∧ w.cell? ⟨b, 4, none⟩ = some v4 := by
  obtain ⟨t, h⟩ := h
  refine ⟨?_, ?_, ?_, ?_, ?_⟩ <;> simp [World.cell?, h]
theorem Box5.drew {w : World} {b : Nat} {v0 v1 v2 v3 v4 : Value} (h : Box5 w b v0 v1 v2 v3 v4) : Box5 w.drew b v0 v1 v2 v3 v4 := h

/-! ### A counter in a block of its own, beside the trees -/

def Ctr (w : World) (c : Nat) (m : Int) : Prop := ∃ t, w.heap[c]? = some (.cells #[.int .i64 m] t (0, 0))
/-- But for block c, what was there is as it was. -/
structure Only (c : Nat) (w w' : World) : Prop where
  os : w'.os = w.os
  tape : w'.tape = w.tape
  output : w'.output = w.output
  size : w.heap.size ≤ w'.heap.size
  block : ∀ k, k < w.heap.size → k ≠ c → w'.heap[k]? = w.heap[k]?

theorem Only.refl (c : Nat) (w : World) : Only c w w := ⟨rfl, rfl, rfl, Nat.le_refl _, fun _ _ _ => rfl⟩
theorem Only.trans {c : Nat} {a b d : World} (h : Only c a b) (k : Only c b d) : Only c a d :=
  ⟨k.os.trans h.os, k.tape.trans h.tape, k.output.trans h.output, Nat.le_trans h.size k.size, fun i hi hc => (k.block i (Nat.lt_of_lt_of_le hi h.size) hc).trans (h.block i hi hc)⟩
theorem Only.below {c : Nat} {a b d : World} (h : Only c a b) (k : Below b.heap.size b d) : Only c a d :=
  h.trans ⟨k.os, k.tape, k.output, k.size, fun i hi _ => k.block i hi⟩
theorem Only.alloc {c : Nat} {a b : World} (h : Only c a b) (o : Obj) : Only c a (b.alloc o) := h.below (alloc_below b o)
theorem Only.setCell {c : Nat} {a b : World} (h : Only c a b) {p : Addr} (hp : p.block = c ∨ a.heap.size ≤ p.block) (u : Value) : Only c a (b.setCell p u) :=
  ⟨h.os, h.tape, h.output, by simpa using h.size, fun i hi hc => (Below.heap_setCell _ _ _ _ (by rcases hp with hp | hp <;> omega)).trans (h.block i hi hc)⟩
theorem Only.drew {c : Nat} {a b : World} (h : Only c a b) : Only c a b.drew := ⟨h.os, h.tape, h.output, h.size, h.block⟩
theorem Only.to_below {c B : Nat} {a b : World} (h : Only c a b) (hB : B ≤ c) (hs : B ≤ a.heap.size) : Below B a b :=
  ⟨h.os, h.tape, h.output, h.size, fun k hk => h.block k (by omega) (by omega)⟩

theorem Ctr.lt {w : World} {c : Nat} {m : Int} (h : Ctr w c m) : c < w.heap.size := by
  obtain ⟨t, h⟩ := h
  exact (Array.getElem?_eq_some_iff.1 h).1
theorem Ctr.cell {w : World} {c : Nat} {m : Int} (h : Ctr w c m) : w.cell? ⟨c, 0, none⟩ = some (.int .i64 m) := by
  obtain ⟨t, h⟩ := h
  simp [World.cell?, h]
theorem Ctr.frozen {w : World} {c : Nat} {m : Int} (h : Ctr w c m) : w.frozen? ⟨c, 0, none⟩ = false := by
  obtain ⟨t, h⟩ := h
  simp [World.frozen?, h]
theorem Ctr.same {w w' : World} {c : Nat} {m : Int} (h : Ctr w c m) (e : w'.heap[c]? = w.heap[c]?) : Ctr w' c m := by
  obtain ⟨t, h⟩ := h
  exact ⟨t, e.trans h⟩
theorem Ctr.below {w w' : World} {c : Nat} {m : Int} (h : Ctr w c m) (hb : Below w.heap.size w w') : Ctr w' c m := h.same (hb.block _ h.lt)
theorem Ctr.alloc {w : World} {c : Nat} {m : Int} (h : Ctr w c m) (o : Obj) : Ctr (w.alloc o) c m := h.below (alloc_below w o)
theorem Ctr.drew {w : World} {c : Nat} {m : Int} (h : Ctr w c m) : Ctr w.drew c m := h
theorem Ctr.set {w : World} {c : Nat} {m : Int} (h : Ctr w c m) (m' : Int) : Ctr (w.setCell ⟨c, 0, none⟩ (.int .i64 m')) c m' := by
  obtain ⟨t, h⟩ := h
  exact ⟨t, by simp [World.setCell, Array.getElem?_modify, h]⟩
theorem Ctr.setOther {w : World} {c : Nat} {m : Int} (h : Ctr w c m) {p : Addr} (hp : c ≠ p.block) (u : Value) : Ctr (w.setCell p u) c m := h.same (Below.heap_setCell _ _ _ _ hp)

/-- No row of branches lies in a counter's block. -/
theorem Row.only {w w' : World} {c : Nat} {m : Int} (hc : Ctr w c m) (h : Only c w w') : ∀ (f : F) (b o : Nat), Row w b o f → Row w' b o f := by
  intro f
  induction f with
  | nil => intro b o _; trivial
  | cons lab k fr to ix kids rest ihk ihr =>
    intro b o hr
    obtain ⟨h2, h3, h4, h5, h6, c0, c1, c2, c3, c4, ⟨a, cap, c5, e1, e2, hs⟩, hrest⟩ := hr
    have hne : b ≠ c := by
      rintro rfl
      obtain ⟨t, hh⟩ := hc
      simp only [World.cell?, hh] at c0 c1
      cases o with
      | zero => simp at c0
      | succ o => simp at c0
    have q : ∀ i v, w.cell? ⟨b, i, none⟩ = some v → w'.cell? ⟨b, i, none⟩ = some v := fun i v e => by
      rw [Same.cell (h.block b (World.block_lt_of_cell? _ _ c0) hne)]; exact e
    refine ⟨h2, h3, h4, h5, h6, q _ _ c0, q _ _ c1, q _ _ c2, q _ _ c3, q _ _ c4, ⟨a, cap, q _ _ c5, e1, e2, ?_⟩, ihr _ _ hrest⟩
    rcases hs with hs | ⟨b', o', e3, e4⟩
    · exact Or.inl hs
    · exact Or.inr ⟨b', o', e3, ihk _ _ e4⟩

theorem Sl.only {w w' : World} {c : Nat} {m : Int} (hc : Ctr w c m) (h : Only c w w') {v : Value} {f : F} (hs : Sl w v f) : Sl w' v f := by
  obtain ⟨a, cap, e0, e1, e2, hs⟩ := hs
  refine ⟨a, cap, e0, e1, e2, ?_⟩
  rcases hs with hs | ⟨b', o', e3, e4⟩
  · exact Or.inl hs
  · exact Or.inr ⟨b', o', e3, Row.only hc h _ _ _ e4⟩
theorem At.only {w w' : World} {c : Nat} {m : Int} (hc : Ctr w c m) (h : Only c w w') {a : Option Addr} {k : Nat} {g : F} (hs : At w a k g) : At w' a k g := by
  rcases hs with hs | ⟨b, o, e1, e2⟩
  · exact Or.inl hs
  · exact Or.inr ⟨b, o, e1, Row.only hc h _ _ _ e2⟩

/-! ### Stores into a block that may be written -/

theorem heap_setCell_same {w : World} {b o : Nat} {cs : Array Value} {t : TypeId} {z : Nat × Nat} (h : w.heap[b]? = some (.cells cs t z)) (v : Value) :
    (w.setCell ⟨b, o, none⟩ v).heap[b]? = some (.cells (cs.setIfInBounds o v) t z) := by
  simp [World.setCell, Array.getElem?_modify, h]

theorem cell_of_heap {w : World} {b o : Nat} {cs : Array Value} {t : TypeId} {z : Nat × Nat} (h : w.heap[b]? = some (.cells cs t z)) : w.cell? ⟨b, o, none⟩ = cs[o]? := by
  simp [World.cell?, h]

theorem Free.cell {w : World} {b n o : Nat} (h : Free w b n) (ho : o < n) : ∃ v, w.cell? ⟨b, o, none⟩ = some v := by
  obtain ⟨cs, t, hh, hn⟩ := h
  rw [cell_of_heap hh]
  exact ⟨_, Array.getElem?_eq_getElem (by omega)⟩
theorem Free.frozen {w : World} {b n o : Nat} (h : Free w b n) : w.frozen? ⟨b, o, none⟩ = false := by
  obtain ⟨cs, t, hh, hn⟩ := h
  simp [World.frozen?, hh]
theorem Free.setCell {w : World} {b n : Nat} (h : Free w b n) (a : Addr) (v : Value) : Free (w.setCell a v) b n := by
  obtain ⟨cs, t, hh, hn⟩ := h
  by_cases hb : b = a.block
  · refine ⟨if a.spot.isSome then cs else cs.setIfInBounds a.off v, t, ?_, by split <;> simp [hn]⟩
    subst hb
    simp [World.setCell, Array.getElem?_modify, hh]
  · exact ⟨cs, t, by rw [Below.heap_setCell _ _ _ _ hb]; exact hh, hn⟩
theorem Free.same {w w' : World} {b n : Nat} (h : Free w b n) (e : w'.heap[b]? = w.heap[b]?) : Free w' b n := by
  obtain ⟨cs, t, hh, hn⟩ := h
  exact ⟨cs, t, e.trans hh, hn⟩
theorem Free.lt {w : World} {b n : Nat} (h : Free w b n) : b < w.heap.size := by
  obtain ⟨cs, t, hh, hn⟩ := h
  exact (Array.getElem?_eq_some_iff.1 hh).1
theorem Free.below {w w' : World} {b n : Nat} (h : Free w b n) (hb : Below w.heap.size w w') : Free w' b n := h.same (hb.block _ h.lt)

/-- Six cells in a row. -/
def set6 (w : World) (b o : Nat) (v0 v1 v2 v3 v4 v5 : Value) : World :=
  (((((w.setCell ⟨b, o, none⟩ v0).setCell ⟨b, o + 1, none⟩ v1).setCell ⟨b, o + 2, none⟩ v2).setCell ⟨b, o + 3, none⟩ v3).setCell ⟨b, o + 4, none⟩ v4).setCell ⟨b, o + 5, none⟩ v5

theorem set6_other (w : World) (b o : Nat) (v0 v1 v2 v3 v4 v5 : Value) (x : Nat) (hx : x ≠ b) : (set6 w b o v0 v1 v2 v3 v4 v5).heap[x]? = w.heap[x]? := by
  unfold set6
  repeat rw [Below.heap_setCell _ _ _ _ hx]
theorem set6_below {B : Nat} {a w : World} (h : Below B a w) (b o : Nat) (hb : B ≤ b) (v0 v1 v2 v3 v4 v5 : Value) : Below B a (set6 w b o v0 v1 v2 v3 v4 v5) := by
  unfold set6
  exact (((((h.setCell hb v0).setCell hb v1).setCell hb v2).setCell hb v3).setCell hb v4).setCell hb v5
theorem set6_heap {w : World} {b n : Nat} (h : Free w b n) (o : Nat) (ho : o + 6 ≤ n) (v0 v1 v2 v3 v4 v5 : Value) :
    (∀ off, off < o ∨ o + 6 ≤ off → (set6 w b o v0 v1 v2 v3 v4 v5).cell? ⟨b, off, none⟩ = w.cell? ⟨b, off, none⟩) ∧
    (set6 w b o v0 v1 v2 v3 v4 v5).cell? ⟨b, o, none⟩ = some v0 ∧ (set6 w b o v0 v1 v2 v3 v4 v5).cell? ⟨b, o + 1, none⟩ = some v1 ∧
    (set6 w b o v0 v1 v2 v3 v4 v5).cell? ⟨b, o + 2, none⟩ = some v2 ∧ (set6 w b o v0 v1 v2 v3 v4 v5).cell? ⟨b, o + 3, none⟩ = some v3 ∧
    (set6 w b o v0 v1 v2 v3 v4 v5).cell? ⟨b, o + 4, none⟩ = some v4 ∧ (set6 w b o v0 v1 v2 v3 v4 v5).cell? ⟨b, o + 5, none⟩ = some v5 ∧
    Free (set6 w b o v0 v1 v2 v3 v4 v5) b n := by
  obtain ⟨cs, t, hh, hn⟩ := h
  have key : (set6 w b o v0 v1 v2 v3 v4 v5).heap[b]? = some (.cells ((((((cs.setIfInBounds o v0).setIfInBounds (o + 1) v1).setIfInBounds (o + 2) v2).setIfInBounds (o + 3) v3).setIfInBounds (o + 4) v4).setIfInBounds (o + 5) v5) t (0, 0)) :=
    heap_setCell_same (heap_setCell_same (heap_setCell_same (heap_setCell_same (heap_setCell_same (heap_setCell_same hh _) _) _) _) _) _
  refine ⟨fun off hoff => ?_, ?_, ?_, ?_, ?_, ?_, ?_, _, t, key, by simp [hn]⟩
  · rw [cell_of_heap key, cell_of_heap hh]
    simp only [Array.getElem?_setIfInBounds]
    repeat rw [if_neg (by omega)]
  all_goals
    rw [cell_of_heap key]
    simp [Array.getElem?_setIfInBounds]
    omega

end Go.Proofs.YtfppglfajbmapaaDoor
