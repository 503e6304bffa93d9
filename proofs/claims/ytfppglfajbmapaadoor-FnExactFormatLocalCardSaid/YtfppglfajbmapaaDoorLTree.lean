/- The trees that values of the type Local read as; what it is that a slice of branches reads as a tree, and that it is the call's own. -/
import Derived.Test.YtfppglfajbmapaaDoorTree
namespace Go.Proofs.YtfppglfajbmapaaDoor.Lo
open Go.RowKit

/-- A list of branches: the label and the fields of the node behind it, the node's own branches, the further branches. -/
inductive F where
  | nil
  | cons (lab : ByteArray) (k : Int) (fr : ByteArray) (ix : Int) (kids rest : F)

namespace F
/-- How many branches. -/
def len : F → Nat
  | nil => 0
  | cons _ _ _ _ _ rest => rest.len + 1
/-- All branches below the outermost ones and the letters of all strings. -/
def wt : F → Nat
  | nil => 0
  | cons lab _ fr _ kids rest => lab.size + (fr.size + (kids.len + kids.wt)) + rest.wt
/-- The number of branches at every depth. -/
def sz : F → Nat
  | nil => 0
  | cons _ _ _ _ kids rest => kids.sz + rest.sz + 1
def app : F → F → F
  | nil, g => g
  | cons lab k fr ix kids rest, g => cons lab k fr ix kids (rest.app g)
theorem app_nil : ∀ f : F, f.app nil = f
  | nil => rfl
  | cons _ _ _ _ _ rest => by rw [app, app_nil rest]
theorem app_assoc (g h : F) : ∀ f : F, (f.app g).app h = f.app (g.app h)
  | nil => rfl
  | cons _ _ _ _ _ rest => by simp only [app, app_assoc g h rest]
theorem len_app (g : F) : ∀ f : F, (f.app g).len = f.len + g.len
  | nil => by simp [app, len]
  | cons _ _ _ _ _ rest => by simp only [app, len, len_app g rest]; omega
theorem wt_app (g : F) : ∀ f : F, (f.app g).wt = f.wt + g.wt
  | nil => by simp [app, wt]
  | cons _ _ _ _ _ rest => by simp only [app, wt, wt_app g rest]; omega
theorem sz_app (g : F) : ∀ f : F, (f.app g).sz = f.sz + g.sz
  | nil => by simp [app, sz]
  | cons _ _ _ _ _ rest => by simp only [app, sz, sz_app g rest]; omega
theorem sz_le : ∀ f : F, f.sz ≤ f.len + f.wt
  | nil => Nat.le_refl _
  | cons _ _ _ _ kids rest => by have := sz_le kids; have := sz_le rest; simp only [sz, len, wt]; omega
end F

/-- The row of branches from a cell on reads as the list. -/
def Row (w : World) : Nat → Nat → F → Prop
  | _, _, .nil => True
  | b, o, .cons lab k fr ix kids rest => lab.size ≤ maxLen ∧ fr.size ≤ maxLen ∧
      (Lit.int .i64 k).wf = true ∧ (Lit.int .i64 ix).wf = true ∧
      w.cell? ⟨b, o, none⟩ = some (.string lab) ∧ w.cell? ⟨b, o + 1, none⟩ = some (.int .i64 k) ∧
      w.cell? ⟨b, o + 2, none⟩ = some (.string fr) ∧
      w.cell? ⟨b, o + 3, none⟩ = some (.int .i64 ix) ∧
      (∃ a cap, w.cell? ⟨b, o + 4, none⟩ = some (.slice a kids.len cap) ∧ kids.len ≤ cap ∧ cap ≤ maxLen ∧
        (kids = .nil ∨ ∃ b' o', a = some ⟨b', o', none⟩ ∧ Row w b' o' kids)) ∧
      Row w b (o + 5) rest
/-- A slice of branches reads as the list. -/
def Sl (w : World) (v : Value) (f : F) : Prop :=
  ∃ a cap, v = .slice a f.len cap ∧ f.len ≤ cap ∧ cap ≤ maxLen ∧ (f = .nil ∨ ∃ b o, a = some ⟨b, o, none⟩ ∧ Row w b o f)

theorem Row.still {w w' : World} (h : Still w w') : ∀ (f : F) (b o : Nat), Row w b o f → Row w' b o f := by
  intro f
  induction f with
  | nil => intro b o _; trivial
  | cons lab k fr ix kids rest ihk ihr =>
    intro b o hr
    obtain ⟨h2, h3, h5, h6, c0, c1, c2, c3, ⟨a, cap, c4, e1, e2, hs⟩, hrest⟩ := hr
    refine ⟨h2, h3, h5, h6, h _ _ c0, h _ _ c1, h _ _ c2, h _ _ c3, ⟨a, cap, h _ _ c4, e1, e2, ?_⟩, ihr _ _ hrest⟩
    rcases hs with hs | ⟨b', o', e3, e4⟩
    · exact Or.inl hs
    · exact Or.inr ⟨b', o', e3, ihk _ _ e4⟩

theorem Sl.still {w w' : World} (h : Still w w') {v : Value} {f : F} (hs : Sl w v f) : Sl w' v f := by
  obtain ⟨a, cap, e0, e1, e2, hs⟩ := hs
  refine ⟨a, cap, e0, e1, e2, ?_⟩
  rcases hs with hs | ⟨b', o', e3, e4⟩
  · exact Or.inl hs
  · exact Or.inr ⟨b', o', e3, Row.still h _ _ _ e4⟩

theorem Sl.nil {w : World} : Sl w (.slice none 0 0) .nil := ⟨none, 0, rfl, Nat.le_refl _, Nat.zero_le _, Or.inl rfl⟩

/-- What is left of a slice's row behind its first k elements. -/
def At (w : World) (a : Option Addr) (k : Nat) (g : F) : Prop := g = .nil ∨ ∃ b o, a = some ⟨b, o, none⟩ ∧ Row w b (o + k * 5) g

theorem At.still {w w' : World} (h : Still w w') {a : Option Addr} {k : Nat} {g : F} (hs : At w a k g) : At w' a k g := by
  rcases hs with hs | ⟨b, o, e1, e2⟩
  · exact Or.inl hs
  · exact Or.inr ⟨b, o, e1, Row.still h _ _ _ e2⟩

theorem Sl.at {w : World} {v : Value} {f : F} (hs : Sl w v f) : ∃ a cap, v = .slice a f.len cap ∧ f.len ≤ maxLen ∧ At w a 0 f := by
  obtain ⟨a, cap, rfl, h1, h2, hr⟩ := hs
  refine ⟨a, cap, rfl, Nat.le_trans h1 h2, ?_⟩
  rcases hr with hr | ⟨b, o, e, hr⟩
  · exact Or.inl hr
  · exact Or.inr ⟨b, o, e, by simpa using hr⟩

/-- The first of what is left: its cells, and what is left behind it. -/
theorem At.head {w : World} {a : Option Addr} {i : Nat} {lab : ByteArray} {k : Int} {fr : ByteArray} {ix : Int} {kids rest : F} (h : At w a i (.cons lab k fr ix kids rest)) :
    ∃ b o, a = some ⟨b, o, none⟩ ∧ lab.size ≤ maxLen ∧ fr.size ≤ maxLen ∧ (Lit.int .i64 k).wf = true ∧ (Lit.int .i64 ix).wf = true ∧
      w.cell? ⟨b, o + i * 5, none⟩ = some (.string lab) ∧ w.cell? ⟨b, o + i * 5 + 1, none⟩ = some (.int .i64 k) ∧
      w.cell? ⟨b, o + i * 5 + 2, none⟩ = some (.string fr) ∧
      w.cell? ⟨b, o + i * 5 + 3, none⟩ = some (.int .i64 ix) ∧ (∃ sv, w.cell? ⟨b, o + i * 5 + 4, none⟩ = some sv ∧ Sl w sv kids) ∧ At w a (i + 1) rest := by
  rcases h with h | ⟨b, o, rfl, hr⟩
  · cases h
  · obtain ⟨h2, h3, h5, h6, c0, c1, c2, c3, ⟨a, cap, c4, e1, e2, hs⟩, hrest⟩ := hr
    exact ⟨b, o, rfl, h2, h3, h5, h6, c0, c1, c2, c3, ⟨_, c4, a, cap, rfl, e1, e2, hs⟩, Or.inr ⟨b, o, rfl, by rw [show o + (i + 1) * 5 = o + i * 5 + 5 by omega]; exact hrest⟩⟩

theorem At.tail {w : World} {a : Option Addr} {i : Nat} {lab : ByteArray} {k : Int} {fr : ByteArray} {ix : Int} {kids rest : F} (h : At w a i (.cons lab k fr ix kids rest)) : At w a (i + 1) rest := by
  obtain ⟨_, _, _, _, _, _, _, _, _, _, _, _, h⟩ := h.head
  exact h

/-- As Row, and the blocks below are named: the blocks of the slices, each named once for each slice. -/
def OwRow (w : World) : Nat → Nat → F → List Nat → Prop
  | _, _, .nil, bs => bs = []
  | b, o, .cons lab k fr ix kids rest, bs => lab.size ≤ maxLen ∧ fr.size ≤ maxLen ∧
      (Lit.int .i64 k).wf = true ∧ (Lit.int .i64 ix).wf = true ∧
      w.cell? ⟨b, o, none⟩ = some (.string lab) ∧ w.cell? ⟨b, o + 1, none⟩ = some (.int .i64 k) ∧
      w.cell? ⟨b, o + 2, none⟩ = some (.string fr) ∧
      w.cell? ⟨b, o + 3, none⟩ = some (.int .i64 ix) ∧
      ∃ ks rs, bs = ks ++ rs ∧
      (∃ a cap, w.cell? ⟨b, o + 4, none⟩ = some (.slice a kids.len cap) ∧ kids.len ≤ cap ∧ cap ≤ maxLen ∧
        ((kids = .nil ∧ ks = []) ∨ ∃ b' n ks', a = some ⟨b', 0, none⟩ ∧ ks = b' :: ks' ∧ Free w b' n ∧ kids ≠ .nil ∧ OwRow w b' 0 kids ks')) ∧
      OwRow w b (o + 5) rest rs
/-- A slice of branches reads as the list, and its blocks are these. -/
def Ow (w : World) (v : Value) (f : F) (bs : List Nat) : Prop :=
  ∃ a cap, v = .slice a f.len cap ∧ f.len ≤ cap ∧ cap ≤ maxLen ∧
    ((f = .nil ∧ bs = []) ∨ ∃ b n bs', a = some ⟨b, 0, none⟩ ∧ bs = b :: bs' ∧ Free w b n ∧ f ≠ .nil ∧ OwRow w b 0 f bs')

theorem OwRow.row {w : World} : ∀ (f : F) (b o : Nat) (bs : List Nat), OwRow w b o f bs → Row w b o f := by
  intro f
  induction f with
  | nil => intro b o bs _; trivial
  | cons lab k fr ix kids rest ihk ihr =>
    intro b o bs hr
    obtain ⟨h2, h3, h5, h6, c0, c1, c2, c3, ks, rs, _, ⟨a, cap, c4, e1, e2, hs⟩, hrest⟩ := hr
    refine ⟨h2, h3, h5, h6, c0, c1, c2, c3, ⟨a, cap, c4, e1, e2, ?_⟩, ihr _ _ _ hrest⟩
    rcases hs with ⟨hs, _⟩ | ⟨b', n, ks', e3, _, _, _, e4⟩
    · exact Or.inl hs
    · exact Or.inr ⟨b', 0, e3, ihk _ _ _ e4⟩

theorem Ow.sl {w : World} {v : Value} {f : F} {bs : List Nat} (hs : Ow w v f bs) : Sl w v f := by
  obtain ⟨a, cap, e0, e1, e2, hs⟩ := hs
  refine ⟨a, cap, e0, e1, e2, ?_⟩
  rcases hs with ⟨hs, _⟩ | ⟨b', n, ks', e3, _, _, _, e4⟩
  · exact Or.inl hs
  · exact Or.inr ⟨b', 0, e3, OwRow.row _ _ _ _ e4⟩

theorem Ow.val {w : World} {v : Value} {f : F} {bs : List Nat} (hs : Ow w v f bs) : ∃ a cap, v = .slice a f.len cap := by
  obtain ⟨a, cap, e0, _⟩ := hs
  exact ⟨a, cap, e0⟩

/-- The row's own cells from o on, of so many branches, are the same. -/
theorem OwRow.same {w w' : World} : ∀ (f : F) (b o : Nat) (bs : List Nat), OwRow w b o f bs → (∀ i, i < 5 * f.len → w'.cell? ⟨b, o + i, none⟩ = w.cell? ⟨b, o + i, none⟩) → Same w w' bs → OwRow w' b o f bs := by
  intro f
  induction f with
  | nil => intro b o bs h _ _; exact h
  | cons lab k fr ix kids rest ihk ihr =>
    intro b o bs hr hc hsame
    obtain ⟨h2, h3, h5, h6, c0, c1, c2, c3, ks, rs, rfl, ⟨a, cap, c4, e1, e2, hs⟩, hrest⟩ := hr
    have q : ∀ i, i < 5 → w'.cell? ⟨b, o + i, none⟩ = w.cell? ⟨b, o + i, none⟩ := fun i hi => hc i (by simp only [F.len]; omega)
    refine ⟨h2, h3, h5, h6, (q 0 (by omega)).trans c0, (q 1 (by omega)).trans c1, (q 2 (by omega)).trans c2, (q 3 (by omega)).trans c3, ks, rs, rfl, ⟨a, cap, (q 4 (by omega)).trans c4, e1, e2, ?_⟩,
      ihr _ _ _ hrest (fun i hi => by rw [Nat.add_assoc]; exact hc (5 + i) (by simp only [F.len]; omega)) (fun x hx => hsame x (List.mem_append_right _ hx))⟩
    rcases hs with hs | ⟨b', n, ks', e3, rfl, hf, hne, e4⟩
    · exact Or.inl hs
    · have hb' : w'.heap[b']? = w.heap[b']? := hsame b' (by simp)
      refine Or.inr ⟨b', n, ks', e3, rfl, ?_, hne, ihk _ _ _ e4 (fun i _ => Same.cell hb') (fun x hx => hsame x (by simp [hx]))⟩
      obtain ⟨cs, t, hh, hn⟩ := hf
      exact ⟨cs, t, hb'.trans hh, hn⟩

theorem Ow.same {w w' : World} {v : Value} {f : F} {bs : List Nat} (hs : Ow w v f bs) (h : Same w w' bs) : Ow w' v f bs := by
  obtain ⟨a, cap, e0, e1, e2, hs⟩ := hs
  refine ⟨a, cap, e0, e1, e2, ?_⟩
  rcases hs with hs | ⟨b', n, ks', e3, rfl, hf, hne, e4⟩
  · exact Or.inl hs
  · have hb' : w'.heap[b']? = w.heap[b']? := h b' (by simp)
    refine Or.inr ⟨b', n, ks', e3, rfl, ?_, hne, e4.same _ _ _ _ (fun i _ => Same.cell hb') (fun x hx => h x (by simp [hx]))⟩
    obtain ⟨cs, t, hh, hn⟩ := hf
    exact ⟨cs, t, hb'.trans hh, hn⟩

/-- The blocks lie there. -/
theorem OwRow.lt {w : World} : ∀ (f : F) (b o : Nat) (bs : List Nat), OwRow w b o f bs → ∀ x, x ∈ bs → x < w.heap.size := by
  intro f
  induction f with
  | nil => intro b o bs h x hx; cases h; simp at hx
  | cons lab k fr ix kids rest ihk ihr =>
    intro b o bs hr x hx
    obtain ⟨_, _, _, _, _, _, _, _, ks, rs, rfl, ⟨a, cap, _, _, _, hs⟩, hrest⟩ := hr
    rcases List.mem_append.1 hx with hx | hx
    · rcases hs with ⟨_, rfl⟩ | ⟨b', n, ks', _, rfl, ⟨cs, t, hh, _⟩, _, e4⟩
      · simp at hx
      · rcases List.mem_cons.1 hx with rfl | hx
        · exact (Array.getElem?_eq_some_iff.1 hh).1
        · exact ihk _ _ _ e4 x hx
    · exact ihr _ _ _ hrest x hx

theorem Ow.lt {w : World} {v : Value} {f : F} {bs : List Nat} (hs : Ow w v f bs) : ∀ x, x ∈ bs → x < w.heap.size := by
  intro x hx
  obtain ⟨a, cap, e0, e1, e2, hs⟩ := hs
  rcases hs with ⟨_, rfl⟩ | ⟨b', n, ks', e3, rfl, ⟨cs, t, hh, _⟩, hne, e4⟩
  · simp at hx
  · rcases List.mem_cons.1 hx with rfl | hx
    · exact (Array.getElem?_eq_some_iff.1 hh).1
    · exact e4.lt _ _ _ _ x hx

theorem OwRow.app {w : World} : ∀ (f g : F) (b o : Nat) (bs cs : List Nat), OwRow w b o f bs → OwRow w b (o + 5 * f.len) g cs → OwRow w b o (f.app g) (bs ++ cs) := by
  intro f
  induction f with
  | nil => intro g b o bs cs h hg; cases h; simpa [F.app, F.len] using hg
  | cons lab k fr ix kids rest ihk ihr =>
    intro g b o bs cs hr hg
    obtain ⟨h2, h3, h5, h6, c0, c1, c2, c3, ks, rs, rfl, hs, hrest⟩ := hr
    refine ⟨h2, h3, h5, h6, c0, c1, c2, c3, ks, rs ++ cs, by rw [List.append_assoc], hs, ihr _ _ _ _ _ hrest ?_⟩
    rw [show o + 5 + 5 * rest.len = o + 5 * (rest.len + 1) by omega]
    exact hg

/-- No row of branches lies in a counter's block. -/
theorem Row.only {w w' : World} {c : Nat} {m : Int} (hc : Ctr w c m) (h : Only c w w') : ∀ (f : F) (b o : Nat), Row w b o f → Row w' b o f := by
  intro f
  induction f with
  | nil => intro b o _; trivial
  | cons lab k fr ix kids rest ihk ihr =>
    intro b o hr
    obtain ⟨h2, h3, h5, h6, c0, c1, c2, c3, ⟨a, cap, c4, e1, e2, hs⟩, hrest⟩ := hr
    have hne : b ≠ c := by
      rintro rfl
      obtain ⟨t, hh⟩ := hc
      simp only [World.cell?, hh] at c0 c1
      cases o with
      | zero => simp at c0
      | succ o => simp at c0
    have q : ∀ i v, w.cell? ⟨b, i, none⟩ = some v → w'.cell? ⟨b, i, none⟩ = some v := fun i v e => by
      rw [Same.cell (h.block b (World.block_lt_of_cell? _ _ c0) hne)]; exact e
    refine ⟨h2, h3, h5, h6, q _ _ c0, q _ _ c1, q _ _ c2, q _ _ c3, ⟨a, cap, q _ _ c4, e1, e2, ?_⟩, ihr _ _ hrest⟩
    rcases hs with hs | ⟨b', o', e3, e4⟩
    · exact Or.inl hs
    · exact Or.inr ⟨b', o', e3, ihk _ _ e4⟩

theorem Sl.only {w w' : World} {c : Nat} {m : Int} (hc : Ctr w c m) (h : Only c w w') {v : Value} {f : F} (hs : Sl w v f) : Sl w' v f := by
  obtain ⟨a, cap, e0, e1, e2, hs⟩ := hs
  refine ⟨a, cap, e0, e1, e2, ?_⟩
  rcases hs with hs | ⟨b', o', e3, e4⟩
  · exact Or.inl hs
  · exact Or.inr ⟨b', o', e3, Row.only hc h _ _ _ e4⟩
theorem At.only {w w' : World} {c : Nat} {m : Int} (hc : Ctr w c m) (h : Only c w w') {a : Option Addr} {k : Nat} {g : F} (hs : At w a k g) : At w' a k g := by
  rcases hs with hs | ⟨b, o, e1, e2⟩
  · exact Or.inl hs
  · exact Or.inr ⟨b, o, e1, Row.only hc h _ _ _ e2⟩

/-- Five cells in a row. -/
def set5 (w : World) (b o : Nat) (v0 v1 v2 v3 v4 : Value) : World :=
  ((((w.setCell ⟨b, o, none⟩ v0).setCell ⟨b, o + 1, none⟩ v1).setCell ⟨b, o + 2, none⟩ v2).setCell ⟨b, o + 3, none⟩ v3).setCell ⟨b, o + 4, none⟩ v4

theorem set5_other (w : World) (b o : Nat) (v0 v1 v2 v3 v4 : Value) (x : Nat) (hx : x ≠ b) : (set5 w b o v0 v1 v2 v3 v4).heap[x]? = w.heap[x]? := by
  unfold set5
  repeat rw [Below.heap_setCell _ _ _ _ hx]
theorem set5_below {B : Nat} {a w : World} (h : Below B a w) (b o : Nat) (hb : B ≤ b) (v0 v1 v2 v3 v4 : Value) : Below B a (set5 w b o v0 v1 v2 v3 v4) := by
  unfold set5
  exact ((((h.setCell hb v0).setCell hb v1).setCell hb v2).setCell hb v3).setCell hb v4
theorem set5_heap {w : World} {b n : Nat} (h : Free w b n) (o : Nat) (ho : o + 5 ≤ n) (v0 v1 v2 v3 v4 : Value) :
    (∀ off, off < o ∨ o + 5 ≤ off → (set5 w b o v0 v1 v2 v3 v4).cell? ⟨b, off, none⟩ = w.cell? ⟨b, off, none⟩) ∧
    (set5 w b o v0 v1 v2 v3 v4).cell? ⟨b, o, none⟩ = some v0 ∧ (set5 w b o v0 v1 v2 v3 v4).cell? ⟨b, o + 1, none⟩ = some v1 ∧
    (set5 w b o v0 v1 v2 v3 v4).cell? ⟨b, o + 2, none⟩ = some v2 ∧ (set5 w b o v0 v1 v2 v3 v4).cell? ⟨b, o + 3, none⟩ = some v3 ∧
    (set5 w b o v0 v1 v2 v3 v4).cell? ⟨b, o + 4, none⟩ = some v4 ∧ Free (set5 w b o v0 v1 v2 v3 v4) b n := by
  obtain ⟨cs, t, hh, hn⟩ := h
  have key : (set5 w b o v0 v1 v2 v3 v4).heap[b]? = some (.cells (((((cs.setIfInBounds o v0).setIfInBounds (o + 1) v1).setIfInBounds (o + 2) v2).setIfInBounds (o + 3) v3).setIfInBounds (o + 4) v4) t (0, 0)) :=
    heap_setCell_same (heap_setCell_same (heap_setCell_same (heap_setCell_same (heap_setCell_same hh _) _) _) _) _
  refine ⟨fun off hoff => ?_, ?_, ?_, ?_, ?_, ?_, _, t, key, by simp [hn]⟩
  · rw [cell_of_heap key, cell_of_heap hh]
    simp only [Array.getElem?_setIfInBounds]
    repeat rw [if_neg (by omega)]
  all_goals
    rw [cell_of_heap key]
    simp [Array.getElem?_setIfInBounds]
    omega

/-- A struct of four cells in a box of its own. -/
def Box4 (w : World) (b : Nat) (v0 v1 v2 v3 : Value) : Prop := ∃ t, w.heap[b]? = some (.cells #[v0, v1, v2, v3] t (0, 0))
theorem Box4.below {w w' : World} {b : Nat} {v0 v1 v2 v3 : Value} (h : Box4 w b v0 v1 v2 v3) (hb : Below w.heap.size w w') : Box4 w' b v0 v1 v2 v3 := by
  obtain ⟨t, h⟩ := h
  exact ⟨t, (hb.block _ (Array.getElem?_eq_some_iff.1 h).1).trans h⟩
theorem Box4.same {w w' : World} {b : Nat} {v0 v1 v2 v3 : Value} (h : Box4 w b v0 v1 v2 v3) (e : w'.heap[b]? = w.heap[b]?) : Box4 w' b v0 v1 v2 v3 := by
  obtain ⟨t, h⟩ := h
  exact ⟨t, e.trans h⟩
theorem Box4.now (w : World) (v0 v1 v2 v3 : Value) (t : TypeId) : Box4 (w.alloc (.cells #[v0, v1, v2, v3] t)) w.heap.size v0 v1 v2 v3 :=
  ⟨t, by show (w.heap.push _)[w.heap.size]? = _; simp⟩
theorem Box4.lt {w : World} {b : Nat} {v0 v1 v2 v3 : Value} (h : Box4 w b v0 v1 v2 v3) : b < w.heap.size := by
  obtain ⟨t, h⟩ := h
  exact (Array.getElem?_eq_some_iff.1 h).1
theorem Box4.cells {w : World} {b : Nat} {v0 v1 v2 v3 : Value} (h : Box4 w b v0 v1 v2 v3) :
    w.cell? ⟨b, 0, none⟩ = some v0 ∧ w.cell? ⟨b, 1, none⟩ = some v1 ∧ w.cell? ⟨b, 2, none⟩ = some v2 ∧ w.cell? ⟨b, 3, none⟩ = some v3 := by
  obtain ⟨t, h⟩ := h
  refine ⟨?_, ?_, ?_, ?_⟩ <;> simp [World.cell?, h]
theorem Box4.drew {w : World} {b : Nat} {v0 v1 v2 v3 : Value} (h : Box4 w b v0 v1 v2 v3) : Box4 w.drew b v0 v1 v2 v3 := h

end Go.Proofs.YtfppglfajbmapaaDoor.Lo
