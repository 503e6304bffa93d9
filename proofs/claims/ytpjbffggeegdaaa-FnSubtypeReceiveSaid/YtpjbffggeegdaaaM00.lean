/- Tree, Rg, Val, Da, Db, Dz, LTree, LVal, LUn, LUv, LGr, LTd, Sp, LUs, LUla, LDr, LDx, Tx, LTx, Nr, Pv, Tb -/
import Derived.Below
import Derived.Laws.World
import Derived.Laws.Strings
import Derived.Test.YtpjbffggeegdaaaRows
import Derived.WalkKit
import Derived.WalkSpells
import Derived.WalkLawsBesides
import Derived.Laws.Bits64
import Derived.Deep.QuietTactic
import Derived.BigQuiet
import Derived.Deep.AppendLies
import Derived.Test.YtpjbffggeegdaaaProg
import Derived.OrdersHeld
import Derived.Deep.RegionHeld
import Derived.RegionTactic
import Derived.Deep.RegionHeld3
import Derived.Deep.CutRange
import Derived.Deep.LoopGhost
import Derived.Lib.ItoaNum
import Derived.Lib.AppendStr
/- The trees that values of the type Global read as; what it is that a slice of branches reads as a tree, and that it is the call's own. -/
namespace Go.Proofs.Ytpjbffggeegdaaa
open Go.RowKit

/-- A fact kept aside. -/
theorem hide {p : Prop} (h : p) : Hid p := h
theorem ret_int {k : IntKind} {a b : Int} (h : a = b) : Ending.returned (.int k a) = .returned (.int k b) := by rw [h]
theorem ret_bool {a b : Bool} (h : a = b) : Ending.returned (.bool a) = .returned (.bool b) := by rw [h]

/-- A list of branches: the label and the fields of the node behind it, the node's own branches, the further branches. -/
inductive F where
  | nil
  | cons (lab : ByteArray) (k : Int) (fr tq : ByteArray) (ix : Int) (kids rest : F)

namespace F
/-- How many branches. -/
def len : F → Nat
  | nil => 0
  | cons _ _ _ _ _ _ rest => rest.len + 1
/-- All branches below the outermost ones and the letters of all strings. -/
def wt : F → Nat
  | nil => 0
  | cons lab _ fr tq _ kids rest => lab.size + (fr.size + (tq.size + (kids.len + kids.wt))) + rest.wt
/-- The number of branches at every depth. -/
def sz : F → Nat
  | nil => 0
  | cons _ _ _ _ _ kids rest => kids.sz + rest.sz + 1
def app : F → F → F
  | nil, g => g
  | cons lab k fr tq ix kids rest, g => cons lab k fr tq ix kids (rest.app g)
theorem app_nil : ∀ f : F, f.app nil = f
  | nil => rfl
  | cons _ _ _ _ _ _ rest => by rw [app, app_nil rest]
theorem app_assoc (g h : F) : ∀ f : F, (f.app g).app h = f.app (g.app h)
  | nil => rfl
  | cons _ _ _ _ _ _ rest => by simp only [app, app_assoc g h rest]
theorem len_app (g : F) : ∀ f : F, (f.app g).len = f.len + g.len
  | nil => by simp [app, len]
  | cons _ _ _ _ _ _ rest => by simp only [app, len, len_app g rest]; omega
theorem wt_app (g : F) : ∀ f : F, (f.app g).wt = f.wt + g.wt
  | nil => by simp [app, wt]
  | cons _ _ _ _ _ _ rest => by simp only [app, wt, wt_app g rest]; omega
theorem sz_app (g : F) : ∀ f : F, (f.app g).sz = f.sz + g.sz
  | nil => by simp [app, sz]
  | cons _ _ _ _ _ _ rest => by simp only [app, sz, sz_app g rest]; omega
theorem sz_le : ∀ f : F, f.sz ≤ f.len + f.wt
  | nil => Nat.le_refl _
  | cons _ _ _ _ _ kids rest => by have := sz_le kids; have := sz_le rest; simp only [sz, len, wt]; omega
end F

/-- The row of branches from a cell on reads as the list. -/
def Row (w : World) : Nat → Nat → F → Prop
  | _, _, .nil => True
  | b, o, .cons lab k fr tq ix kids rest => lab.size ≤ maxLen ∧ fr.size ≤ maxLen ∧ tq.size ≤ maxLen ∧
      (Lit.int .i64 k).wf = true ∧ (Lit.int .i64 ix).wf = true ∧
      w.cell? ⟨b, o, none⟩ = some (.string lab) ∧ w.cell? ⟨b, o + 1, none⟩ = some (.int .i64 k) ∧
      w.cell? ⟨b, o + 2, none⟩ = some (.string fr) ∧ w.cell? ⟨b, o + 3, none⟩ = some (.string tq) ∧
      w.cell? ⟨b, o + 4, none⟩ = some (.int .i64 ix) ∧
      (∃ a cap, w.cell? ⟨b, o + 5, none⟩ = some (.slice a kids.len cap) ∧ kids.len ≤ cap ∧ cap ≤ maxLen ∧
        (kids = .nil ∨ ∃ b' o', a = some ⟨b', o', none⟩ ∧ Row w b' o' kids)) ∧
      Row w b (o + 6) rest
/-- A slice of branches reads as the list. -/
def Sl (w : World) (v : Value) (f : F) : Prop :=
  ∃ a cap, v = .slice a f.len cap ∧ f.len ≤ cap ∧ cap ≤ maxLen ∧ (f = .nil ∨ ∃ b o, a = some ⟨b, o, none⟩ ∧ Row w b o f)

/-- What a reading of the first world's cells holds, holds in the second. -/
def Still (w w' : World) : Prop := ∀ p v, w.cell? p = some v → w'.cell? p = some v

theorem Still.refl (w : World) : Still w w := fun _ _ h => h
theorem Still.trans {a b c : World} (h : Still a b) (k : Still b c) : Still a c := fun p v e => k p v (h p v e)
theorem Still.of_below {w w' : World} (h : Below w.heap.size w w') : Still w w' := fun p v e => by
  rw [h.cell (World.block_lt_of_cell? _ _ e)]; exact e

theorem Row.still {w w' : World} (h : Still w w') : ∀ (f : F) (b o : Nat), Row w b o f → Row w' b o f := by
  intro f
  induction f with
  | nil => intro b o _; trivial
  | cons lab k fr tq ix kids rest ihk ihr =>
    intro b o hr
    obtain ⟨h2, h3, h4, h5, h6, c0, c1, c2, c3, c4, ⟨a, cap, c5, e1, e2, hs⟩, hrest⟩ := hr
    refine ⟨h2, h3, h4, h5, h6, h _ _ c0, h _ _ c1, h _ _ c2, h _ _ c3, h _ _ c4, ⟨a, cap, h _ _ c5, e1, e2, ?_⟩, ihr _ _ hrest⟩
    rcases hs with hs | ⟨b', o', e3, e4⟩
    · exact Or.inl hs
    · exact Or.inr ⟨b', o', e3, ihk _ _ e4⟩

theorem Sl.still {w w' : World} (h : Still w w') {v : Value} {f : F} (hs : Sl w v f) : Sl w' v f := by
  obtain ⟨a, cap, e0, e1, e2, hs⟩ := hs
  refine ⟨a, cap, e0, e1, e2, ?_⟩
  rcases hs with hs | ⟨b', o', e3, e4⟩
  · exact Or.inl hs
  · exact Or.inr ⟨b', o', e3, Row.still h _ _ _ e4⟩

theorem Sl.nil {w : World} : Sl w (.slice none 0 0) .nil := ⟨none, 0, rfl, Nat.le_refl _, Nat.zero_le _, Or.inl rfl⟩

/-- What is left of a slice's row behind its first k elements. -/
def At (w : World) (a : Option Addr) (k : Nat) (g : F) : Prop := g = .nil ∨ ∃ b o, a = some ⟨b, o, none⟩ ∧ Row w b (o + k * 6) g

theorem At.still {w w' : World} (h : Still w w') {a : Option Addr} {k : Nat} {g : F} (hs : At w a k g) : At w' a k g := by
  rcases hs with hs | ⟨b, o, e1, e2⟩
  · exact Or.inl hs
  · exact Or.inr ⟨b, o, e1, Row.still h _ _ _ e2⟩

theorem Sl.at {w : World} {v : Value} {f : F} (hs : Sl w v f) : ∃ a cap, v = .slice a f.len cap ∧ f.len ≤ maxLen ∧ At w a 0 f := by
  obtain ⟨a, cap, rfl, h1, h2, hr⟩ := hs
  refine ⟨a, cap, rfl, Nat.le_trans h1 h2, ?_⟩
  rcases hr with hr | ⟨b, o, e, hr⟩
  · exact Or.inl hr
  · exact Or.inr ⟨b, o, e, by simpa using hr⟩

/-- The first of what is left: its cells, and what is left behind it. -/
theorem At.head {w : World} {a : Option Addr} {i : Nat} {lab : ByteArray} {k : Int} {fr tq : ByteArray} {ix : Int} {kids rest : F} (h : At w a i (.cons lab k fr tq ix kids rest)) :
    ∃ b o, a = some ⟨b, o, none⟩ ∧ lab.size ≤ maxLen ∧ fr.size ≤ maxLen ∧ tq.size ≤ maxLen ∧ (Lit.int .i64 k).wf = true ∧ (Lit.int .i64 ix).wf = true ∧
      w.cell? ⟨b, o + i * 6, none⟩ = some (.string lab) ∧ w.cell? ⟨b, o + i * 6 + 1, none⟩ = some (.int .i64 k) ∧
      w.cell? ⟨b, o + i * 6 + 2, none⟩ = some (.string fr) ∧ w.cell? ⟨b, o + i * 6 + 3, none⟩ = some (.string tq) ∧
      w.cell? ⟨b, o + i * 6 + 4, none⟩ = some (.int .i64 ix) ∧ (∃ sv, w.cell? ⟨b, o + i * 6 + 5, none⟩ = some sv ∧ Sl w sv kids) ∧ At w a (i + 1) rest := by
  rcases h with h | ⟨b, o, rfl, hr⟩
  · cases h
  · obtain ⟨h2, h3, h4, h5, h6, c0, c1, c2, c3, c4, ⟨a, cap, c5, e1, e2, hs⟩, hrest⟩ := hr
    exact ⟨b, o, rfl, h2, h3, h4, h5, h6, c0, c1, c2, c3, c4, ⟨_, c5, a, cap, rfl, e1, e2, hs⟩, Or.inr ⟨b, o, rfl, by rw [show o + (i + 1) * 6 = o + i * 6 + 6 by omega]; exact hrest⟩⟩

theorem At.tail {w : World} {a : Option Addr} {i : Nat} {lab : ByteArray} {k : Int} {fr tq : ByteArray} {ix : Int} {kids rest : F} (h : At w a i (.cons lab k fr tq ix kids rest)) : At w a (i + 1) rest := by
  obtain ⟨_, _, _, _, _, _, _, _, _, _, _, _, _, _, h⟩ := h.head
  exact h

/-! ### Memory of the call's own -/

/-- A block that may be written. -/
def Free (w : World) (b n : Nat) : Prop := ∃ cs t, w.heap[b]? = some (.cells cs t (0, 0)) ∧ cs.size = n

/-- As Row, and the blocks below are named: the blocks of the slices, each named once for each slice. -/
def OwRow (w : World) : Nat → Nat → F → List Nat → Prop
  | _, _, .nil, bs => bs = []
  | b, o, .cons lab k fr tq ix kids rest, bs => lab.size ≤ maxLen ∧ fr.size ≤ maxLen ∧ tq.size ≤ maxLen ∧
      (Lit.int .i64 k).wf = true ∧ (Lit.int .i64 ix).wf = true ∧
      w.cell? ⟨b, o, none⟩ = some (.string lab) ∧ w.cell? ⟨b, o + 1, none⟩ = some (.int .i64 k) ∧
      w.cell? ⟨b, o + 2, none⟩ = some (.string fr) ∧ w.cell? ⟨b, o + 3, none⟩ = some (.string tq) ∧
      w.cell? ⟨b, o + 4, none⟩ = some (.int .i64 ix) ∧
      ∃ ks rs, bs = ks ++ rs ∧
      (∃ a cap, w.cell? ⟨b, o + 5, none⟩ = some (.slice a kids.len cap) ∧ kids.len ≤ cap ∧ cap ≤ maxLen ∧
        ((kids = .nil ∧ ks = []) ∨ ∃ b' n ks', a = some ⟨b', 0, none⟩ ∧ ks = b' :: ks' ∧ Free w b' n ∧ kids ≠ .nil ∧ OwRow w b' 0 kids ks')) ∧
      OwRow w b (o + 6) rest rs
/-- A slice of branches reads as the list, and its blocks are these. -/
def Ow (w : World) (v : Value) (f : F) (bs : List Nat) : Prop :=
  ∃ a cap, v = .slice a f.len cap ∧ f.len ≤ cap ∧ cap ≤ maxLen ∧
    ((f = .nil ∧ bs = []) ∨ ∃ b n bs', a = some ⟨b, 0, none⟩ ∧ bs = b :: bs' ∧ Free w b n ∧ f ≠ .nil ∧ OwRow w b 0 f bs')

theorem OwRow.row {w : World} : ∀ (f : F) (b o : Nat) (bs : List Nat), OwRow w b o f bs → Row w b o f := by
  intro f
  induction f with
  | nil => intro b o bs _; trivial
  | cons lab k fr tq ix kids rest ihk ihr =>
    intro b o bs hr
    obtain ⟨h2, h3, h4, h5, h6, c0, c1, c2, c3, c4, ks, rs, _, ⟨a, cap, c5, e1, e2, hs⟩, hrest⟩ := hr
    refine ⟨h2, h3, h4, h5, h6, c0, c1, c2, c3, c4, ⟨a, cap, c5, e1, e2, ?_⟩, ihr _ _ _ hrest⟩
    rcases hs with ⟨hs, _⟩ | ⟨b', n, ks', e3, _, _, _, e4⟩
    · exact Or.inl hs
    · exact Or.inr ⟨b', 0, e3, ihk _ _ _ e4⟩

theorem Ow.sl {w : World} {v : Value} {f : F} {bs : List Nat} (hs : Ow w v f bs) : Sl w v f := by
  obtain ⟨a, cap, e0, e1, e2, hs⟩ := hs
  refine ⟨a, cap, e0, e1, e2, ?_⟩
  rcases hs with ⟨hs, _⟩ | ⟨b', n, ks', e3, _, _, _, e4⟩
  · exact Or.inl hs
  · exact Or.inr ⟨b', 0, e3, OwRow.row _ _ _ _ e4⟩

theorem Ow.val {w : World} {v : Value} {f : F} {bs : List Nat} (hs : Ow w v f bs) : ∃ a cap, v = .slice a f.len cap := by
  obtain ⟨a, cap, e0, _⟩ := hs
  exact ⟨a, cap, e0⟩

/-- Two worlds that hold the same in some blocks. -/
def Same (w w' : World) (bs : List Nat) : Prop := ∀ b, b ∈ bs → w'.heap[b]? = w.heap[b]?

theorem Same.of_below {B : Nat} {w w' : World} (h : Below B w w') {bs : List Nat} (hb : ∀ b, b ∈ bs → b < B) : Same w w' bs := fun b hm => h.block b (hb b hm)
theorem Same.cell {w w' : World} {b o : Nat} (h : w'.heap[b]? = w.heap[b]?) : w'.cell? ⟨b, o, none⟩ = w.cell? ⟨b, o, none⟩ := World.cell?_of_block (w := w) h

theorem Same.refl (w : World) (bs : List Nat) : Same w w bs := fun _ _ => rfl
theorem Same.trans {a b c : World} {bs : List Nat} (h : Same a b bs) (k : Same b c bs) : Same a c bs := fun x hx => (k x hx).trans (h x hx)
theorem Same.setCell {a w : World} {bs : List Nat} (h : Same a w bs) {p : Addr} (hp : ∀ b, b ∈ bs → b ≠ p.block) (u : Value) : Same a (w.setCell p u) bs :=
  fun x hx => (Below.heap_setCell _ _ _ _ (hp x hx)).trans (h x hx)
theorem Same.alloc {a w : World} {bs : List Nat} (h : Same a w bs) (hp : ∀ b, b ∈ bs → b < w.heap.size) (o : Obj) : Same a (w.alloc o) bs :=
  fun x hx => (Below.heap_alloc _ _ _ (hp x hx)).trans (h x hx)
theorem Same.below {B : Nat} {a w w' : World} {bs : List Nat} (h : Same a w bs) (hb : Below B w w') (hp : ∀ b, b ∈ bs → b < B) : Same a w' bs :=
  fun x hx => (hb.block x (hp x hx)).trans (h x hx)

/-- The row's own cells from o on, of so many branches, are the same. -/
theorem OwRow.same {w w' : World} : ∀ (f : F) (b o : Nat) (bs : List Nat), OwRow w b o f bs → (∀ i, i < 6 * f.len → w'.cell? ⟨b, o + i, none⟩ = w.cell? ⟨b, o + i, none⟩) → Same w w' bs → OwRow w' b o f bs := by
  intro f
  induction f with
  | nil => intro b o bs h _ _; exact h
  | cons lab k fr tq ix kids rest ihk ihr =>
    intro b o bs hr hc hsame
    obtain ⟨h2, h3, h4, h5, h6, c0, c1, c2, c3, c4, ks, rs, rfl, ⟨a, cap, c5, e1, e2, hs⟩, hrest⟩ := hr
    have q : ∀ i, i < 6 → w'.cell? ⟨b, o + i, none⟩ = w.cell? ⟨b, o + i, none⟩ := fun i hi => hc i (by simp only [F.len]; omega)
    refine ⟨h2, h3, h4, h5, h6, (q 0 (by omega)).trans c0, (q 1 (by omega)).trans c1, (q 2 (by omega)).trans c2, (q 3 (by omega)).trans c3, (q 4 (by omega)).trans c4, ks, rs, rfl, ⟨a, cap, (q 5 (by omega)).trans c5, e1, e2, ?_⟩,
      ihr _ _ _ hrest (fun i hi => by rw [Nat.add_assoc]; exact hc (6 + i) (by simp only [F.len]; omega)) (fun x hx => hsame x (List.mem_append_right _ hx))⟩
    rcases hs with hs | ⟨b', n, ks', e3, rfl, hf, hne, e4⟩
    · exact Or.inl hs
    · have hb' : w'.heap[b']? = w.heap[b']? := hsame b' (by simp)
      refine Or.inr ⟨b', n, ks', e3, rfl, ?_, hne, ihk _ _ _ e4 (fun i _ => Same.cell hb') (fun x hx => hsame x (by simp [hx]))⟩
      obtain ⟨cs, t, hh, hn⟩ := hf
      exact ⟨cs, t, hb'.trans hh, hn⟩

theorem Ow.same {w w' : World} {v : Value} {f : F} {bs : List Nat} (hs : Ow w v f bs) (h : Same w w' bs) : Ow w' v f bs := by
  obtain ⟨a, cap, e0, e1, e2, hs⟩ := hs
  refine ⟨a, cap, e0, e1, e2, ?_⟩
  rcases hs with hs | ⟨b', n, ks', e3, rfl, hf, hne, e4⟩
  · exact Or.inl hs
  · have hb' : w'.heap[b']? = w.heap[b']? := h b' (by simp)
    refine Or.inr ⟨b', n, ks', e3, rfl, ?_, hne, e4.same _ _ _ _ (fun i _ => Same.cell hb') (fun x hx => h x (by simp [hx]))⟩
    obtain ⟨cs, t, hh, hn⟩ := hf
    exact ⟨cs, t, hb'.trans hh, hn⟩

/-- The blocks lie there. -/
theorem OwRow.lt {w : World} : ∀ (f : F) (b o : Nat) (bs : List Nat), OwRow w b o f bs → ∀ x, x ∈ bs → x < w.heap.size := by
  intro f
  induction f with
  | nil => intro b o bs h x hx; cases h; simp at hx
  | cons lab k fr tq ix kids rest ihk ihr =>
    intro b o bs hr x hx
    obtain ⟨_, _, _, _, _, _, _, _, _, _, ks, rs, rfl, ⟨a, cap, _, _, _, hs⟩, hrest⟩ := hr
    rcases List.mem_append.1 hx with hx | hx
    · rcases hs with ⟨_, rfl⟩ | ⟨b', n, ks', _, rfl, ⟨cs, t, hh, _⟩, _, e4⟩
      · simp at hx
      · rcases List.mem_cons.1 hx with rfl | hx
        · exact (Array.getElem?_eq_some_iff.1 hh).1
        · exact ihk _ _ _ e4 x hx
    · exact ihr _ _ _ hrest x hx

theorem Ow.lt {w : World} {v : Value} {f : F} {bs : List Nat} (hs : Ow w v f bs) : ∀ x, x ∈ bs → x < w.heap.size := by
  intro x hx
  obtain ⟨a, cap, e0, e1, e2, hs⟩ := hs
  rcases hs with ⟨_, rfl⟩ | ⟨b', n, ks', e3, rfl, ⟨cs, t, hh, _⟩, hne, e4⟩
  · simp at hx
  · rcases List.mem_cons.1 hx with rfl | hx
    · exact (Array.getElem?_eq_some_iff.1 hh).1
    · exact e4.lt _ _ _ _ x hx

theorem OwRow.app {w : World} : ∀ (f g : F) (b o : Nat) (bs cs : List Nat), OwRow w b o f bs → OwRow w b (o + 6 * f.len) g cs → OwRow w b o (f.app g) (bs ++ cs) := by
  intro f
  induction f with
  | nil => intro g b o bs cs h hg; cases h; simpa [F.app, F.len] using hg
  | cons lab k fr tq ix kids rest ihk ihr =>
    intro g b o bs cs hr hg
    obtain ⟨h2, h3, h4, h5, h6, c0, c1, c2, c3, c4, ks, rs, rfl, hs, hrest⟩ := hr
    refine ⟨h2, h3, h4, h5, h6, c0, c1, c2, c3, c4, ks, rs ++ cs, by rw [List.append_assoc], hs, ihr _ _ _ _ _ hrest ?_⟩
    rw [show o + 6 + 6 * rest.len = o + 6 * (rest.len + 1) by omega]
    exact hg

theorem alloc_below (w : World) (o : Obj) : Below w.heap.size w (w.alloc o) := (Below.refl _ _).alloc (Nat.le_refl _) o
theorem alloc_then {w w' : World} {o : Obj} (h : Below (w.alloc o).heap.size (w.alloc o) w') : Below w.heap.size w w' :=
  (alloc_below w o).trans (h.mono (by simp))
theorem bcell {W w1 : World} (hb : Below W.heap.size W w1) : (∀ b o, b < W.heap.size → w1.cell? ⟨b, o, none⟩ = W.cell? ⟨b, o, none⟩) ∧ (∀ b o, b < W.heap.size → w1.frozen? ⟨b, o, none⟩ = W.frozen? ⟨b, o, none⟩) :=
  ⟨fun b o h => hb.cell (p := ⟨b, o, none⟩) h, fun b o h => hb.frozen (p := ⟨b, o, none⟩) h⟩

/-- A struct of five cells in a box of its own, behind a call that wrote to no old block. -/
theorem box5 {w w1 : World} {v0 v1 v2 v3 v4 : Value} {t : TypeId} (hb : Below (w.alloc (.cells #[v0, v1, v2, v3, v4] t)).heap.size (w.alloc (.cells #[v0, v1, v2, v3, v4] t)) w1) :
    w1.cell? ⟨w.heap.size, 0, none⟩ = some v0 ∧ w1.cell? ⟨w.heap.size, 1, none⟩ = some v1 ∧ w1.cell? ⟨w.heap.size, 2, none⟩ = some v2 ∧ w1.cell? ⟨w.heap.size, 3, none⟩ = some v3 ∧
    w1.cell? ⟨w.heap.size, 4, none⟩ = some v4 ∧ w.heap.size < w1.heap.size ∧ Below w.heap.size w w1 := by
  have hn : (w.alloc (.cells #[v0, v1, v2, v3, v4] t)).heap[w.heap.size]? = some (.cells #[v0, v1, v2, v3, v4] t (0, 0)) := by
    show (w.heap.push _)[w.heap.size]? = _
    simp
  have hz : w.heap.size < (w.alloc (.cells #[v0, v1, v2, v3, v4] t)).heap.size := by simp
  have h1 : w1.heap[w.heap.size]? = some (.cells #[v0, v1, v2, v3, v4] t (0, 0)) := (hb.block _ hz).trans hn
  have hs := hb.size
  refine ⟨?_, ?_, ?_, ?_, ?_, Nat.lt_of_lt_of_le hz hs, (alloc_below w _).trans (hb.mono (Nat.le_of_lt hz))⟩ <;> simp [World.cell?, h1]

/-- Five cells of a block, and that block's worth behind a call that wrote to no old block. -/
def Box5 (w : World) (b : Nat) (v0 v1 v2 v3 v4 : Value) : Prop := ∃ t, w.heap[b]? = some (.cells #[v0, v1, v2, v3, v4] t (0, 0))
theorem Box5.below {w w' : World} {b : Nat} {v0 v1 v2 v3 v4 : Value} (h : Box5 w b v0 v1 v2 v3 v4) (hb : Below w.heap.size w w') : Box5 w' b v0 v1 v2 v3 v4 := by
  obtain ⟨t, h⟩ := h
  exact ⟨t, (hb.block _ (Array.getElem?_eq_some_iff.1 h).1).trans h⟩
theorem Box5.now (w : World) (v0 v1 v2 v3 v4 : Value) (t : TypeId) : Box5 (w.alloc (.cells #[v0, v1, v2, v3, v4] t)) w.heap.size v0 v1 v2 v3 v4 :=
  ⟨t, by show (w.heap.push _)[w.heap.size]? = _; simp⟩
theorem Box5.lt {w : World} {b : Nat} {v0 v1 v2 v3 v4 : Value} (h : Box5 w b v0 v1 v2 v3 v4) : b < w.heap.size := by
  obtain ⟨t, h⟩ := h
  exact (Array.getElem?_eq_some_iff.1 h).1
theorem Box5.cells {w : World} {b : Nat} {v0 v1 v2 v3 v4 : Value} (h : Box5 w b v0 v1 v2 v3 v4) :
    w.cell? ⟨b, 0, none⟩ = some v0 ∧ w.cell? ⟨b, 1, none⟩ = some v1 ∧ w.cell? ⟨b, 2, none⟩ = some v2 ∧ w.cell? ⟨b, 3, none⟩ = some v3 ∧ w.cell? ⟨b, 4, none⟩ = some v4 := by
  obtain ⟨t, h⟩ := h
  refine ⟨?_, ?_, ?_, ?_, ?_⟩ <;> simp [World.cell?, h]
theorem Box5.drew {w : World} {b : Nat} {v0 v1 v2 v3 v4 : Value} (h : Box5 w b v0 v1 v2 v3 v4) : Box5 w.drew b v0 v1 v2 v3 v4 := h

/-! ### A counter in a block of its own, beside the trees -/

def Ctr (w : World) (c : Nat) (m : Int) : Prop := ∃ t, w.heap[c]? = some (.cells #[.int .i64 m] t (0, 0))
/-- But for block c, what was there is as it was. -/
structure Only (c : Nat) (w w' : World) : Prop where
  os : w'.os = w.os
  tape : w'.tape = w.tape
  output : w'.output = w.output
  size : w.heap.size ≤ w'.heap.size
  block : ∀ k, k < w.heap.size → k ≠ c → w'.heap[k]? = w.heap[k]?

theorem Only.refl (c : Nat) (w : World) : Only c w w := ⟨rfl, rfl, rfl, Nat.le_refl _, fun _ _ _ => rfl⟩
theorem Only.trans {c : Nat} {a b d : World} (h : Only c a b) (k : Only c b d) : Only c a d :=
  ⟨k.os.trans h.os, k.tape.trans h.tape, k.output.trans h.output, Nat.le_trans h.size k.size, fun i hi hc => (k.block i (Nat.lt_of_lt_of_le hi h.size) hc).trans (h.block i hi hc)⟩
theorem Only.below {c : Nat} {a b d : World} (h : Only c a b) (k : Below b.heap.size b d) : Only c a d :=
  h.trans ⟨k.os, k.tape, k.output, k.size, fun i hi _ => k.block i hi⟩
theorem Only.alloc {c : Nat} {a b : World} (h : Only c a b) (o : Obj) : Only c a (b.alloc o) := h.below (alloc_below b o)
theorem Only.setCell {c : Nat} {a b : World} (h : Only c a b) {p : Addr} (hp : p.block = c ∨ a.heap.size ≤ p.block) (u : Value) : Only c a (b.setCell p u) :=
  ⟨h.os, h.tape, h.output, by simpa using h.size, fun i hi hc => (Below.heap_setCell _ _ _ _ (by rcases hp with hp | hp <;> omega)).trans (h.block i hi hc)⟩
theorem Only.drew {c : Nat} {a b : World} (h : Only c a b) : Only c a b.drew := ⟨h.os, h.tape, h.output, h.size, h.block⟩
theorem Only.to_below {c B : Nat} {a b : World} (h : Only c a b) (hB : B ≤ c) (hs : B ≤ a.heap.size) : Below B a b :=
  ⟨h.os, h.tape, h.output, h.size, fun k hk => h.block k (by omega) (by omega)⟩

theorem Ctr.lt {w : World} {c : Nat} {m : Int} (h : Ctr w c m) : c < w.heap.size := by
  obtain ⟨t, h⟩ := h
  exact (Array.getElem?_eq_some_iff.1 h).1
theorem Ctr.cell {w : World} {c : Nat} {m : Int} (h : Ctr w c m) : w.cell? ⟨c, 0, none⟩ = some (.int .i64 m) := by
  obtain ⟨t, h⟩ := h
  simp [World.cell?, h]
theorem Ctr.frozen {w : World} {c : Nat} {m : Int} (h : Ctr w c m) : w.frozen? ⟨c, 0, none⟩ = false := by
  obtain ⟨t, h⟩ := h
  simp [World.frozen?, h]
theorem Ctr.same {w w' : World} {c : Nat} {m : Int} (h : Ctr w c m) (e : w'.heap[c]? = w.heap[c]?) : Ctr w' c m := by
  obtain ⟨t, h⟩ := h
  exact ⟨t, e.trans h⟩
theorem Ctr.below {w w' : World} {c : Nat} {m : Int} (h : Ctr w c m) (hb : Below w.heap.size w w') : Ctr w' c m := h.same (hb.block _ h.lt)
theorem Ctr.alloc {w : World} {c : Nat} {m : Int} (h : Ctr w c m) (o : Obj) : Ctr (w.alloc o) c m := h.below (alloc_below w o)
theorem Ctr.drew {w : World} {c : Nat} {m : Int} (h : Ctr w c m) : Ctr w.drew c m := h
theorem Ctr.set {w : World} {c : Nat} {m : Int} (h : Ctr w c m) (m' : Int) : Ctr (w.setCell ⟨c, 0, none⟩ (.int .i64 m')) c m' := by
  obtain ⟨t, h⟩ := h
  exact ⟨t, by simp [World.setCell, Array.getElem?_modify, h]⟩
theorem Ctr.setOther {w : World} {c : Nat} {m : Int} (h : Ctr w c m) {p : Addr} (hp : c ≠ p.block) (u : Value) : Ctr (w.setCell p u) c m := h.same (Below.heap_setCell _ _ _ _ hp)

/-- No row of branches lies in a counter's block. -/
theorem Row.only {w w' : World} {c : Nat} {m : Int} (hc : Ctr w c m) (h : Only c w w') : ∀ (f : F) (b o : Nat), Row w b o f → Row w' b o f := by
  intro f
  induction f with
  | nil => intro b o _; trivial
  | cons lab k fr tq ix kids rest ihk ihr =>
    intro b o hr
    obtain ⟨h2, h3, h4, h5, h6, c0, c1, c2, c3, c4, ⟨a, cap, c5, e1, e2, hs⟩, hrest⟩ := hr
    have hne : b ≠ c := by
      rintro rfl
      obtain ⟨t, hh⟩ := hc
      simp only [World.cell?, hh] at c0 c1
      cases o with
      | zero => simp at c0
      | succ o => simp at c0
    have q : ∀ i v, w.cell? ⟨b, i, none⟩ = some v → w'.cell? ⟨b, i, none⟩ = some v := fun i v e => by
      rw [Same.cell (h.block b (World.block_lt_of_cell? _ _ c0) hne)]; exact e
    refine ⟨h2, h3, h4, h5, h6, q _ _ c0, q _ _ c1, q _ _ c2, q _ _ c3, q _ _ c4, ⟨a, cap, q _ _ c5, e1, e2, ?_⟩, ihr _ _ hrest⟩
    rcases hs with hs | ⟨b', o', e3, e4⟩
    · exact Or.inl hs
    · exact Or.inr ⟨b', o', e3, ihk _ _ e4⟩

theorem Sl.only {w w' : World} {c : Nat} {m : Int} (hc : Ctr w c m) (h : Only c w w') {v : Value} {f : F} (hs : Sl w v f) : Sl w' v f := by
  obtain ⟨a, cap, e0, e1, e2, hs⟩ := hs
  refine ⟨a, cap, e0, e1, e2, ?_⟩
  rcases hs with hs | ⟨b', o', e3, e4⟩
  · exact Or.inl hs
  · exact Or.inr ⟨b', o', e3, Row.only hc h _ _ _ e4⟩
theorem At.only {w w' : World} {c : Nat} {m : Int} (hc : Ctr w c m) (h : Only c w w') {a : Option Addr} {k : Nat} {g : F} (hs : At w a k g) : At w' a k g := by
  rcases hs with hs | ⟨b, o, e1, e2⟩
  · exact Or.inl hs
  · exact Or.inr ⟨b, o, e1, Row.only hc h _ _ _ e2⟩

/-! ### Stores into a block that may be written -/

theorem heap_setCell_same {w : World} {b o : Nat} {cs : Array Value} {t : TypeId} {z : Nat × Nat} (h : w.heap[b]? = some (.cells cs t z)) (v : Value) :
    (w.setCell ⟨b, o, none⟩ v).heap[b]? = some (.cells (cs.setIfInBounds o v) t z) := by
  simp [World.setCell, Array.getElem?_modify, h]

theorem cell_of_heap {w : World} {b o : Nat} {cs : Array Value} {t : TypeId} {z : Nat × Nat} (h : w.heap[b]? = some (.cells cs t z)) : w.cell? ⟨b, o, none⟩ = cs[o]? := by
  simp [World.cell?, h]

theorem Free.cell {w : World} {b n o : Nat} (h : Free w b n) (ho : o < n) : ∃ v, w.cell? ⟨b, o, none⟩ = some v := by
  obtain ⟨cs, t, hh, hn⟩ := h
  rw [cell_of_heap hh]
  exact ⟨_, Array.getElem?_eq_getElem (by omega)⟩
theorem Free.frozen {w : World} {b n o : Nat} (h : Free w b n) : w.frozen? ⟨b, o, none⟩ = false := by
  obtain ⟨cs, t, hh, hn⟩ := h
  simp [World.frozen?, hh]
theorem Free.setCell {w : World} {b n : Nat} (h : Free w b n) (a : Addr) (v : Value) : Free (w.setCell a v) b n := by
  obtain ⟨cs, t, hh, hn⟩ := h
  by_cases hb : b = a.block
  · refine ⟨if a.spot.isSome then cs else cs.setIfInBounds a.off v, t, ?_, by split <;> simp [hn]⟩
    subst hb
    simp [World.setCell, Array.getElem?_modify, hh]
  · exact ⟨cs, t, by rw [Below.heap_setCell _ _ _ _ hb]; exact hh, hn⟩
theorem Free.same {w w' : World} {b n : Nat} (h : Free w b n) (e : w'.heap[b]? = w.heap[b]?) : Free w' b n := by
  obtain ⟨cs, t, hh, hn⟩ := h
  exact ⟨cs, t, e.trans hh, hn⟩
theorem Free.lt {w : World} {b n : Nat} (h : Free w b n) : b < w.heap.size := by
  obtain ⟨cs, t, hh, hn⟩ := h
  exact (Array.getElem?_eq_some_iff.1 hh).1
theorem Free.below {w w' : World} {b n : Nat} (h : Free w b n) (hb : Below w.heap.size w w') : Free w' b n := h.same (hb.block _ h.lt)

/-- Six cells in a row. -/
def set6 (w : World) (b o : Nat) (v0 v1 v2 v3 v4 v5 : Value) : World :=
  (((((w.setCell ⟨b, o, none⟩ v0).setCell ⟨b, o + 1, none⟩ v1).setCell ⟨b, o + 2, none⟩ v2).setCell ⟨b, o + 3, none⟩ v3).setCell ⟨b, o + 4, none⟩ v4).setCell ⟨b, o + 5, none⟩ v5

theorem set6_other (w : World) (b o : Nat) (v0 v1 v2 v3 v4 v5 : Value) (x : Nat) (hx : x ≠ b) : (set6 w b o v0 v1 v2 v3 v4 v5).heap[x]? = w.heap[x]? := by
  unfold set6
  repeat rw [Below.heap_setCell _ _ _ _ hx]
theorem set6_below {B : Nat} {a w : World} (h : Below B a w) (b o : Nat) (hb : B ≤ b) (v0 v1 v2 v3 v4 v5 : Value) : Below B a (set6 w b o v0 v1 v2 v3 v4 v5) := by
  unfold set6
  exact (((((h.setCell hb v0).setCell hb v1).setCell hb v2).setCell hb v3).setCell hb v4).setCell hb v5
theorem set6_heap {w : World} {b n : Nat} (h : Free w b n) (o : Nat) (ho : o + 6 ≤ n) (v0 v1 v2 v3 v4 v5 : Value) :
    (∀ off, off < o ∨ o + 6 ≤ off → (set6 w b o v0 v1 v2 v3 v4 v5).cell? ⟨b, off, none⟩ = w.cell? ⟨b, off, none⟩) ∧
    (set6 w b o v0 v1 v2 v3 v4 v5).cell? ⟨b, o, none⟩ = some v0 ∧ (set6 w b o v0 v1 v2 v3 v4 v5).cell? ⟨b, o + 1, none⟩ = some v1 ∧
    (set6 w b o v0 v1 v2 v3 v4 v5).cell? ⟨b, o + 2, none⟩ = some v2 ∧ (set6 w b o v0 v1 v2 v3 v4 v5).cell? ⟨b, o + 3, none⟩ = some v3 ∧
    (set6 w b o v0 v1 v2 v3 v4 v5).cell? ⟨b, o + 4, none⟩ = some v4 ∧ (set6 w b o v0 v1 v2 v3 v4 v5).cell? ⟨b, o + 5, none⟩ = some v5 ∧
    Free (set6 w b o v0 v1 v2 v3 v4 v5) b n := by
  obtain ⟨cs, t, hh, hn⟩ := h
  have key : (set6 w b o v0 v1 v2 v3 v4 v5).heap[b]? = some (.cells ((((((cs.setIfInBounds o v0).setIfInBounds (o + 1) v1).setIfInBounds (o + 2) v2).setIfInBounds (o + 3) v3).setIfInBounds (o + 4) v4).setIfInBounds (o + 5) v5) t (0, 0)) :=
    heap_setCell_same (heap_setCell_same (heap_setCell_same (heap_setCell_same (heap_setCell_same (heap_setCell_same hh _) _) _) _) _) _
  refine ⟨fun off hoff => ?_, ?_, ?_, ?_, ?_, ?_, ?_, _, t, key, by simp [hn]⟩
  · rw [cell_of_heap key, cell_of_heap hh]
    simp only [Array.getElem?_setIfInBounds]
    repeat rw [if_neg (by omega)]
  all_goals
    rw [cell_of_heap key]
    simp [Array.getElem?_setIfInBounds]
    omega

end Go.Proofs.Ytpjbffggeegdaaa

/- Rows of elements of any kind: slices that read as lists. -/
namespace Go.Proofs.Ytpjbffggeegdaaa
open Go.RowKit

theorem still_drew (W : World) : Still W W.drew := fun _ _ h => h

/-- What it is to be an element of a row: how many cells, what they hold. -/
structure El (α : Type) where
  st : Nat
  P : World → Nat → Nat → α → Prop
  still : ∀ {w w' : World}, Still w w' → ∀ {b o : Nat} {x : α}, P w b o x → P w' b o x

variable {α : Type} (E : El α)

/-- The row of elements from a cell on reads as the list. -/
def RowG (w : World) (b : Nat) : Nat → List α → Prop
  | _, [] => True
  | o, x :: r => E.P w b o x ∧ RowG w b (o + E.st) r
/-- A slice reads as the list. -/
def SlG (w : World) (v : Value) (l : List α) : Prop :=
  ∃ a cap, v = .slice a l.length cap ∧ l.length ≤ cap ∧ cap ≤ maxLen ∧ (l = [] ∨ ∃ b o, a = some ⟨b, o, none⟩ ∧ RowG E w b o l)
/-- What is left of a slice's row behind its first k elements. -/
def AtG (w : World) (a : Option Addr) (k : Nat) (g : List α) : Prop := g = [] ∨ ∃ b o, a = some ⟨b, o, none⟩ ∧ RowG E w b (o + k * E.st) g

variable {E}
theorem RowG.still {w w' : World} (h : Still w w') : ∀ {l : List α} {b o : Nat}, RowG E w b o l → RowG E w' b o l
  | [], _, _, _ => trivial
  | _ :: _, _, _, hr => ⟨E.still h hr.1, RowG.still h hr.2⟩
theorem SlG.still {w w' : World} (h : Still w w') {v : Value} {l : List α} (hs : SlG E w v l) : SlG E w' v l := by
  obtain ⟨a, cap, e0, e1, e2, hs⟩ := hs
  refine ⟨a, cap, e0, e1, e2, ?_⟩
  rcases hs with hs | ⟨b', o', e3, e4⟩
  · exact Or.inl hs
  · exact Or.inr ⟨b', o', e3, e4.still h⟩
theorem SlG.nil {w : World} : SlG E w (.slice none 0 0) [] := ⟨none, 0, rfl, Nat.le_refl _, Nat.zero_le _, Or.inl rfl⟩
theorem AtG.still {w w' : World} (h : Still w w') {a : Option Addr} {k : Nat} {g : List α} (hs : AtG E w a k g) : AtG E w' a k g := by
  rcases hs with hs | ⟨b, o, e1, e2⟩
  · exact Or.inl hs
  · exact Or.inr ⟨b, o, e1, e2.still h⟩
theorem SlG.at {w : World} {v : Value} {l : List α} (hs : SlG E w v l) : ∃ a cap, v = .slice a l.length cap ∧ l.length ≤ maxLen ∧ AtG E w a 0 l := by
  obtain ⟨a, cap, rfl, h1, h2, hr⟩ := hs
  refine ⟨a, cap, rfl, Nat.le_trans h1 h2, ?_⟩
  rcases hr with hr | ⟨b, o, e, hr⟩
  · exact Or.inl hr
  · exact Or.inr ⟨b, o, e, by simpa using hr⟩
/-- The first of what is left. -/
theorem AtG.head {w : World} {a : Option Addr} {i : Nat} {x : α} {rest : List α} (h : AtG E w a i (x :: rest)) :
    ∃ b o, a = some ⟨b, o, none⟩ ∧ E.P w b (o + i * E.st) x := by
  rcases h with h | ⟨b, o, rfl, hr⟩
  · cases h
  · exact ⟨b, o, rfl, hr.1⟩
theorem AtG.tail {w : World} {a : Option Addr} {i : Nat} {x : α} {rest : List α} (h : AtG E w a i (x :: rest)) : AtG E w a (i + 1) rest := by
  rcases h with h | ⟨b, o, rfl, hr⟩
  · cases h
  · exact Or.inr ⟨b, o, rfl, by rw [show o + (i + 1) * E.st = o + i * E.st + E.st by rw [Nat.succ_mul]; omega]; exact hr.2⟩
theorem RowG.app {w : World} : ∀ {l : List α} {b o : Nat} {g : List α}, RowG E w b o l → RowG E w b (o + l.length * E.st) g → RowG E w b o (l ++ g)
  | [], _, _, _, _, hg => by simpa using hg
  | x :: l, b, o, g, hr, hg => ⟨hr.1, RowG.app hr.2 (by rw [show o + E.st + l.length * E.st = o + (l.length + 1) * E.st by rw [Nat.succ_mul]; omega]; exact hg)⟩
/-- The element i of what is left. -/
theorem RowG.get {w : World} : ∀ {l : List α} {b o i : Nat} {x : α}, RowG E w b o l → l[i]? = some x → E.P w b (o + i * E.st) x
  | [], _, _, _, _, _, h => by simp at h
  | y :: l, b, o, 0, x, hr, h => by
    obtain rfl : y = x := by simpa using h
    simpa using hr.1
  | y :: l, b, o, i + 1, x, hr, h => by
    have := RowG.get (i := i) hr.2 (by simpa using h)
    rw [show o + (i + 1) * E.st = o + E.st + i * E.st by rw [Nat.succ_mul]; omega]
    exact this
theorem SlG.get {w : World} {a : Option Addr} {n cap : Nat} {l : List α} {i : Nat} {x : α} (h : SlG E w (.slice a n cap) l) (hi : l[i]? = some x) : ∃ b o, a = some ⟨b, o, none⟩ ∧ E.P w b (o + i * E.st) x := by
  obtain ⟨a', c', e, h1, h2, hr⟩ := h
  injection e with e1 e2 e3
  subst e1
  rcases hr with rfl | ⟨b, o, rfl, hr⟩
  · simp at hi
  · exact ⟨b, o, rfl, hr.get hi⟩

/-! ### A row that is being written, of elements with no memory of their own -/

/-- An element that its cells alone decide. -/
def El.Flat (E : El α) : Prop := ∀ {w w' : World} {b o : Nat} {x : α}, (∀ i, i < E.st → w'.cell? ⟨b, o + i, none⟩ = w.cell? ⟨b, o + i, none⟩) → E.P w b o x → E.P w' b o x
theorem RowG.flat (hF : E.Flat) {w w' : World} {b : Nat} : ∀ {l : List α} {o : Nat}, (∀ i, i < l.length * E.st → w'.cell? ⟨b, o + i, none⟩ = w.cell? ⟨b, o + i, none⟩) → RowG E w b o l → RowG E w' b o l
  | [], _, _, _ => trivial
  | x :: l, o, hc, hr => ⟨hF (fun i hi => hc i (by rw [List.length_cons, Nat.succ_mul]; omega)) hr.1,
      RowG.flat hF (fun i hi => by rw [Nat.add_assoc]; exact hc (E.st + i) (by rw [List.length_cons, Nat.succ_mul]; omega)) hr.2⟩
theorem SlG.of_row {w : World} {b o : Nat} {l : List α} {cap : Nat} (h : RowG E w b o l) (h1 : l.length ≤ cap) (h2 : cap ≤ maxLen) : SlG E w (.slice (some ⟨b, o, none⟩) l.length cap) l :=
  ⟨_, _, rfl, h1, h2, Or.inr ⟨b, o, rfl, h⟩⟩

/-- A slice of flat elements in a block of its own. -/
def OwG (E : El α) (w : World) (v : Value) (l : List α) (bs : List Nat) : Prop :=
  ∃ a cap, v = .slice a l.length cap ∧ l.length ≤ cap ∧ cap ≤ maxLen ∧
    ((l = [] ∧ bs = []) ∨ ∃ b n, a = some ⟨b, 0, none⟩ ∧ bs = [b] ∧ Free w b n ∧ l ≠ [] ∧ RowG E w b 0 l)
theorem OwG.sl {w : World} {v : Value} {l : List α} {bs : List Nat} (h : OwG E w v l bs) : SlG E w v l := by
  obtain ⟨a, cap, e0, e1, e2, hs⟩ := h
  refine ⟨a, cap, e0, e1, e2, ?_⟩
  rcases hs with ⟨hs, _⟩ | ⟨b', n, e3, _, _, _, e4⟩
  · exact Or.inl hs
  · exact Or.inr ⟨b', 0, e3, e4⟩
theorem OwG.val {w : World} {v : Value} {l : List α} {bs : List Nat} (h : OwG E w v l bs) : ∃ a cap, v = .slice a l.length cap := by
  obtain ⟨a, cap, e0, _⟩ := h
  exact ⟨a, cap, e0⟩
theorem OwG.lt {w : World} {v : Value} {l : List α} {bs : List Nat} (h : OwG E w v l bs) : ∀ x, x ∈ bs → x < w.heap.size := by
  intro x hx
  obtain ⟨a, cap, e0, e1, e2, hs⟩ := h
  rcases hs with ⟨_, rfl⟩ | ⟨b', n, e3, rfl, hf, _, _⟩
  · simp at hx
  · obtain rfl : x = b' := by simpa using hx
    exact hf.lt
theorem OwG.same (hF : E.Flat) {w w' : World} {v : Value} {l : List α} {bs : List Nat} (h : OwG E w v l bs) (hs : Same w w' bs) : OwG E w' v l bs := by
  obtain ⟨a, cap, e0, e1, e2, h⟩ := h
  refine ⟨a, cap, e0, e1, e2, ?_⟩
  rcases h with h | ⟨b', n, e3, rfl, hf, hne, hr⟩
  · exact Or.inl h
  · have hb' : w'.heap[b']? = w.heap[b']? := hs b' (by simp)
    exact Or.inr ⟨b', n, e3, rfl, hf.same hb', hne, hr.flat hF (fun i _ => Same.cell hb')⟩

/-- Strings. -/
def elS : El ByteArray where
  st := 1
  P w b o s := s.size ≤ maxLen ∧ w.cell? ⟨b, o, none⟩ = some (.string s)
  still h := fun ⟨a, c⟩ => ⟨a, h _ _ c⟩
theorem elS_flat : elS.Flat := fun hc ⟨a, c⟩ => ⟨a, by have := hc 0 (by decide); simpa using this.trans (by simpa using c)⟩
theorem AtS.head {w : World} {a : Option Addr} {i : Nat} {s : ByteArray} {rest : List ByteArray} (h : AtG elS w a i (s :: rest)) :
    ∃ b o, a = some ⟨b, o, none⟩ ∧ s.size ≤ maxLen ∧ w.cell? ⟨b, o + i, none⟩ = some (.string s) := by
  obtain ⟨b, o, e, h1, h2⟩ := h.head
  exact ⟨b, o, e, h1, by simpa [elS] using h2⟩
def wtS : List ByteArray → Nat
  | [] => 0
  | s :: r => s.size + wtS r
theorem wtS_app (g : List ByteArray) : ∀ l : List ByteArray, wtS (l ++ g) = wtS l + wtS g
  | [] => by simp [wtS]
  | n :: r => by simp only [List.cons_append, wtS, wtS_app g r]; omega

/-- A struct of two cells in a box of its own. -/
def Box2 (w : World) (b : Nat) (v0 v1 : Value) : Prop := ∃ t, w.heap[b]? = some (.cells #[v0, v1] t (0, 0))
theorem Box2.same {w w' : World} {b : Nat} {v0 v1 : Value} (h : Box2 w b v0 v1) (e : w'.heap[b]? = w.heap[b]?) : Box2 w' b v0 v1 := by
  obtain ⟨t, h⟩ := h
  exact ⟨t, e.trans h⟩
theorem Box2.lt {w : World} {b : Nat} {v0 v1 : Value} (h : Box2 w b v0 v1) : b < w.heap.size := by
  obtain ⟨t, h⟩ := h
  exact (Array.getElem?_eq_some_iff.1 h).1
theorem Box2.below {w w' : World} {b : Nat} {v0 v1 : Value} (h : Box2 w b v0 v1) (hb : Below w.heap.size w w') : Box2 w' b v0 v1 := h.same (hb.block _ h.lt)
theorem Box2.now (w : World) (v0 v1 : Value) (t : TypeId) : Box2 (w.alloc (.cells #[v0, v1] t)) w.heap.size v0 v1 :=
  ⟨t, by show (w.heap.push _)[w.heap.size]? = _; simp⟩
theorem Box2.cells {w : World} {b : Nat} {v0 v1 : Value} (h : Box2 w b v0 v1) : w.cell? ⟨b, 0, none⟩ = some v0 ∧ w.cell? ⟨b, 1, none⟩ = some v1 := by
  obtain ⟨t, h⟩ := h
  refine ⟨?_, ?_⟩ <;> simp [World.cell?, h]
theorem Box2.frozen {w : World} {b : Nat} {v0 v1 : Value} (h : Box2 w b v0 v1) (o : Nat) : w.frozen? ⟨b, o, none⟩ = false := by
  obtain ⟨t, h⟩ := h
  simp [World.frozen?, h]
theorem Box2.set0 {w : World} {b : Nat} {v0 v1 : Value} (h : Box2 w b v0 v1) (u : Value) : Box2 (w.setCell ⟨b, 0, none⟩ u) b u v1 := by
  obtain ⟨t, h⟩ := h
  exact ⟨t, heap_setCell_same h u⟩
theorem Box2.set1 {w : World} {b : Nat} {v0 v1 : Value} (h : Box2 w b v0 v1) (u : Value) : Box2 (w.setCell ⟨b, 1, none⟩ u) b v0 u := by
  obtain ⟨t, h⟩ := h
  exact ⟨t, heap_setCell_same h u⟩
theorem Box2.setOther {w : World} {b : Nat} {v0 v1 : Value} (h : Box2 w b v0 v1) {p : Addr} (hp : b ≠ p.block) (u : Value) : Box2 (w.setCell p u) b v0 v1 := h.same (Below.heap_setCell _ _ _ _ hp)
theorem Box2.drew {w : World} {b : Nat} {v0 v1 : Value} (h : Box2 w b v0 v1) : Box2 w.drew b v0 v1 := h
end Go.Proofs.Ytpjbffggeegdaaa

/- Which trees are valid, and how many nodes they have, in plain words. -/
namespace Go.Proofs.Ytpjbffggeegdaaa
open Go.RowKit

/-- A role. -/
def roleB (s : ByteArray) : Bool := s.toList == [65] || s.toList == [66] || s.toList == [67]
/-- A label. -/
def labB (s : ByteArray) : Bool := match s.data.toList with | [c] => decide (97 ≤ c.toNat ∧ c.toNat ≤ 100) | _ => false

/-- The fields that the kind does not use. -/
def fieldsB (k : Int) (fr tq : ByteArray) (ix : Int) : Bool := (k == 2 || fr.toList.isEmpty && tq.toList.isEmpty) && (k == 4 || ix == 0)
/-- Labels that ascend. -/
def ascB : Option ByteArray → F → Bool
  | _, .nil => true
  | p, .cons lab _ _ _ _ _ rest => labB lab && (match p with | none => true | some q => Op.bytesLess q.toList lab.toList) && ascB (some lab) rest
def branchesB (kids : F) : Bool := ascB none kids && decide (1 ≤ kids.len ∧ kids.len ≤ 3)
/-- The first label is the empty string. -/
def bareB : F → Bool
  | .nil => true
  | .cons lab _ _ _ _ _ _ => lab.toList.isEmpty

def nodeB (k : Int) (fr tq : ByteArray) (ix : Int) (kids : F) (b u d : Int) (vr vm : Bool) : Bool :=
  decide (1 ≤ d) && fieldsB k fr tq ix &&
  (if k = 1 then decide (kids.len = 0) else if k = 4 then decide (kids.len = 0) && decide (u ≤ ix) && decide (ix < b)
   else if k = 3 then decide (kids.len = 1) && bareB kids && vr
   else if k = 2 then roleB fr && roleB tq && !(fr.toList == tq.toList) && branchesB kids && vm else false)

/-- All nodes of the list are valid, below b recursions, the innermost u of them unguarded, and d levels at most. -/
def vldF : F → Int → Int → Int → Bool
  | .nil, _, _, _ => true
  | .cons _ k fr tq ix kids rest, b, u, d => nodeB k fr tq ix kids b u d (vldF kids (b + 1) (u + 1) (d - 1)) (vldF kids b 0 (d - 1)) && vldF rest b u d
def vldN (k : Int) (fr tq : ByteArray) (ix : Int) (kids : F) (b u d : Int) : Bool :=
  nodeB k fr tq ix kids b u d (vldF kids (b + 1) (u + 1) (d - 1)) (vldF kids b 0 (d - 1))

/-- The nodes down to a depth. -/
def cntF : F → Int → Nat
  | .nil, _ => 0
  | .cons _ _ _ _ _ kids rest, d => 1 + (if 0 < d then cntF kids (d - 1) else 0) + cntF rest d
def cntN (kids : F) (d : Int) : Nat := 1 + if 0 < d then cntF kids (d - 1) else 0

theorem cntF_le : ∀ (f : F) (d : Int), cntF f d ≤ f.sz := by
  intro f
  induction f with
  | nil => intro d; exact Nat.le_refl _
  | cons lab k fr tq ix kids rest ihk ihr =>
    intro d
    have h1 := ihk (d - 1)
    have h2 := ihr d
    simp only [cntF, F.sz]
    split <;> omega

theorem nil_of_len {f : F} (h : f.len = 0) : f = .nil := by
  cases f with
  | nil => rfl
  | cons => simp [F.len] at h

theorem cntF_of_vld : ∀ (f : F) (b u d : Int), vldF f b u d = true → cntF f d = f.sz := by
  intro f
  induction f with
  | nil => intro b u d _; rfl
  | cons lab k fr tq ix kids rest ihk ihr =>
    intro b u d h
    simp only [vldF, Bool.and_eq_true] at h
    obtain ⟨hn, hr⟩ := h
    simp only [cntF, F.sz]
    rw [ihr b u d hr]
    simp only [nodeB, Bool.and_eq_true, decide_eq_true_eq] at hn
    obtain ⟨⟨hd, _⟩, hk⟩ := hn
    rw [if_pos (by omega)]
    have key : cntF kids (d - 1) = kids.sz := by
      split at hk
      · have e : kids = .nil := nil_of_len (by simpa using hk)
        rw [e]; rfl
      · split at hk
        · simp only [Bool.and_eq_true, decide_eq_true_eq] at hk
          have e : kids = .nil := nil_of_len hk.1.1
          rw [e]; rfl
        · split at hk
          · simp only [Bool.and_eq_true] at hk
            exact ihk _ _ _ hk.2
          · split at hk
            · simp only [Bool.and_eq_true] at hk
              exact ihk _ _ _ hk.2
            · cases hk
    rw [key]
    omega

theorem cntN_of_vld {k : Int} {fr tq : ByteArray} {ix : Int} {kids : F} {b u d : Int} (h : vldN k fr tq ix kids b u d = true) : cntN kids d = kids.sz + 1 := by
  have := cntF_of_vld (.cons ⟨#[]⟩ k fr tq ix kids .nil) b u d (by simp only [vldF, Bool.and_true]; exact h)
  simp only [cntF, F.sz] at this
  unfold cntN
  omega

/-- The fields fit the kind; of the nodes below nothing is said. -/
def shapeB (k : Int) (fr tq : ByteArray) (ix : Int) (kids : F) : Bool :=
  if k = 1 then fr.toList.isEmpty && tq.toList.isEmpty && ix == 0 && decide (kids.len = 0)
  else if k = 2 then roleB fr && roleB tq && !(fr.toList == tq.toList) && ix == 0 && branchesB kids
  else if k = 3 then fr.toList.isEmpty && tq.toList.isEmpty && ix == 0 && decide (kids.len = 1) && bareB kids
  else if k = 4 then fr.toList.isEmpty && tq.toList.isEmpty && decide (0 ≤ ix) && decide (kids.len = 0) else false

theorem nodeB_shape (k : Int) (fr tq : ByteArray) (ix : Int) (kids : F) (b u d : Int) (hu : 0 ≤ u) (vr vm : Bool) : nodeB k fr tq ix kids b u d vr vm =
    (decide (1 ≤ d) && shapeB k fr tq ix kids && (if k = 4 then decide (u ≤ ix) && decide (ix < b) else if k = 3 then vr else if k = 2 then vm else true)) := by
  unfold nodeB shapeB fieldsB
  by_cases h1 : k = 1
  · subst h1
    simp [Bool.and_assoc]
  · by_cases h4 : k = 4
    · subst h4
      simp only [if_neg (show ¬ (4 : Int) = 1 by decide), if_neg (show ¬ (4 : Int) = 2 by decide), if_neg (show ¬ (4 : Int) = 3 by decide)]
      by_cases h : u ≤ ix
      · rw [decide_eq_true h, decide_eq_true (show 0 ≤ ix by omega)]
        simp [Bool.and_assoc]
      · rw [decide_eq_false h]
        simp
    · by_cases h3 : k = 3
      · subst h3
        simp [Bool.and_assoc]
      · by_cases h2 : k = 2
        · subst h2
          simp only [if_neg (show ¬ (2 : Int) = 1 by decide), if_neg (show ¬ (2 : Int) = 4 by decide), if_neg (show ¬ (2 : Int) = 3 by decide)]
          generalize roleB fr = x1
          generalize roleB tq = x2
          generalize (fr.toList == tq.toList) = x3
          generalize branchesB kids = x4
          generalize (ix == 0) = x5
          cases x1 <;> cases x2 <;> cases x3 <;> cases x4 <;> cases x5 <;> cases vm <;> simp
        · simp [h1, h2, h3, h4]

/-- A valid root. -/
def okN (k : Int) (fr tq : ByteArray) (ix : Int) (kids : F) : Bool := vldN k fr tq ix kids 0 0 40 && decide (kids.sz + 1 ≤ 400)
/-- The number of nodes of a valid root, or 0. -/
def nodesN (k : Int) (fr tq : ByteArray) (ix : Int) (kids : F) : Nat := if okN k fr tq ix kids then kids.sz + 1 else 0

end Go.Proofs.Ytpjbffggeegdaaa

/- The source of the model's drawings: its block; pick, of, num. -/
namespace Go.Proofs.Ytpjbffggeegdaaa
open Go.RowKit

/-- A byte in a cell. -/
def elY : El Nat where
  st := 1
  P w b o n := n < 256 ∧ w.cell? ⟨b, o, none⟩ = some (.int .u8 (n : Int))
  still h := fun ⟨l, c⟩ => ⟨l, h _ _ c⟩

/-- The source: its block, what it reads from, how often it was asked. -/
structure Rd (w : World) (rb : Nat) (cv : Value) (l : List Nat) (p : Nat) : Prop where
  hx : ∃ t, w.heap[rb]? = some (.cells #[cv, .int .i64 (p : Int)] t (0, 0))
  hs : SlG elY w cv l
  hb : l ≠ [] → ∀ b o n c, cv = .slice (some ⟨b, o, none⟩) n c → b ≠ rb
  hl : l.length ≤ 2000

theorem Rd.lt {w : World} {rb : Nat} {cv : Value} {l : List Nat} {p : Nat} (h : Rd w rb cv l p) : rb < w.heap.size := by
  obtain ⟨t, h⟩ := h.hx
  exact (Array.getElem?_eq_some_iff.1 h).1
theorem Rd.cells {w : World} {rb : Nat} {cv : Value} {l : List Nat} {p : Nat} (h : Rd w rb cv l p) : w.cell? ⟨rb, 0, none⟩ = some cv ∧ w.cell? ⟨rb, 1, none⟩ = some (.int .i64 (p : Int)) := by
  obtain ⟨t, h⟩ := h.hx
  exact ⟨cell_of_heap (o := 0) h, cell_of_heap (o := 1) h⟩
theorem Rd.frozen {w : World} {rb : Nat} {cv : Value} {l : List Nat} {p : Nat} (h : Rd w rb cv l p) (o : Nat) : w.frozen? ⟨rb, o, none⟩ = false := by
  obtain ⟨t, h⟩ := h.hx
  simp [World.frozen?, h]
theorem RowG.blocks {α : Type} {E : El α} (hF : E.Flat) {w w' : World} {b : Nat} (hb : w'.heap[b]? = w.heap[b]?) {l : List α} {o : Nat} (h : RowG E w b o l) : RowG E w' b o l :=
  RowG.flat hF (fun _ _ => Same.cell hb) h
theorem elY_flat : elY.Flat := fun hc ⟨l, c⟩ => ⟨l, (hc 0 (by decide)).trans c⟩
theorem RowG.lt1 {w : World} {b o : Nat} {x : Nat} {l : List Nat} (h : RowG elY w b o (x :: l)) : b < w.heap.size := World.block_lt_of_cell? _ _ h.1.2
/-- What is written elsewhere, and a new number in the source's own cell, keep the source. -/
theorem Rd.move {w w' : World} {rb : Nat} {cv : Value} {l : List Nat} {p p' : Nat} (h : Rd w rb cv l p) (hk : ∀ b, b < w.heap.size → b ≠ rb → w'.heap[b]? = w.heap[b]?)
    (hx : ∃ t, w'.heap[rb]? = some (.cells #[cv, .int .i64 (p' : Int)] t (0, 0))) : Rd w' rb cv l p' := by
  refine ⟨hx, ?_, h.hb, h.hl⟩
  obtain ⟨a, cap, e, h1, h2, h3⟩ := h.hs
  refine ⟨a, cap, e, h1, h2, ?_⟩
  rcases h3 with h3 | ⟨b, o, e2, h3⟩
  · exact Or.inl h3
  · subst e2
    cases l with
    | nil => exact Or.inl rfl
    | cons x r => exact Or.inr ⟨b, o, rfl, RowG.blocks elY_flat (hk b h3.lt1 (h.hb (List.cons_ne_nil _ _) b o _ _ e)) h3⟩
theorem Rd.below {w w' : World} {rb : Nat} {cv : Value} {l : List Nat} {p : Nat} (h : Rd w rb cv l p) (hb : Below w.heap.size w w') : Rd w' rb cv l p := by
  obtain ⟨t, hx⟩ := h.hx
  exact h.move (fun b hl _ => hb.block b hl) ⟨t, (hb.block rb h.lt).trans hx⟩
theorem Rd.drew {w : World} {rb : Nat} {cv : Value} {l : List Nat} {p : Nat} (h : Rd w rb cv l p) : Rd w.drew rb cv l p := ⟨h.hx, h.hs.still (still_drew w), h.hb, h.hl⟩
theorem Rd.next {w : World} {rb : Nat} {cv : Value} {l : List Nat} {p : Nat} (h : Rd w rb cv l p) : Rd (w.setCell ⟨rb, 1, none⟩ (.int .i64 ((p : Int) + 1))) rb cv l (p + 1) := by
  obtain ⟨t, hx⟩ := h.hx
  refine h.move (fun b _ hne => Below.heap_setCell _ _ _ _ hne) ⟨t, ?_⟩
  simp [World.setCell, Array.getElem?_modify, hx]

theorem xor_i64 (a b : Nat) (ha : a < 9223372036854775808) (hb : b < 9223372036854775808) : ∃ v : Nat, v < 9223372036854775808 ∧ bits .xor .i64 (a : Int) (b : Int) = (v : Int) := by
  have hx : a ^^^ b < 2 ^ 63 := Nat.xor_lt_two_pow (by omega) (by omega)
  refine ⟨a ^^^ b, hx, ?_⟩
  have h1 : (BitVec.ofInt 64 (a : Int)).toNat = a := by
    rw [BitVec.ofInt_natCast, BitVec.toNat_ofNat]; exact Nat.mod_eq_of_lt (by omega)
  have h2 : (BitVec.ofInt 64 (b : Int)).toNat = b := by
    rw [BitVec.ofInt_natCast, BitVec.toNat_ofNat]; exact Nat.mod_eq_of_lt (by omega)
  show IntKind.i64.wrap ((BitVec.ofInt 64 (a : Int) ^^^ BitVec.ofInt 64 (b : Int)).toNat : Int) = _
  rw [BitVec.toNat_xor, h1, h2]
  simp [IntKind.wrap, IntKind.bits, IntKind.signed]
  omega

/-- A question more: the source's own cell is written, and nothing else. -/
structure Ask (w : World) (rb : Nat) (cv : Value) (l : List Nat) (p : Nat) (w' : World) : Prop where
  only : Only rb w w'
  rd : Rd w' rb cv l (p + 1)
  size : w'.heap.size = w.heap.size
theorem Only.drewN {c : Nat} {a b : World} (h : Only c a b) (n : Nat) : Only c a (b.drewN n) := ⟨h.os, h.tape, h.output, h.size, h.block⟩
theorem Rd.drewN {w : World} {rb : Nat} {cv : Value} {l : List Nat} {p : Nat} (h : Rd w rb cv l p) (n : Nat) : Rd (w.drewN n) rb cv l p := by
  obtain ⟨t, hx⟩ := h.hx
  exact h.move (fun b _ _ => rfl) ⟨t, hx⟩
theorem Rd.ask {w : World} {rb : Nat} {cv : Value} {l : List Nat} {p : Nat} (h : Rd w rb cv l p) (n : Nat) : Ask w rb cv l p ((w.setCell ⟨rb, 1, none⟩ (.int .i64 ((p : Int) + 1))).drewN n) := by
  have ho : Only rb w (w.setCell ⟨rb, 1, none⟩ (.int .i64 ((p : Int) + 1))) := (Only.refl rb w).setCell (Or.inl rfl) _
  exact ⟨ho.drewN n, h.next.drewN n, by simp⟩
theorem Rd.ask0 {w : World} {rb : Nat} {cv : Value} {l : List Nat} {p : Nat} (h : Rd w rb cv l p) : Ask w rb cv l p (w.setCell ⟨rb, 1, none⟩ (.int .i64 ((p : Int) + 1))) := h.ask 0

/-- What pick leaves: a number below n, and one question more. -/
def PickP (w : World) (rb : Nat) (cv : Value) (l : List Nat) (p : Nat) (n : Int) (e : Ending) (w' : World) : Prop :=
  ∃ v : Nat, e = .returned (.int .i64 (v : Int)) ∧ ((v : Int) < n ∨ v = 0) ∧ Ask w rb cv l p w'

set_option maxHeartbeats 1600000 in
theorem pick_calls (w : World) (rb : Nat) (cv : Value) (l : List Nat) (p : Nat) (h : Rd w rb cv l p) (hp : p ≤ 1000000) (n : Int) (hn : n ≤ 1000000) :
    Calls Try.prog 30 #[.pointer (some ⟨rb, 0, none⟩), .int .i64 n] w (PickP w rb cv l p n) := by
  obtain ⟨c0, c1⟩ := h.cells
  have f1 := h.frozen 1
  have hlt := h.lt
  have HRD := hide h
  have HA := hide h.ask0
  have HAN := hide (fun n => h.ask n)
  obtain ⟨a, cap, rfl, h1, h2, h3⟩ := h.hs
  have hl := h.hl
  by_cases hn1 : n < 1
  · go_enter Try.func30, Try.ntmps30
    go_wp2_with fail
    go_ret
    exact ⟨0, rfl, Or.inr rfl, HA.out⟩
  · by_cases hl0 : l.length = 0
    · rw [hl0] at c0 HA
      go_enter Try.func30, Try.ntmps30
      go_wp2_with fail
      go_ret
      exact ⟨0, rfl, Or.inr rfl, HA.out⟩
    · have hbyte : ∀ i, i < l.length → ∃ b o x : Nat, a = some ⟨b, o, none⟩ ∧ x < 256 ∧ (w.setCell ⟨rb, 1, none⟩ (.int .i64 ((p : Int) + 1))).cell? ⟨b, o + i, none⟩ = some (.int .u8 (x : Int)) := by
        intro i hi
        obtain ⟨b, o, e, hx, hc⟩ := h.hs.get (i := i) (x := l[i]) (List.getElem?_eq_getElem hi)
        refine ⟨b, o, l[i], e, hx, ?_⟩
        have hne := h.hb (by rintro rfl; simp at hi) b o _ _ (by rw [e])
        rw [Same.cell (Below.heap_setCell _ _ _ _ hne)]
        simpa [elY] using hc
      have HB := hide hbyte
      clear hbyte
      by_cases hpl : p < l.length
      · obtain ⟨b, o, x, rfl, hx, hc⟩ := HB.out p hpl
        go_enter Try.func30, Try.ntmps30
        go_wp2_with fail
        obtain ⟨N, rfl⟩ : ∃ N : Nat, n = (N : Int) := ⟨n.toNat, by omega⟩
        go_ret
        refine ⟨x % N, ?_, Or.inl (by have := Nat.mod_lt x (show 0 < N by omega); omega), HA.out⟩
        rfl
      · have hq1 := Nat.mod_lt p (show 0 < l.length by omega)
        have hq2 := Nat.mod_lt (p * 7 + 3) (show 0 < l.length by omega)
        have hq3 : p / l.length ≤ p := Nat.div_le_self _ _
        obtain ⟨b, o, x, rfl, hx, hc⟩ := HB.out (p % l.length) hq1
        obtain ⟨b2, o2, y, e2, hy, hd⟩ := HB.out ((p * 7 + 3) % l.length) hq2
        injection e2 with e2
        injection e2 with e3 e4
        subst e3 e4
        have e1 : (p : Int).tmod (l.length : Int) = ((p % l.length : Nat) : Int) := (Int.ofNat_tmod p l.length).symm
        have e2 : ((p : Int) * 7 + 3).tmod (l.length : Int) = (((p * 7 + 3) % l.length : Nat) : Int) := by
          rw [show (p : Int) * 7 + 3 = ((p * 7 + 3 : Nat) : Int) by omega]; exact (Int.ofNat_tmod _ _).symm
        have e3 : (p : Int).tdiv (l.length : Int) = ((p / l.length : Nat) : Int) := (Int.ofNat_tdiv p l.length).symm
        have hl1 : ¬ (l.length : Int) = 0 := by omega
        generalize hM : p % l.length = M at *
        generalize hK : (p * 7 + 3) % l.length = K at *
        generalize hV : p / l.length = V at *
        clear hM hK hV HB h h3
        go_enter Try.func30, Try.ntmps30
        go_wp2_with fail
        go_quiet (fail)
        have hX : x * 131 + y * 1117 + p * 29 + V * 53 < 9223372036854775808 := by omega
        obtain ⟨X, hXe⟩ : ∃ X, X = x * 131 + y * 1117 + p * 29 + V * 53 := ⟨_, rfl⟩
        have hXi : (x : Int) * 131 + (y : Int) * 1117 + (p : Int) * 29 + (V : Int) * 53 = (X : Int) := by omega
        rw [hXi]
        rw [← hXe] at hX
        clear hXe hXi
        obtain ⟨N, rfl⟩ : ∃ N : Nat, n = (N : Int) := ⟨n.toNat, by omega⟩
        have hd : (X : Int).tdiv 64 = ((X / 64 : Nat) : Int) := (Int.ofNat_tdiv X 64).symm
        obtain ⟨Z, hZ, hZe⟩ := xor_i64 X (X / 64) hX (by omega)
        have hr : (Z : Int).tmod (N : Int) = ((Z % N : Nat) : Int) := (Int.ofNat_tmod Z N).symm
        have hzn := Nat.mod_lt Z (show 0 < N by omega)
        go_wp2_with fail
        go_ret
        have h64 : ((X / 64 : Nat) : Int) = (X : Int) / 64 := by omega
        rw [h64] at hZe
        refine ⟨Z % N, ?_, Or.inl (by omega), HAN.out _⟩
        show Ending.returned (.int .i64 ((bits .xor .i64 (X : Int) ((X : Int) / 64)).tmod (N : Int))) = _
        rw [hZe, hr]
end Go.Proofs.Ytpjbffggeegdaaa

/- The source of the model's drawings: of, num and its opening. -/
namespace Go.Proofs.Ytpjbffggeegdaaa
open Go.RowKit

/-- An int in a cell. -/
def elI64 : El Int where
  st := 1
  P w b o n := w.cell? ⟨b, o, none⟩ = some (.int .i64 n)
  still h := fun c => h _ _ c
theorem elI64_flat : elI64.Flat := fun hc c => (hc 0 (by decide)).trans c

/-- A slice of what lies elsewhere is read after a question as before. -/
theorem SlG.elsewhere {α : Type} {E : El α} (hF : E.Flat) {w w' : World} {v : Value} {l : List α} (h : SlG E w v l) (hk : ∀ b o n c, v = .slice (some ⟨b, o, none⟩) n c → w'.heap[b]? = w.heap[b]?) : SlG E w' v l := by
  obtain ⟨a, cap, rfl, h1, h2, h3⟩ := h
  refine ⟨a, cap, rfl, h1, h2, ?_⟩
  rcases h3 with h3 | ⟨b, o, rfl, h3⟩
  · exact Or.inl h3
  · exact Or.inr ⟨b, o, rfl, RowG.blocks hF (hk b o _ _ rfl) h3⟩

theorem SlG.lt {α : Type} {E : El α} {w : World} {v : Value} {l : List α} (h : SlG E w v l) (hne : 0 < l.length) (hE : ∀ {b o : Nat} {x : α}, E.P w b o x → b < w.heap.size) : ∀ b o n c, v = .slice (some ⟨b, o, none⟩) n c → b < w.heap.size := by
  obtain ⟨a, cap, rfl, h1, h2, h3⟩ := h
  intro b o n c e
  rcases h3 with rfl | ⟨b', o', rfl, h3⟩
  · simp at hne
  · injection e with e
    injection e with e
    injection e with e1
    subst e1
    cases l with
    | nil => simp at hne
    | cons x r => exact hE h3.1

def OfP (w : World) (rb : Nat) (cv : Value) (l : List Nat) (p : Nat) (S : List ByteArray) (e : Ending) (w' : World) : Prop :=
  ∃ s, s ∈ S ∧ e = .returned (.string s) ∧ Ask w rb cv l p w'
def NumP (w : World) (rb : Nat) (cv : Value) (l : List Nat) (p : Nat) (S : List Int) (e : Ending) (w' : World) : Prop :=
  ∃ s, s ∈ S ∧ e = .returned (.int .i64 s) ∧ Ask w rb cv l p w' 

set_option maxHeartbeats 800000 in
theorem of_calls (w : World) (rb : Nat) (cv : Value) (l : List Nat) (p : Nat) (h : Rd w rb cv l p) (hp : p ≤ 1000000) (S : List ByteArray) (sv : Value) (hs : SlG elS w sv S) (hne : 0 < S.length) (hn : S.length ≤ 1000) (hb : ∀ b o n c, sv = .slice (some ⟨b, o, none⟩) n c → b ≠ rb) :
    Calls Try.prog 32 #[.pointer (some ⟨rb, 0, none⟩), sv] w (OfP w rb cv l p S) := by
  have HS := hide (fun (w' : World) (ho : Only rb w w') => hs.elsewhere elS_flat (w' := w') (fun b o n c e => ho.block b (hs.lt hne (fun h => World.block_lt_of_cell? _ _ h.2) b o n c e) (hb b o n c e)))
  obtain ⟨a, cap, rfl, h1, h2, h3⟩ := hs
  have HP := hide (pick_calls w rb cv l p h hp (S.length : Int) (by omega))
  go_enter Try.func32, Try.ntmps32
  go_wp2_with fail
  refine HP.out.mono ?_
  rintro e w1 ⟨v, rfl, hv, hask⟩
  have hvl : v < S.length := by omega
  have hs2 := HS.out w1 hask.only
  have HASK := hide hask
  obtain ⟨b, o, rfl, hsz, hc⟩ := hs2.get (List.getElem?_eq_getElem hvl)
  have hc' : w1.cell? ⟨b, o + v, none⟩ = some (.string S[v]) := by simpa [elS] using hc
  have hm : S[v] ∈ S := List.getElem_mem hvl
  generalize S[v] = s at *
  have HM := hide hm
  clear hs2 h3 hc hm hask
  go_wp2_with fail
  go_ret
  exact ⟨s, HM.out, rfl, HASK.out⟩

set_option maxHeartbeats 800000 in
theorem num_calls (w : World) (rb : Nat) (cv : Value) (l : List Nat) (p : Nat) (h : Rd w rb cv l p) (hp : p ≤ 1000000) (S : List Int) (sv : Value) (hs : SlG elI64 w sv S) (hne : 0 < S.length) (hn : S.length ≤ 1000) (hb : ∀ b o n c, sv = .slice (some ⟨b, o, none⟩) n c → b ≠ rb) :
    Calls Try.prog 31 #[.pointer (some ⟨rb, 0, none⟩), sv] w (NumP w rb cv l p S) := by
  have HS := hide (fun (w' : World) (ho : Only rb w w') => hs.elsewhere elI64_flat (w' := w') (fun b o n c e => ho.block b (hs.lt hne (fun h => World.block_lt_of_cell? _ _ h) b o n c e) (hb b o n c e)))
  obtain ⟨a, cap, rfl, h1, h2, h3⟩ := hs
  have HP := hide (pick_calls w rb cv l p h hp (S.length : Int) (by omega))
  go_enter Try.func31, Try.ntmps31
  go_wp2_with fail
  refine HP.out.mono ?_
  rintro e w1 ⟨v, rfl, hv, hask⟩
  have hvl : v < S.length := by omega
  have hs2 := HS.out w1 hask.only
  have HASK := hide hask
  obtain ⟨b, o, rfl, hc⟩ := hs2.get (List.getElem?_eq_getElem hvl)
  have hc' : w1.cell? ⟨b, o + v, none⟩ = some (.int .i64 S[v]) := by simpa [elI64] using hc
  have hm : S[v] ∈ S := List.getElem_mem hvl
  generalize S[v] = s at *
  have HM := hide hm
  clear hs2 h3 hc hm hask
  go_wp2_with fail
  go_ret
  exact ⟨s, HM.out, rfl, HASK.out⟩

theorem RowG.take {α : Type} {E : El α} {w : World} {b : Nat} : ∀ {l : List α} {o : Nat} (n : Nat), RowG E w b o l → RowG E w b o (l.take n)
  | [], _, n, _ => by simp [RowG]
  | _ :: _, _, 0, _ => trivial
  | _ :: _, _, n + 1, h => ⟨h.1, RowG.take n h.2⟩
theorem SlG.takeN {α : Type} {E : El α} {w : World} {a : Option Addr} {n cap m : Nat} {l : List α} (h : SlG E w (.slice a n cap) l) (hm : m ≤ l.length) : SlG E w (.slice a m cap) (l.take m) := by
  obtain ⟨a', cap', e, h1, h2, h3⟩ := h
  injection e with e1 e2 e3
  subst e1 e3
  have hlen : (l.take m).length = m := by rw [List.length_take]; omega
  refine ⟨a, cap, by rw [hlen], by omega, h2, ?_⟩
  rcases h3 with rfl | ⟨b, o, rfl, h3⟩
  · exact Or.inl (by simp)
  · exact Or.inr ⟨b, o, rfl, h3.take m⟩
theorem rd_open {w w' : World} {cv : Value} {l : List Nat} (hs : SlG elY w cv l) (hl : l.length ≤ 2000) (hb : Below w.heap.size w w') (hx : ∃ t, w'.heap[w.heap.size]? = some (.cells #[cv, .int .i64 0] t (0, 0))) : Rd w' w.heap.size cv l 0 := by
  refine ⟨hx, hs.still (Still.of_below hb), fun hne b o n c e => ?_, hl⟩
  have := hs.lt (List.length_pos_iff.2 hne) (fun h => World.block_lt_of_cell? _ _ h.2) b o n c e
  omega

/-- The source is opened: a box of its own. -/
theorem open_rd (w : World) (sv : Value) (l : List Nat) (hs : SlG elY w sv l) :
    Calls Try.prog 20 #[sv] w fun e w' => ∃ cv l', e = .returned (.pointer (some ⟨w.heap.size, 0, none⟩)) ∧ Rd w' w.heap.size cv l' 0 ∧ Below w.heap.size w w' ∧ w'.heap.size = w.heap.size + 1 := by
  have HS := hide hs
  obtain ⟨a, cap, rfl, h1, h2, h3⟩ := hs
  by_cases hl : l.length ≤ 2000
  · go_enter Try.func20, Try.ntmps20
    go_wp2_with fail
    go_ret
    refine ⟨_, _, rfl, rd_open HS.out hl ?_ ?_, ?_, ?_⟩
    · exact alloc_below w _
    · exact ⟨75, by show (w.heap.push _)[w.heap.size]? = _; simp⟩
    · exact alloc_below w _
    · simp
  · have hl2 : (2000 : Int) < (l.length : Int) := by omega
    have HT := hide (HS.out.takeN (m := 2000) (by omega))
    have HTL : Hid ((l.take 2000).length ≤ 2000) := hide (by rw [List.length_take]; omega)
    go_enter Try.func20, Try.ntmps20
    go_wp2_with fail
    go_ret
    refine ⟨_, _, rfl, rd_open HT.out HTL.out ?_ ?_, ?_, ?_⟩
    · exact alloc_below w _
    · exact ⟨75, by show (w.heap.push _)[w.heap.size]? = _; simp⟩
    · exact alloc_below w _
    · simp
end Go.Proofs.Ytpjbffggeegdaaa

/- What both kinds of drawings share. -/
namespace Go.Proofs.Ytpjbffggeegdaaa
open Go.RowKit

theorem Only.same {c : Nat} {w w' : World} (h : Only c w w') {bs : List Nat} (hb : ∀ b, b ∈ bs → b < w.heap.size ∧ b ≠ c) : Same w w' bs := fun b hm => h.block b (hb b hm).1 (hb b hm).2
/-- Questions asked by a drawing of some depth. -/
def qs (d : Nat) : Nat := 9 * 4 ^ d
theorem qs_zero : qs 0 = 9 := rfl
theorem qs_succ (d : Nat) : qs (d + 1) = 4 * qs d := by unfold qs; rw [Nat.pow_succ]; omega
theorem qs_pos (d : Nat) : 9 ≤ qs d := by
  induction d with
  | zero => exact Nat.le_refl _
  | succ d ih => rw [qs_succ]; omega
/-- How many nodes lie below its root. -/
def zs : Nat → Nat
  | 0 => 0
  | d + 1 => 3 * (zs d + 1)
theorem Rd.fin {w w2 wf : World} {rb : Nat} {cv : Value} {l : List Nat} {p p' : Nat} (h : Rd w rb cv l p) (h2 : Rd w2 rb cv l p') (ho : Only rb w wf) (he : wf.heap[rb]? = w2.heap[rb]?) : Rd wf rb cv l p' := by
  obtain ⟨t, hx⟩ := h2.hx
  exact h.move (fun b hl hne => ho.block b hl hne) ⟨t, he.trans hx⟩
theorem heap_new (w : World) (o : Obj) : (w.alloc o).heap[w.heap.size]? = some o := by
  show (w.heap.push _)[w.heap.size]? = _
  simp
theorem sl4 (w : World) (s0 s1 s2 s3 : ByteArray) (t : TypeId) (h0 : s0.size ≤ maxLen) (h1 : s1.size ≤ maxLen) (h2 : s2.size ≤ maxLen) (h3 : s3.size ≤ maxLen) :
    SlG elS (w.alloc (.cells #[.string s0, .string s1, .string s2, .string s3] t)) (.slice (some ⟨w.heap.size, 0, none⟩) 4 4) [s0, s1, s2, s3] := by
  have hh := heap_new w (.cells #[.string s0, .string s1, .string s2, .string s3] t)
  refine ⟨_, 4, rfl, Nat.le_refl _, by unfold maxLen; omega, Or.inr ⟨w.heap.size, 0, rfl, ⟨h0, ?_⟩, ⟨h1, ?_⟩, ⟨h2, ?_⟩, ⟨h3, ?_⟩, trivial⟩⟩
  all_goals (rw [cell_of_heap hh]; rfl)
theorem sl5i (w : World) (s0 s1 s2 s3 s4 : Int) (t : TypeId) :
    SlG elI64 (w.alloc (.cells #[.int .i64 s0, .int .i64 s1, .int .i64 s2, .int .i64 s3, .int .i64 s4] t)) (.slice (some ⟨w.heap.size, 0, none⟩) 5 5) [s0, s1, s2, s3, s4] := by
  have hh := heap_new w (.cells #[.int .i64 s0, .int .i64 s1, .int .i64 s2, .int .i64 s3, .int .i64 s4] t)
  refine ⟨_, 5, rfl, Nat.le_refl _, by unfold maxLen; omega, Or.inr ⟨w.heap.size, 0, rfl, ?_, ?_, ?_, ?_, ?_, trivial⟩⟩
  all_goals (show World.cell? _ _ = _; rw [cell_of_heap hh]; rfl)
theorem new_far {w : World} {rb : Nat} (h : rb < w.heap.size) {k m : Nat} : ∀ (b o n c : Nat), (Value.slice (some ⟨w.heap.size, 0, none⟩) k m) = .slice (some ⟨b, (o : Nat), none⟩) n c → b ≠ rb := by
  intro b o n c e
  injection e with e
  injection e with e
  injection e with e
  omega
theorem small_of {fr : ByteArray} {a b c d : UInt8} (h : fr ∈ [(⟨#[a]⟩ : ByteArray), ⟨#[b]⟩, ⟨#[c]⟩, ⟨#[d]⟩]) : fr.size ≤ maxLen := by
  have : fr.size = 1 := by
    simp only [List.mem_cons, List.not_mem_nil, or_false] at h
    rcases h with rfl | rfl | rfl | rfl <;> rfl
  rw [this]
  unfold maxLen
  omega
theorem set_alloc (w : World) (o : Obj) (a : Addr) (v : Value) (h : a.block < w.heap.size) : (w.setCell a v).alloc o = (w.alloc o).setCell a v := by
  have e : (w.heap.modify a.block fun x => match x with
      | .cells c elem frozen => .cells (if a.spot.isSome then c else c.setIfInBounds a.off v) elem frozen
      | o => o).push o = (w.heap.push o).modify a.block (fun x => match x with
      | .cells c elem frozen => .cells (if a.spot.isSome then c else c.setIfInBounds a.off v) elem frozen
      | o => o) := by
    apply Array.ext_getElem?
    intro i
    rw [Array.getElem?_modify, Array.getElem?_push, Array.getElem?_push, Array.getElem?_modify, Array.size_modify]
    by_cases hi : i = w.heap.size
    · rw [if_pos hi, if_neg (by omega), if_pos hi]
    · rw [if_neg hi, if_neg hi]
  exact congrArg (fun H => ({ w with heap := H } : World)) e
theorem sl6i (w : World) (s0 s1 s2 s3 s4 s5 : Int) (t : TypeId) :
    SlG elI64 (w.alloc (.cells #[.int .i64 s0, .int .i64 s1, .int .i64 s2, .int .i64 s3, .int .i64 s4, .int .i64 s5] t)) (.slice (some ⟨w.heap.size, 0, none⟩) 6 6) [s0, s1, s2, s3, s4, s5] := by
  have hh := heap_new w (.cells #[.int .i64 s0, .int .i64 s1, .int .i64 s2, .int .i64 s3, .int .i64 s4, .int .i64 s5] t)
  refine ⟨_, 6, rfl, Nat.le_refl _, by unfold maxLen; omega, Or.inr ⟨w.heap.size, 0, rfl, ?_, ?_, ?_, ?_, ?_, ?_, trivial⟩⟩
  all_goals (show World.cell? _ _ = _; rw [cell_of_heap hh]; rfl)
theorem sl3i (w : World) (s0 s1 s2 : Int) (t : TypeId) :
    SlG elI64 (w.alloc (.cells #[.int .i64 s0, .int .i64 s1, .int .i64 s2] t)) (.slice (some ⟨w.heap.size, 0, none⟩) 3 3) [s0, s1, s2] := by
  have hh := heap_new w (.cells #[.int .i64 s0, .int .i64 s1, .int .i64 s2] t)
  refine ⟨_, 3, rfl, Nat.le_refl _, by unfold maxLen; omega, Or.inr ⟨w.heap.size, 0, rfl, ?_, ?_, ?_, trivial⟩⟩
  all_goals (show World.cell? _ _ = _; rw [cell_of_heap hh]; rfl)
theorem gsl3 (w : World) (s0 s1 s2 : ByteArray) (t : TypeId) (h0 : s0.size ≤ maxLen) (h1 : s1.size ≤ maxLen) (h2 : s2.size ≤ maxLen) :
    SlG elS (w.alloc (.cells #[.string s0, .string s1, .string s2] t)) (.slice (some ⟨w.heap.size, 0, none⟩) 3 3) [s0, s1, s2] := by
  have hh := heap_new w (.cells #[.string s0, .string s1, .string s2] t)
  refine ⟨_, 3, rfl, Nat.le_refl _, by unfold maxLen; omega, Or.inr ⟨w.heap.size, 0, rfl, ⟨h0, ?_⟩, ⟨h1, ?_⟩, ⟨h2, ?_⟩, trivial⟩⟩
  all_goals (rw [cell_of_heap hh]; rfl)
theorem small_all {fr : ByteArray} {L : List ByteArray} (h : fr ∈ L) (hL : L.all (fun s => decide (s.size ≤ 1)) = true) : fr.size ≤ maxLen := by
  have := of_decide_eq_true (List.all_eq_true.1 hL fr h)
  unfold maxLen
  omega
theorem wf_all {k : Int} {L : List Int} (h : k ∈ L) (hL : L.all (fun s => (Lit.int .i64 s).wf) = true) : (Lit.int .i64 k).wf = true := List.all_eq_true.1 hL k h
end Go.Proofs.Ytpjbffggeegdaaa

/- The trees that values of the type Local read as; what it is that a slice of branches reads as a tree, and that it is the call's own. -/
namespace Go.Proofs.Ytpjbffggeegdaaa.Lo
open Go.RowKit

/-- A list of branches: the label and the fields of the node behind it, the node's own branches, the further branches. -/
inductive F where
  | nil
  | cons (lab : ByteArray) (k : Int) (fr : ByteArray) (ix : Int) (kids rest : F)

namespace F
/-- How many branches. -/
def len : F → Nat
  | nil => 0
  | cons _ _ _ _ _ rest => rest.len + 1
/-- All branches below the outermost ones and the letters of all strings. -/
def wt : F → Nat
  | nil => 0
  | cons lab _ fr _ kids rest => lab.size + (fr.size + (kids.len + kids.wt)) + rest.wt
/-- The number of branches at every depth. -/
def sz : F → Nat
  | nil => 0
  | cons _ _ _ _ kids rest => kids.sz + rest.sz + 1
def app : F → F → F
  | nil, g => g
  | cons lab k fr ix kids rest, g => cons lab k fr ix kids (rest.app g)
theorem app_nil : ∀ f : F, f.app nil = f
  | nil => rfl
  | cons _ _ _ _ _ rest => by rw [app, app_nil rest]
theorem app_assoc (g h : F) : ∀ f : F, (f.app g).app h = f.app (g.app h)
  | nil => rfl
  | cons _ _ _ _ _ rest => by simp only [app, app_assoc g h rest]
theorem len_app (g : F) : ∀ f : F, (f.app g).len = f.len + g.len
  | nil => by simp [app, len]
  | cons _ _ _ _ _ rest => by simp only [app, len, len_app g rest]; omega
theorem wt_app (g : F) : ∀ f : F, (f.app g).wt = f.wt + g.wt
  | nil => by simp [app, wt]
  | cons _ _ _ _ _ rest => by simp only [app, wt, wt_app g rest]; omega
theorem sz_app (g : F) : ∀ f : F, (f.app g).sz = f.sz + g.sz
  | nil => by simp [app, sz]
  | cons _ _ _ _ _ rest => by simp only [app, sz, sz_app g rest]; omega
theorem sz_le : ∀ f : F, f.sz ≤ f.len + f.wt
  | nil => Nat.le_refl _
  | cons _ _ _ _ kids rest => by have := sz_le kids; have := sz_le rest; simp only [sz, len, wt]; omega
end F

/-- The row of branches from a cell on reads as the list. -/
def Row (w : World) : Nat → Nat → F → Prop
  | _, _, .nil => True
  | b, o, .cons lab k fr ix kids rest => lab.size ≤ maxLen ∧ fr.size ≤ maxLen ∧
      (Lit.int .i64 k).wf = true ∧ (Lit.int .i64 ix).wf = true ∧
      w.cell? ⟨b, o, none⟩ = some (.string lab) ∧ w.cell? ⟨b, o + 1, none⟩ = some (.int .i64 k) ∧
      w.cell? ⟨b, o + 2, none⟩ = some (.string fr) ∧
      w.cell? ⟨b, o + 3, none⟩ = some (.int .i64 ix) ∧
      (∃ a cap, w.cell? ⟨b, o + 4, none⟩ = some (.slice a kids.len cap) ∧ kids.len ≤ cap ∧ cap ≤ maxLen ∧
        (kids = .nil ∨ ∃ b' o', a = some ⟨b', o', none⟩ ∧ Row w b' o' kids)) ∧
      Row w b (o + 5) rest
/-- A slice of branches reads as the list. -/
def Sl (w : World) (v : Value) (f : F) : Prop :=
  ∃ a cap, v = .slice a f.len cap ∧ f.len ≤ cap ∧ cap ≤ maxLen ∧ (f = .nil ∨ ∃ b o, a = some ⟨b, o, none⟩ ∧ Row w b o f)

theorem Row.still {w w' : World} (h : Still w w') : ∀ (f : F) (b o : Nat), Row w b o f → Row w' b o f := by
  intro f
  induction f with
  | nil => intro b o _; trivial
  | cons lab k fr ix kids rest ihk ihr =>
    intro b o hr
    obtain ⟨h2, h3, h5, h6, c0, c1, c2, c3, ⟨a, cap, c4, e1, e2, hs⟩, hrest⟩ := hr
    refine ⟨h2, h3, h5, h6, h _ _ c0, h _ _ c1, h _ _ c2, h _ _ c3, ⟨a, cap, h _ _ c4, e1, e2, ?_⟩, ihr _ _ hrest⟩
    rcases hs with hs | ⟨b', o', e3, e4⟩
    · exact Or.inl hs
    · exact Or.inr ⟨b', o', e3, ihk _ _ e4⟩

theorem Sl.still {w w' : World} (h : Still w w') {v : Value} {f : F} (hs : Sl w v f) : Sl w' v f := by
  obtain ⟨a, cap, e0, e1, e2, hs⟩ := hs
  refine ⟨a, cap, e0, e1, e2, ?_⟩
  rcases hs with hs | ⟨b', o', e3, e4⟩
  · exact Or.inl hs
  · exact Or.inr ⟨b', o', e3, Row.still h _ _ _ e4⟩

theorem Sl.nil {w : World} : Sl w (.slice none 0 0) .nil := ⟨none, 0, rfl, Nat.le_refl _, Nat.zero_le _, Or.inl rfl⟩

/-- What is left of a slice's row behind its first k elements. -/
def At (w : World) (a : Option Addr) (k : Nat) (g : F) : Prop := g = .nil ∨ ∃ b o, a = some ⟨b, o, none⟩ ∧ Row w b (o + k * 5) g

theorem At.still {w w' : World} (h : Still w w') {a : Option Addr} {k : Nat} {g : F} (hs : At w a k g) : At w' a k g := by
  rcases hs with hs | ⟨b, o, e1, e2⟩
  · exact Or.inl hs
  · exact Or.inr ⟨b, o, e1, Row.still h _ _ _ e2⟩

theorem Sl.at {w : World} {v : Value} {f : F} (hs : Sl w v f) : ∃ a cap, v = .slice a f.len cap ∧ f.len ≤ maxLen ∧ At w a 0 f := by
  obtain ⟨a, cap, rfl, h1, h2, hr⟩ := hs
  refine ⟨a, cap, rfl, Nat.le_trans h1 h2, ?_⟩
  rcases hr with hr | ⟨b, o, e, hr⟩
  · exact Or.inl hr
  · exact Or.inr ⟨b, o, e, by simpa using hr⟩

/-- The first of what is left: its cells, and what is left behind it. -/
theorem At.head {w : World} {a : Option Addr} {i : Nat} {lab : ByteArray} {k : Int} {fr : ByteArray} {ix : Int} {kids rest : F} (h : At w a i (.cons lab k fr ix kids rest)) :
    ∃ b o, a = some ⟨b, o, none⟩ ∧ lab.size ≤ maxLen ∧ fr.size ≤ maxLen ∧ (Lit.int .i64 k).wf = true ∧ (Lit.int .i64 ix).wf = true ∧
      w.cell? ⟨b, o + i * 5, none⟩ = some (.string lab) ∧ w.cell? ⟨b, o + i * 5 + 1, none⟩ = some (.int .i64 k) ∧
      w.cell? ⟨b, o + i * 5 + 2, none⟩ = some (.string fr) ∧
      w.cell? ⟨b, o + i * 5 + 3, none⟩ = some (.int .i64 ix) ∧ (∃ sv, w.cell? ⟨b, o + i * 5 + 4, none⟩ = some sv ∧ Sl w sv kids) ∧ At w a (i + 1) rest := by
  rcases h with h | ⟨b, o, rfl, hr⟩
  · cases h
  · obtain ⟨h2, h3, h5, h6, c0, c1, c2, c3, ⟨a, cap, c4, e1, e2, hs⟩, hrest⟩ := hr
    exact ⟨b, o, rfl, h2, h3, h5, h6, c0, c1, c2, c3, ⟨_, c4, a, cap, rfl, e1, e2, hs⟩, Or.inr ⟨b, o, rfl, by rw [show o + (i + 1) * 5 = o + i * 5 + 5 by omega]; exact hrest⟩⟩

theorem At.tail {w : World} {a : Option Addr} {i : Nat} {lab : ByteArray} {k : Int} {fr : ByteArray} {ix : Int} {kids rest : F} (h : At w a i (.cons lab k fr ix kids rest)) : At w a (i + 1) rest := by
  obtain ⟨_, _, _, _, _, _, _, _, _, _, _, _, h⟩ := h.head
  exact h

/-- As Row, and the blocks below are named: the blocks of the slices, each named once for each slice. -/
def OwRow (w : World) : Nat → Nat → F → List Nat → Prop
  | _, _, .nil, bs => bs = []
  | b, o, .cons lab k fr ix kids rest, bs => lab.size ≤ maxLen ∧ fr.size ≤ maxLen ∧
      (Lit.int .i64 k).wf = true ∧ (Lit.int .i64 ix).wf = true ∧
      w.cell? ⟨b, o, none⟩ = some (.string lab) ∧ w.cell? ⟨b, o + 1, none⟩ = some (.int .i64 k) ∧
      w.cell? ⟨b, o + 2, none⟩ = some (.string fr) ∧
      w.cell? ⟨b, o + 3, none⟩ = some (.int .i64 ix) ∧
      ∃ ks rs, bs = ks ++ rs ∧
      (∃ a cap, w.cell? ⟨b, o + 4, none⟩ = some (.slice a kids.len cap) ∧ kids.len ≤ cap ∧ cap ≤ maxLen ∧
        ((kids = .nil ∧ ks = []) ∨ ∃ b' n ks', a = some ⟨b', 0, none⟩ ∧ ks = b' :: ks' ∧ Free w b' n ∧ kids ≠ .nil ∧ OwRow w b' 0 kids ks')) ∧
      OwRow w b (o + 5) rest rs
/-- A slice of branches reads as the list, and its blocks are these. -/
def Ow (w : World) (v : Value) (f : F) (bs : List Nat) : Prop :=
  ∃ a cap, v = .slice a f.len cap ∧ f.len ≤ cap ∧ cap ≤ maxLen ∧
    ((f = .nil ∧ bs = []) ∨ ∃ b n bs', a = some ⟨b, 0, none⟩ ∧ bs = b :: bs' ∧ Free w b n ∧ f ≠ .nil ∧ OwRow w b 0 f bs')

theorem OwRow.row {w : World} : ∀ (f : F) (b o : Nat) (bs : List Nat), OwRow w b o f bs → Row w b o f := by
  intro f
  induction f with
  | nil => intro b o bs _; trivial
  | cons lab k fr ix kids rest ihk ihr =>
    intro b o bs hr
    obtain ⟨h2, h3, h5, h6, c0, c1, c2, c3, ks, rs, _, ⟨a, cap, c4, e1, e2, hs⟩, hrest⟩ := hr
    refine ⟨h2, h3, h5, h6, c0, c1, c2, c3, ⟨a, cap, c4, e1, e2, ?_⟩, ihr _ _ _ hrest⟩
    rcases hs with ⟨hs, _⟩ | ⟨b', n, ks', e3, _, _, _, e4⟩
    · exact Or.inl hs
    · exact Or.inr ⟨b', 0, e3, ihk _ _ _ e4⟩

theorem Ow.sl {w : World} {v : Value} {f : F} {bs : List Nat} (hs : Ow w v f bs) : Sl w v f := by
  obtain ⟨a, cap, e0, e1, e2, hs⟩ := hs
  refine ⟨a, cap, e0, e1, e2, ?_⟩
  rcases hs with ⟨hs, _⟩ | ⟨b', n, ks', e3, _, _, _, e4⟩
  · exact Or.inl hs
  · exact Or.inr ⟨b', 0, e3, OwRow.row _ _ _ _ e4⟩

theorem Ow.val {w : World} {v : Value} {f : F} {bs : List Nat} (hs : Ow w v f bs) : ∃ a cap, v = .slice a f.len cap := by
  obtain ⟨a, cap, e0, _⟩ := hs
  exact ⟨a, cap, e0⟩

/-- The row's own cells from o on, of so many branches, are the same. -/
theorem OwRow.same {w w' : World} : ∀ (f : F) (b o : Nat) (bs : List Nat), OwRow w b o f bs → (∀ i, i < 5 * f.len → w'.cell? ⟨b, o + i, none⟩ = w.cell? ⟨b, o + i, none⟩) → Same w w' bs → OwRow w' b o f bs := by
  intro f
  induction f with
  | nil => intro b o bs h _ _; exact h
  | cons lab k fr ix kids rest ihk ihr =>
    intro b o bs hr hc hsame
    obtain ⟨h2, h3, h5, h6, c0, c1, c2, c3, ks, rs, rfl, ⟨a, cap, c4, e1, e2, hs⟩, hrest⟩ := hr
    have q : ∀ i, i < 5 → w'.cell? ⟨b, o + i, none⟩ = w.cell? ⟨b, o + i, none⟩ := fun i hi => hc i (by simp only [F.len]; omega)
    refine ⟨h2, h3, h5, h6, (q 0 (by omega)).trans c0, (q 1 (by omega)).trans c1, (q 2 (by omega)).trans c2, (q 3 (by omega)).trans c3, ks, rs, rfl, ⟨a, cap, (q 4 (by omega)).trans c4, e1, e2, ?_⟩,
      ihr _ _ _ hrest (fun i hi => by rw [Nat.add_assoc]; exact hc (5 + i) (by simp only [F.len]; omega)) (fun x hx => hsame x (List.mem_append_right _ hx))⟩
    rcases hs with hs | ⟨b', n, ks', e3, rfl, hf, hne, e4⟩
    · exact Or.inl hs
    · have hb' : w'.heap[b']? = w.heap[b']? := hsame b' (by simp)
      refine Or.inr ⟨b', n, ks', e3, rfl, ?_, hne, ihk _ _ _ e4 (fun i _ => Same.cell hb') (fun x hx => hsame x (by simp [hx]))⟩
      obtain ⟨cs, t, hh, hn⟩ := hf
      exact ⟨cs, t, hb'.trans hh, hn⟩

theorem Ow.same {w w' : World} {v : Value} {f : F} {bs : List Nat} (hs : Ow w v f bs) (h : Same w w' bs) : Ow w' v f bs := by
  obtain ⟨a, cap, e0, e1, e2, hs⟩ := hs
  refine ⟨a, cap, e0, e1, e2, ?_⟩
  rcases hs with hs | ⟨b', n, ks', e3, rfl, hf, hne, e4⟩
  · exact Or.inl hs
  · have hb' : w'.heap[b']? = w.heap[b']? := h b' (by simp)
    refine Or.inr ⟨b', n, ks', e3, rfl, ?_, hne, e4.same _ _ _ _ (fun i _ => Same.cell hb') (fun x hx => h x (by simp [hx]))⟩
    obtain ⟨cs, t, hh, hn⟩ := hf
    exact ⟨cs, t, hb'.trans hh, hn⟩

/-- The blocks lie there. -/
theorem OwRow.lt {w : World} : ∀ (f : F) (b o : Nat) (bs : List Nat), OwRow w b o f bs → ∀ x, x ∈ bs → x < w.heap.size := by
  intro f
  induction f with
  | nil => intro b o bs h x hx; cases h; simp at hx
  | cons lab k fr ix kids rest ihk ihr =>
    intro b o bs hr x hx
    obtain ⟨_, _, _, _, _, _, _, _, ks, rs, rfl, ⟨a, cap, _, _, _, hs⟩, hrest⟩ := hr
    rcases List.mem_append.1 hx with hx | hx
    · rcases hs with ⟨_, rfl⟩ | ⟨b', n, ks', _, rfl, ⟨cs, t, hh, _⟩, _, e4⟩
      · simp at hx
      · rcases List.mem_cons.1 hx with rfl | hx
        · exact (Array.getElem?_eq_some_iff.1 hh).1
        · exact ihk _ _ _ e4 x hx
    · exact ihr _ _ _ hrest x hx

theorem Ow.lt {w : World} {v : Value} {f : F} {bs : List Nat} (hs : Ow w v f bs) : ∀ x, x ∈ bs → x < w.heap.size := by
  intro x hx
  obtain ⟨a, cap, e0, e1, e2, hs⟩ := hs
  rcases hs with ⟨_, rfl⟩ | ⟨b', n, ks', e3, rfl, ⟨cs, t, hh, _⟩, hne, e4⟩
  · simp at hx
  · rcases List.mem_cons.1 hx with rfl | hx
    · exact (Array.getElem?_eq_some_iff.1 hh).1
    · exact e4.lt _ _ _ _ x hx

theorem OwRow.app {w : World} : ∀ (f g : F) (b o : Nat) (bs cs : List Nat), OwRow w b o f bs → OwRow w b (o + 5 * f.len) g cs → OwRow w b o (f.app g) (bs ++ cs) := by
  intro f
  induction f with
  | nil => intro g b o bs cs h hg; cases h; simpa [F.app, F.len] using hg
  | cons lab k fr ix kids rest ihk ihr =>
    intro g b o bs cs hr hg
    obtain ⟨h2, h3, h5, h6, c0, c1, c2, c3, ks, rs, rfl, hs, hrest⟩ := hr
    refine ⟨h2, h3, h5, h6, c0, c1, c2, c3, ks, rs ++ cs, by rw [List.append_assoc], hs, ihr _ _ _ _ _ hrest ?_⟩
    rw [show o + 5 + 5 * rest.len = o + 5 * (rest.len + 1) by omega]
    exact hg

/-- No row of branches lies in a counter's block. -/
theorem Row.only {w w' : World} {c : Nat} {m : Int} (hc : Ctr w c m) (h : Only c w w') : ∀ (f : F) (b o : Nat), Row w b o f → Row w' b o f := by
  intro f
  induction f with
  | nil => intro b o _; trivial
  | cons lab k fr ix kids rest ihk ihr =>
    intro b o hr
    obtain ⟨h2, h3, h5, h6, c0, c1, c2, c3, ⟨a, cap, c4, e1, e2, hs⟩, hrest⟩ := hr
    have hne : b ≠ c := by
      rintro rfl
      obtain ⟨t, hh⟩ := hc
      simp only [World.cell?, hh] at c0 c1
      cases o with
      | zero => simp at c0
      | succ o => simp at c0
    have q : ∀ i v, w.cell? ⟨b, i, none⟩ = some v → w'.cell? ⟨b, i, none⟩ = some v := fun i v e => by
      rw [Same.cell (h.block b (World.block_lt_of_cell? _ _ c0) hne)]; exact e
    refine ⟨h2, h3, h5, h6, q _ _ c0, q _ _ c1, q _ _ c2, q _ _ c3, ⟨a, cap, q _ _ c4, e1, e2, ?_⟩, ihr _ _ hrest⟩
    rcases hs with hs | ⟨b', o', e3, e4⟩
    · exact Or.inl hs
    · exact Or.inr ⟨b', o', e3, ihk _ _ e4⟩

theorem Sl.only {w w' : World} {c : Nat} {m : Int} (hc : Ctr w c m) (h : Only c w w') {v : Value} {f : F} (hs : Sl w v f) : Sl w' v f := by
  obtain ⟨a, cap, e0, e1, e2, hs⟩ := hs
  refine ⟨a, cap, e0, e1, e2, ?_⟩
  rcases hs with hs | ⟨b', o', e3, e4⟩
  · exact Or.inl hs
  · exact Or.inr ⟨b', o', e3, Row.only hc h _ _ _ e4⟩
theorem At.only {w w' : World} {c : Nat} {m : Int} (hc : Ctr w c m) (h : Only c w w') {a : Option Addr} {k : Nat} {g : F} (hs : At w a k g) : At w' a k g := by
  rcases hs with hs | ⟨b, o, e1, e2⟩
  · exact Or.inl hs
  · exact Or.inr ⟨b, o, e1, Row.only hc h _ _ _ e2⟩

/-- Five cells in a row. -/
def set5 (w : World) (b o : Nat) (v0 v1 v2 v3 v4 : Value) : World :=
  ((((w.setCell ⟨b, o, none⟩ v0).setCell ⟨b, o + 1, none⟩ v1).setCell ⟨b, o + 2, none⟩ v2).setCell ⟨b, o + 3, none⟩ v3).setCell ⟨b, o + 4, none⟩ v4

theorem set5_other (w : World) (b o : Nat) (v0 v1 v2 v3 v4 : Value) (x : Nat) (hx : x ≠ b) : (set5 w b o v0 v1 v2 v3 v4).heap[x]? = w.heap[x]? := by
  unfold set5
  repeat rw [Below.heap_setCell _ _ _ _ hx]
theorem set5_below {B : Nat} {a w : World} (h : Below B a w) (b o : Nat) (hb : B ≤ b) (v0 v1 v2 v3 v4 : Value) : Below B a (set5 w b o v0 v1 v2 v3 v4) := by
  unfold set5
  exact ((((h.setCell hb v0).setCell hb v1).setCell hb v2).setCell hb v3).setCell hb v4
theorem set5_heap {w : World} {b n : Nat} (h : Free w b n) (o : Nat) (ho : o + 5 ≤ n) (v0 v1 v2 v3 v4 : Value) :
    (∀ off, off < o ∨ o + 5 ≤ off → (set5 w b o v0 v1 v2 v3 v4).cell? ⟨b, off, none⟩ = w.cell? ⟨b, off, none⟩) ∧
    (set5 w b o v0 v1 v2 v3 v4).cell? ⟨b, o, none⟩ = some v0 ∧ (set5 w b o v0 v1 v2 v3 v4).cell? ⟨b, o + 1, none⟩ = some v1 ∧
    (set5 w b o v0 v1 v2 v3 v4).cell? ⟨b, o + 2, none⟩ = some v2 ∧ (set5 w b o v0 v1 v2 v3 v4).cell? ⟨b, o + 3, none⟩ = some v3 ∧
    (set5 w b o v0 v1 v2 v3 v4).cell? ⟨b, o + 4, none⟩ = some v4 ∧ Free (set5 w b o v0 v1 v2 v3 v4) b n := by
  obtain ⟨cs, t, hh, hn⟩ := h
  have key : (set5 w b o v0 v1 v2 v3 v4).heap[b]? = some (.cells (((((cs.setIfInBounds o v0).setIfInBounds (o + 1) v1).setIfInBounds (o + 2) v2).setIfInBounds (o + 3) v3).setIfInBounds (o + 4) v4) t (0, 0)) :=
    heap_setCell_same (heap_setCell_same (heap_setCell_same (heap_setCell_same (heap_setCell_same hh _) _) _) _) _
  refine ⟨fun off hoff => ?_, ?_, ?_, ?_, ?_, ?_, _, t, key, by simp [hn]⟩
  · rw [cell_of_heap key, cell_of_heap hh]
    simp only [Array.getElem?_setIfInBounds]
    repeat rw [if_neg (by omega)]
  all_goals
    rw [cell_of_heap key]
    simp [Array.getElem?_setIfInBounds]
    omega

/-- A struct of four cells in a box of its own. -/
def Box4 (w : World) (b : Nat) (v0 v1 v2 v3 : Value) : Prop := ∃ t, w.heap[b]? = some (.cells #[v0, v1, v2, v3] t (0, 0))
theorem Box4.below {w w' : World} {b : Nat} {v0 v1 v2 v3 : Value} (h : Box4 w b v0 v1 v2 v3) (hb : Below w.heap.size w w') : Box4 w' b v0 v1 v2 v3 := by
  obtain ⟨t, h⟩ := h
  exact ⟨t, (hb.block _ (Array.getElem?_eq_some_iff.1 h).1).trans h⟩
theorem Box4.same {w w' : World} {b : Nat} {v0 v1 v2 v3 : Value} (h : Box4 w b v0 v1 v2 v3) (e : w'.heap[b]? = w.heap[b]?) : Box4 w' b v0 v1 v2 v3 := by
  obtain ⟨t, h⟩ := h
  exact ⟨t, e.trans h⟩
theorem Box4.now (w : World) (v0 v1 v2 v3 : Value) (t : TypeId) : Box4 (w.alloc (.cells #[v0, v1, v2, v3] t)) w.heap.size v0 v1 v2 v3 :=
  ⟨t, by show (w.heap.push _)[w.heap.size]? = _; simp⟩
theorem Box4.lt {w : World} {b : Nat} {v0 v1 v2 v3 : Value} (h : Box4 w b v0 v1 v2 v3) : b < w.heap.size := by
  obtain ⟨t, h⟩ := h
  exact (Array.getElem?_eq_some_iff.1 h).1
theorem Box4.cells {w : World} {b : Nat} {v0 v1 v2 v3 : Value} (h : Box4 w b v0 v1 v2 v3) :
    w.cell? ⟨b, 0, none⟩ = some v0 ∧ w.cell? ⟨b, 1, none⟩ = some v1 ∧ w.cell? ⟨b, 2, none⟩ = some v2 ∧ w.cell? ⟨b, 3, none⟩ = some v3 := by
  obtain ⟨t, h⟩ := h
  refine ⟨?_, ?_, ?_, ?_⟩ <;> simp [World.cell?, h]
theorem Box4.drew {w : World} {b : Nat} {v0 v1 v2 v3 : Value} (h : Box4 w b v0 v1 v2 v3) : Box4 w.drew b v0 v1 v2 v3 := h

end Go.Proofs.Ytpjbffggeegdaaa.Lo

/- Which local types are valid, and how many nodes they have, in plain words. -/
namespace Go.Proofs.Ytpjbffggeegdaaa.Lo
open Go.RowKit

/-- The fields that the kind does not use. -/
def fieldsB (k : Int) (fr : ByteArray) (ix : Int) : Bool := (k == 2 || k == 3 || fr.toList.isEmpty) && (k == 5 || ix == 0)
/-- Labels that ascend. -/
def ascB : Option ByteArray → F → Bool
  | _, .nil => true
  | p, .cons lab _ _ _ _ rest => labB lab && (match p with | none => true | some q => Op.bytesLess q.toList lab.toList) && ascB (some lab) rest
def branchesB (kids : F) : Bool := ascB none kids && decide (1 ≤ kids.len ∧ kids.len ≤ 4)
/-- The first label is the empty string. -/
def bareB : F → Bool
  | .nil => true
  | .cons lab _ _ _ _ _ => lab.toList.isEmpty

def nodeB (k : Int) (fr : ByteArray) (ix : Int) (kids : F) (b u d : Int) (vr va : Bool) : Bool :=
  decide (1 ≤ d) && fieldsB k fr ix &&
  (if k = 1 then decide (kids.len = 0) else if k = 5 then decide (kids.len = 0) && decide (u ≤ ix) && decide (ix < b)
   else if k = 4 then decide (kids.len = 1) && bareB kids && vr
   else if k = 2 ∨ k = 3 then roleB fr && branchesB kids && va else false)

/-- All nodes of the list are valid, below b recursions, the innermost u of them unguarded, and d levels at most. -/
def vldF : F → Int → Int → Int → Bool
  | .nil, _, _, _ => true
  | .cons _ k fr ix kids rest, b, u, d => nodeB k fr ix kids b u d (vldF kids (b + 1) (u + 1) (d - 1)) (vldF kids b 0 (d - 1)) && vldF rest b u d
def vldN (k : Int) (fr : ByteArray) (ix : Int) (kids : F) (b u d : Int) : Bool :=
  nodeB k fr ix kids b u d (vldF kids (b + 1) (u + 1) (d - 1)) (vldF kids b 0 (d - 1))

/-- The nodes down to a depth. -/
def cntF : F → Int → Nat
  | .nil, _ => 0
  | .cons _ _ _ _ kids rest, d => 1 + (if 0 < d then cntF kids (d - 1) else 0) + cntF rest d
def cntN (kids : F) (d : Int) : Nat := 1 + if 0 < d then cntF kids (d - 1) else 0

theorem cntF_le : ∀ (f : F) (d : Int), cntF f d ≤ f.sz := by
  intro f
  induction f with
  | nil => intro d; exact Nat.le_refl _
  | cons lab k fr ix kids rest ihk ihr =>
    intro d
    have h1 := ihk (d - 1)
    have h2 := ihr d
    simp only [cntF, F.sz]
    split <;> omega

theorem nil_of_len {f : F} (h : f.len = 0) : f = .nil := by
  cases f with
  | nil => rfl
  | cons => simp [F.len] at h

theorem cntF_of_vld : ∀ (f : F) (b u d : Int), vldF f b u d = true → cntF f d = f.sz := by
  intro f
  induction f with
  | nil => intro b u d _; rfl
  | cons lab k fr ix kids rest ihk ihr =>
    intro b u d h
    simp only [vldF, Bool.and_eq_true] at h
    obtain ⟨hn, hr⟩ := h
    simp only [cntF, F.sz]
    rw [ihr b u d hr]
    simp only [nodeB, Bool.and_eq_true, decide_eq_true_eq] at hn
    obtain ⟨⟨hd, _⟩, hk⟩ := hn
    rw [if_pos (by omega)]
    have key : cntF kids (d - 1) = kids.sz := by
      split at hk
      · have e : kids = .nil := nil_of_len (by simpa using hk)
        rw [e]; rfl
      · split at hk
        · simp only [Bool.and_eq_true, decide_eq_true_eq] at hk
          have e : kids = .nil := nil_of_len hk.1.1
          rw [e]; rfl
        · split at hk
          · simp only [Bool.and_eq_true] at hk
            exact ihk _ _ _ hk.2
          · split at hk
            · simp only [Bool.and_eq_true] at hk
              exact ihk _ _ _ hk.2
            · cases hk
    rw [key]
    omega

theorem cntN_of_vld {k : Int} {fr : ByteArray} {ix : Int} {kids : F} {b u d : Int} (h : vldN k fr ix kids b u d = true) : cntN kids d = kids.sz + 1 := by
  have := cntF_of_vld (.cons ⟨#[]⟩ k fr ix kids .nil) b u d (by simp only [vldF, Bool.and_true]; exact h)
  simp only [cntF, F.sz] at this
  unfold cntN
  omega

/-- The fields fit the kind; of the nodes below nothing is said. -/
def shapeB (k : Int) (fr : ByteArray) (ix : Int) (kids : F) : Bool :=
  if k = 1 then fr.toList.isEmpty && ix == 0 && decide (kids.len = 0)
  else if k = 2 ∨ k = 3 then roleB fr && ix == 0 && branchesB kids
  else if k = 4 then fr.toList.isEmpty && ix == 0 && decide (kids.len = 1) && bareB kids
  else if k = 5 then fr.toList.isEmpty && decide (kids.len = 0) else false

theorem nodeB_shape (k : Int) (fr : ByteArray) (ix : Int) (kids : F) (b u d : Int) (vr va : Bool) : nodeB k fr ix kids b u d vr va =
    (decide (1 ≤ d) && shapeB k fr ix kids && (if k = 5 then decide (u ≤ ix) && decide (ix < b) else if k = 4 then vr else if k = 2 ∨ k = 3 then va else true)) := by
  unfold nodeB shapeB fieldsB
  by_cases h1 : k = 1
  · subst h1
    simp [Bool.and_assoc]
  · by_cases h5 : k = 5
    · subst h5
      simp [Bool.and_assoc]
    · by_cases h4 : k = 4
      · subst h4
        simp [Bool.and_assoc]
      · by_cases h2 : k = 2 ∨ k = 3
        · have e : (k == 2 || k == 3 || fr.toList.isEmpty) = true := by rcases h2 with rfl | rfl <;> rfl
          have e5 : (k == 5) = false := beq_eq_false_iff_ne.2 h5
          rw [e, e5, if_neg h1, if_neg h5, if_neg h4, if_pos h2, if_neg h1, if_pos h2, if_neg h5, if_neg h4, if_pos h2]
          generalize roleB fr = x1
          generalize branchesB kids = x4
          generalize (ix == 0) = x5
          cases x1 <;> cases x4 <;> cases x5 <;> cases va <;> simp
        · simp [h1, h2, h4, h5]

/-- A valid root. -/
def okN (k : Int) (fr : ByteArray) (ix : Int) (kids : F) : Bool := vldN k fr ix kids 0 0 40 && decide (kids.sz + 1 ≤ 400)

end Go.Proofs.Ytpjbffggeegdaaa.Lo

/- Unfolding of trees: a closed node in place of a variable, and the copy below an environment. -/
namespace Go.Proofs.Ytpjbffggeegdaaa.Lo
open Go.RowKit

/-- A node. -/
structure Nd where
  k : Int
  fr : ByteArray
  ix : Int
  kids : F

/-- The index behind a node of kind k. -/
def bump (k i : Int) : Int := if k = 4 ∧ 0 ≤ i then i + 1 else i
/-- U in place of the variables with index i. -/
def subF (U : Nd) : F → Int → F
  | .nil, _ => .nil
  | .cons lab k fr ix kids rest, i =>
    if k = 5 ∧ ix = i then .cons lab U.k U.fr U.ix U.kids (subF U rest i)
    else .cons lab k fr ix (subF U kids (bump k i)) (subF U rest i)
def subN (U : Nd) (g : Nd) (i : Int) : Nd := if g.k = 5 ∧ g.ix = i then U else ⟨g.k, g.fr, g.ix, subF U g.kids (bump g.k i)⟩

/-- All variables' indices lie below b. -/
def scF : F → Int → Bool
  | .nil, _ => true
  | .cons _ k _ ix kids rest, b => (if k = 5 then decide (0 ≤ ix) && decide (ix < b) else true) && scF kids (if k = 4 then b + 1 else b) && scF rest b
def scN (g : Nd) (b : Int) : Bool := (if g.k = 5 then decide (0 ≤ g.ix) && decide (g.ix < b) else true) && scF g.kids (if g.k = 4 then b + 1 else b)

/-- No variable of the list has index i, if i lies outside its scope. -/
theorem sub_far (U : Nd) : ∀ (f : F) (b i : Int), scF f b = true → (b ≤ i ∨ i < 0) → 0 ≤ b → subF U f i = f := by
  intro f
  induction f with
  | nil => intro b i _ _ _; rfl
  | cons lab k fr ix kids rest ihk ihr =>
    intro b i h hi hb
    simp only [scF, Bool.and_eq_true] at h
    obtain ⟨⟨h1, h2⟩, h3⟩ := h
    have hne : ¬ (k = 5 ∧ ix = i) := by
      rintro ⟨rfl, rfl⟩
      simp at h1
      omega
    simp only [subF]
    rw [if_neg hne, ihr b i h3 hi hb]
    rw [ihk (if k = 4 then b + 1 else b) (bump k i) h2 ?_ ?_]
    · unfold bump
      split <;> split <;> omega
    · split <;> omega
theorem subN_far (U : Nd) (g : Nd) (b i : Int) (h : scN g b = true) (hi : b ≤ i ∨ i < 0) (hb : 0 ≤ b) : subN U g i = g := by
  obtain ⟨k, fr, ix, kids⟩ := g
  simp only [scN, Bool.and_eq_true] at h
  obtain ⟨h1, h2⟩ := h
  unfold subN
  have hne : ¬ (k = 5 ∧ ix = i) := by
    rintro ⟨rfl, rfl⟩
    simp at h1
    omega
  simp only
  rw [if_neg hne, sub_far U kids (if k = 4 then b + 1 else b) (bump k i) h2 ?_ ?_]
  · unfold bump
    split <;> split <;> omega
  · split <;> omega

/-- The copy below an environment, the innermost recursion first. -/
def cpF : List (Option Nd) → F → F
  | _, .nil => .nil
  | s, .cons lab k fr ix kids rest =>
    if k = 5 then
      match (s[ix.toNat]?).join with
      | some U => .cons lab U.k U.fr U.ix U.kids (cpF s rest)
      | none => .cons lab k fr ix (cpF s kids) (cpF s rest)
    else .cons lab k fr ix (cpF (if k = 4 then none :: s else s) kids) (cpF s rest)
def cpN (s : List (Option Nd)) (g : Nd) : Nd :=
  if g.k = 5 then
    match (s[g.ix.toNat]?).join with
    | some U => U
    | none => ⟨g.k, g.fr, g.ix, cpF s g.kids⟩
  else ⟨g.k, g.fr, g.ix, cpF (if g.k = 4 then none :: s else s) g.kids⟩

/-- Every node of the environment is closed. -/
def ClS (s : List (Option Nd)) : Prop := ∀ U, some U ∈ s → scN U 0 = true
/-- A list of j kept recursions. -/
def kept (j : Nat) : List (Option Nd) := List.replicate j none
theorem kept_succ (j : Nat) (s : List (Option Nd)) : none :: (kept j ++ s) = kept (j + 1) ++ s := rfl
theorem kept_get (j m : Nat) (h : m < j) (s : List (Option Nd)) : ((kept j ++ s)[m]?).join = none := by
  unfold kept
  rw [List.getElem?_append_left (by simpa using h), List.getElem?_replicate, if_pos h]
  rfl
theorem kept_at (j : Nat) (x : Option Nd) (s : List (Option Nd)) : ((kept j ++ x :: s)[j]?).join = x := by
  unfold kept
  rw [List.getElem?_append_right (by simp)]
  simp
theorem kept_past (j m : Nat) (h : j < m) (x y : Option Nd) (s : List (Option Nd)) : ((kept j ++ x :: s)[m]?).join = ((kept j ++ y :: s)[m]?).join := by
  unfold kept
  rw [List.getElem?_append_right (by simp; omega), List.getElem?_append_right (by simp; omega)]
  obtain ⟨n, hn⟩ : ∃ n, m - (List.replicate j (none : Option Nd)).length = n + 1 := ⟨m - j - 1, by simp; omega⟩
  rw [hn]
  rfl
theorem mem_of_join {s : List (Option Nd)} {m : Nat} {U : Nd} (h : (s[m]?).join = some U) : some U ∈ s := by
  cases hx : s[m]? with
  | none => rw [hx] at h; cases h
  | some x =>
    rw [hx] at h
    have hx2 : x = some U := h
    subst hx2
    exact List.mem_of_getElem? hx

/-- The step of the model's loop, in the copy's words. -/
theorem sub_cp (U : Nd) (s : List (Option Nd)) (hs : ClS s) : ∀ (f : F) (j : Nat) (b : Int), scF f b = true →
    subF U (cpF (kept j ++ none :: s) f) (j : Int) = cpF (kept j ++ some U :: s) f := by
  intro f
  induction f with
  | nil => intro j b _; rfl
  | cons lab k fr ix kids rest ihk ihr =>
    intro j b h
    simp only [scF, Bool.and_eq_true] at h
    obtain ⟨⟨h1, h2⟩, h3⟩ := h
    have hr := ihr j b h3
    by_cases h4 : k = 5
    · subst h4
      simp only [if_pos, Bool.and_eq_true, decide_eq_true_eq] at h1
      obtain ⟨h0, _⟩ := h1
      simp only [cpF, if_pos]
      have hkk := ihk j _ h2
      rcases Nat.lt_trichotomy ix.toNat j with hlt | heq | hgt
      · rw [kept_get j _ hlt, kept_get j _ hlt]
        simp only [subF]
        rw [if_neg (by omega), hr]
        have : bump 5 (j : Int) = j := by unfold bump; simp
        rw [this, hkk]
      · rw [heq, kept_at, kept_at]
        simp only [subF]
        rw [if_pos (by refine ⟨by trivial, ?_⟩; omega), hr]
      · rw [kept_past j _ hgt none (some U)]
        cases hv : ((kept j ++ some U :: s)[ix.toNat]?).join with
        | none =>
          simp only [subF]
          rw [if_neg (by omega), hr]
          have : bump 5 (j : Int) = j := by unfold bump; simp
          rw [this, hkk]
        | some V =>
          have hm : some V ∈ s := by
            have hv' := hv
            unfold kept at hv'
            rw [List.getElem?_append_right (by simp; omega)] at hv'
            obtain ⟨n, hn⟩ : ∃ n, ix.toNat - (List.replicate j (none : Option Nd)).length = n + 1 := ⟨ix.toNat - j - 1, by simp; omega⟩
            rw [hn] at hv'
            exact mem_of_join hv'
          have hc := subN_far U V 0 (j : Int) (hs V hm) (Or.inl (by omega)) (by omega)
          unfold subN at hc
          simp only [subF]
          by_cases hq : V.k = 5 ∧ V.ix = j
          · have := hs V hm
            simp only [scN, hq.1, if_pos, Bool.and_eq_true, decide_eq_true_eq] at this
            omega
          · rw [if_neg hq] at hc ⊢
            rw [hr]
            have : subF U V.kids (bump V.k j) = V.kids := by
              have := congrArg Nd.kids hc
              simpa using this
            rw [this]
    · simp only [cpF, if_neg h4]
      simp only [subF]
      rw [if_neg (by omega), hr]
      congr 1
      by_cases h33 : k = 4
      · subst h33
        have := ihk (j + 1) (b + 1) (by simpa using h2)
        simp only [if_pos] at this ⊢
        rw [← kept_succ, ← kept_succ] at this
        rw [show bump 4 (j : Int) = ((j + 1 : Nat) : Int) by unfold bump; rw [if_pos ⟨rfl, by omega⟩]; omega]
        exact this
      · have := ihk j b (by rw [if_neg h33] at h2; exact h2)
        simp only [if_neg h33]
        rw [show bump k (j : Int) = j by unfold bump; rw [if_neg (by omega)]]
        exact this

/-- A copy is in scope. -/
theorem sc_mono : ∀ (f : F) (b c : Int), scF f b = true → b ≤ c → scF f c = true := by
  intro f
  induction f with
  | nil => intro b c _ _; rfl
  | cons lab k fr ix kids rest ihk ihr =>
    intro b c h hbc
    simp only [scF, Bool.and_eq_true] at h ⊢
    obtain ⟨⟨h1, h2⟩, h3⟩ := h
    refine ⟨⟨?_, ihk _ _ h2 (by split <;> omega)⟩, ihr _ _ h3 hbc⟩
    split at h1
    · rename_i h4
      simp only [if_pos h4, Bool.and_eq_true, decide_eq_true_eq] at h1 ⊢
      omega
    · rename_i h4
      rw [if_neg h4]
theorem cp_sc (s : List (Option Nd)) (hs : ClS s) : ∀ (f : F) (j : Nat), scF f ((j + s.length : Nat) : Int) = true → (∀ x, x ∈ s → x ≠ none) → scF (cpF (kept j ++ s) f) (j : Int) = true := by
  intro f
  induction f with
  | nil => intro j _ _; rfl
  | cons lab k fr ix kids rest ihk ihr =>
    intro j h hne
    simp only [scF, Bool.and_eq_true] at h
    obtain ⟨⟨h1, h2⟩, h3⟩ := h
    have hr := ihr j h3 hne
    by_cases h4 : k = 5
    · subst h4
      simp only [if_pos, Bool.and_eq_true, decide_eq_true_eq] at h1
      simp only [cpF, if_pos]
      have hk := ihk j (by simpa using h2) hne
      by_cases hlt : ix.toNat < j
      · rw [kept_get j _ hlt]
        simp only [scF, if_pos, Bool.and_eq_true, decide_eq_true_eq]
        exact ⟨⟨⟨h1.1, by omega⟩, by simpa using hk⟩, hr⟩
      · have hx : ∃ V, ((kept j ++ s)[ix.toNat]?).join = some V ∧ some V ∈ s := by
          unfold kept
          rw [List.getElem?_append_right (by simp; omega)]
          have hl : ix.toNat - (List.replicate j (none : Option Nd)).length < s.length := by simp; omega
          rw [List.getElem?_eq_getElem hl]
          have hm := List.getElem_mem hl
          cases hv : s[ix.toNat - (List.replicate j (none : Option Nd)).length] with
          | none => rw [hv] at hm; exact absurd rfl (hne _ hm)
          | some V => rw [hv] at hm; exact ⟨V, rfl, hm⟩
        obtain ⟨V, hv, hm⟩ := hx
        rw [hv]
        have hc := hs V hm
        simp only [scN, Bool.and_eq_true] at hc
        simp only [scF, Bool.and_eq_true]
        refine ⟨⟨?_, ?_⟩, hr⟩
        · have := hc.1
          split at this
          · simp only [Bool.and_eq_true, decide_eq_true_eq] at this
            omega
          · rename_i hn; rw [if_neg hn]
        · exact sc_mono _ _ _ hc.2 (by split <;> omega)
    · simp only [cpF, if_neg h4]
      simp only [scF, Bool.and_eq_true]
      refine ⟨⟨by rw [if_neg h4], ?_⟩, hr⟩
      by_cases h33 : k = 4
      · subst h33
        have := ihk (j + 1) (by rw [if_pos rfl] at h2; rw [show ((j + 1 + s.length : Nat) : Int) = ((j + s.length : Nat) : Int) + 1 by omega]; exact h2) hne
        simp only [if_pos] at this ⊢
        rw [← kept_succ] at this
        exact this
      · simp only [if_neg h33]
        exact ihk j (by rw [if_neg h33] at h2; exact h2) hne

/-- What is valid is in scope. -/
theorem sc_of_vld : ∀ (f : F) (b u d : Int), 0 ≤ u → vldF f b u d = true → scF f b = true := by
  intro f
  induction f with
  | nil => intro b u d _ _; rfl
  | cons lab k fr ix kids rest ihk ihr =>
    intro b u d hu h
    simp only [vldF, Bool.and_eq_true] at h
    obtain ⟨hn, hr⟩ := h
    rw [nodeB_shape] at hn
    simp only [Bool.and_eq_true, decide_eq_true_eq] at hn
    obtain ⟨⟨_, hsh⟩, hk⟩ := hn
    simp only [scF, Bool.and_eq_true]
    refine ⟨?_, ihr b u d hu hr⟩
    by_cases h4 : k = 5
    · subst h4
      simp only [if_pos, Bool.and_eq_true, decide_eq_true_eq] at hk
      have hnil : kids = .nil := by
        simp [shapeB] at hsh
        exact nil_of_len hsh.2
      subst hnil
      simp only [if_pos, Bool.and_eq_true, decide_eq_true_eq, scF, and_true]
      omega
    · rw [if_neg h4]
      rw [if_neg h4] at hk
      refine ⟨rfl, ?_⟩
      by_cases h3 : k = 4
      · rw [if_pos h3] at hk ⊢
        exact ihk _ _ _ (by omega) hk
      · rw [if_neg h3] at hk ⊢
        by_cases h2 : k = 2 ∨ k = 3
        · rw [if_pos h2] at hk
          exact ihk _ _ _ (by omega) hk
        · have h1 : k = 1 := by
            by_cases h1 : k = 1
            · exact h1
            · simp [shapeB, h1, h2, h3, h4] at hsh
          subst h1
          have hnil : kids = .nil := by
            simp [shapeB] at hsh
            exact nil_of_len hsh.2
          subst hnil
          rfl
end Go.Proofs.Ytpjbffggeegdaaa.Lo

/- Heights of trees; validity is shape, scope and height; the copy of a valid tree below an environment of valid closed nodes is valid up to its height. -/
namespace Go.Proofs.Ytpjbffggeegdaaa.Lo
open Go.RowKit

/-- The levels of a list of branches. -/
def hF : F → Nat
  | .nil => 0
  | .cons _ _ _ _ kids rest => max (1 + hF kids) (hF rest)
def hN (g : Nd) : Nat := 1 + hF g.kids
/-- Valid but for the depth: below b recursions, the innermost u of them unguarded. -/
def wF : F → Int → Int → Bool
  | .nil, _, _ => true
  | .cons _ k fr ix kids rest, b, u => (shapeB k fr ix kids && (if k = 5 then decide (u ≤ ix) && decide (ix < b) else if k = 4 then wF kids (b + 1) (u + 1) else if k = 2 ∨ k = 3 then wF kids b 0 else true)) && wF rest b u
def wN (g : Nd) (b u : Int) : Bool := shapeB g.k g.fr g.ix g.kids && (if g.k = 5 then decide (u ≤ g.ix) && decide (g.ix < b) else if g.k = 4 then wF g.kids (b + 1) (u + 1) else if g.k = 2 ∨ g.k = 3 then wF g.kids b 0 else true)

theorem shape_leaf {k : Int} {fr : ByteArray} {ix : Int} {kids : F} (h : shapeB k fr ix kids = true) (h2 : ¬ (k = 2 ∨ k = 3)) (h3 : k ≠ 4) : kids = .nil := by
  unfold shapeB at h
  by_cases h1 : k = 1
  · subst h1
    simp at h
    exact nil_of_len h.2
  · by_cases h5 : k = 5
    · subst h5
      simp at h
      exact nil_of_len h.2
    · rw [if_neg h1, if_neg h2, if_neg h3, if_neg h5] at h
      cases h

theorem nodeB_w (k : Int) (fr : ByteArray) (ix : Int) (kids : F) (b u d : Int) (w3 w2 : Bool) (hd : 0 ≤ d) (vr vm : Bool)
    (e3 : 1 ≤ d → vr = (w3 && decide ((hF kids : Int) ≤ d - 1))) (e2 : 1 ≤ d → vm = (w2 && decide ((hF kids : Int) ≤ d - 1))) :
    nodeB k fr ix kids b u d vr vm = (shapeB k fr ix kids && (if k = 5 then decide (u ≤ ix) && decide (ix < b) else if k = 4 then w3 else if k = 2 ∨ k = 3 then w2 else true) && decide (((1 + hF kids : Nat) : Int) ≤ d)) := by
  rw [nodeB_shape]
  by_cases hd1 : 1 ≤ d
  · rw [decide_eq_true hd1, Bool.true_and]
    have hde : decide (((1 + hF kids : Nat) : Int) ≤ d) = decide ((hF kids : Int) ≤ d - 1) := by
      apply decide_eq_decide.2
      omega
    rw [hde]
    cases hsh : shapeB k fr ix kids with
    | false => simp
    | true =>
      simp only [Bool.true_and]
      by_cases h3 : k = 4
      · subst h3
        simp only [if_neg (show ¬ (4 : Int) = 5 by decide), if_true]
        exact e3 hd1
      · by_cases h2 : k = 2 ∨ k = 3
        · rw [if_neg (by omega), if_neg h3, if_pos h2, if_neg (by omega), if_neg h3, if_pos h2]
          exact e2 hd1
        · have hn := shape_leaf hsh h2 h3
          subst hn
          have : decide (((hF .nil : Nat) : Int) ≤ d - 1) = true := decide_eq_true (by simp only [hF]; omega)
          rw [this]
          simp only [if_neg h2, if_neg h3, Bool.and_true]
  · rw [decide_eq_false hd1, decide_eq_false (show ¬ ((1 + hF kids : Nat) : Int) ≤ d by omega)]
    simp

theorem vldF_w : ∀ (f : F) (b u d : Int), 0 ≤ u → 0 ≤ d → vldF f b u d = (wF f b u && decide ((hF f : Int) ≤ d)) := by
  intro f
  induction f with
  | nil =>
    intro b u d _ hd
    simp only [vldF, wF, hF, Bool.true_and]
    exact (decide_eq_true (by omega)).symm
  | cons lab k fr ix kids rest ihk ihr =>
    intro b u d hu hd
    simp only [vldF, wF]
    rw [ihr b u d hu hd, nodeB_w k fr ix kids b u d (wF kids (b + 1) (u + 1)) (wF kids b 0) hd _ _ (fun h => ihk _ _ _ (by omega) (by omega)) (fun h => ihk _ _ _ (by omega) (by omega))]
    have hm : decide (((hF (.cons lab k fr ix kids rest) : Nat) : Int) ≤ d) = (decide (((1 + hF kids : Nat) : Int) ≤ d) && decide ((hF rest : Int) ≤ d)) := by
      rw [← Bool.decide_and]
      apply decide_eq_decide.2
      simp only [hF]
      omega
    rw [hm]
    generalize decide (((1 + hF kids : Nat) : Int) ≤ d) = x
    generalize decide ((hF rest : Int) ≤ d) = y
    generalize wF rest b u = z
    generalize (shapeB k fr ix kids && _) = t
    cases x <;> cases y <;> cases z <;> cases t <;> rfl
theorem vldN_w (g : Nd) (b u d : Int) (hu : 0 ≤ u) (hd : 0 ≤ d) : vldN g.k g.fr g.ix g.kids b u d = (wN g b u && decide ((hN g : Int) ≤ d)) := by
  unfold vldN wN hN
  exact nodeB_w g.k g.fr g.ix g.kids b u d _ _ hd _ _ (fun h => vldF_w _ _ _ _ (by omega) (by omega)) (fun h => vldF_w _ _ _ _ (by omega) (by omega))

/-- More recursions around. -/
theorem wF_mono : ∀ (f : F) (b c u : Int), wF f b u = true → b ≤ c → wF f c u = true := by
  intro f
  induction f with
  | nil => intro b c u _ _; rfl
  | cons lab k fr ix kids rest ihk ihr =>
    intro b c u h hbc
    simp only [wF, Bool.and_eq_true] at h ⊢
    obtain ⟨⟨h1, h2⟩, h3⟩ := h
    refine ⟨⟨h1, ?_⟩, ihr _ _ _ h3 hbc⟩
    by_cases h4 : k = 5
    · simp only [if_pos h4, Bool.and_eq_true, decide_eq_true_eq] at h2 ⊢
      omega
    · simp only [if_neg h4] at h2 ⊢
      by_cases hk3 : k = 4
      · simp only [if_pos hk3] at h2 ⊢
        exact ihk _ _ _ h2 (by omega)
      · simp only [if_neg hk3] at h2 ⊢
        by_cases hk2 : k = 2 ∨ k = 3
        · simp only [if_pos hk2] at h2 ⊢
          exact ihk _ _ _ h2 hbc
        · simp only [if_neg hk2]
/-- A tree of which no variable is unguarded, put in another place. -/
theorem wF_put : ∀ (f : F) (b c v : Int), wF f b b = true → b ≤ c → wF f c v = true := by
  intro f
  induction f with
  | nil => intro b c v _ _; rfl
  | cons lab k fr ix kids rest ihk ihr =>
    intro b c v h hbc
    simp only [wF, Bool.and_eq_true] at h ⊢
    obtain ⟨⟨h1, h2⟩, h3⟩ := h
    refine ⟨⟨h1, ?_⟩, ihr _ _ _ h3 hbc⟩
    by_cases h4 : k = 5
    · simp only [if_pos h4, Bool.and_eq_true, decide_eq_true_eq] at h2
      omega
    · simp only [if_neg h4] at h2 ⊢
      by_cases hk3 : k = 4
      · simp only [if_pos hk3] at h2 ⊢
        exact ihk _ _ _ h2 (by omega)
      · simp only [if_neg hk3] at h2 ⊢
        by_cases hk2 : k = 2 ∨ k = 3
        · simp only [if_pos hk2] at h2 ⊢
          exact wF_mono _ _ _ _ h2 hbc
        · simp only [if_neg hk2]
theorem wN_put (g : Nd) (c v : Int) (h : wN g 0 0 = true) (hc : 0 ≤ c) : wN g c v = true := by
  have := wF_put (.cons ⟨#[]⟩ g.k g.fr g.ix g.kids .nil) 0 c v (by simp only [wF, Bool.and_true]; exact h) hc
  simp only [wF, Bool.and_true] at this
  exact this

theorem cpF_len : ∀ (f : F) (s : List (Option Nd)), (cpF s f).len = f.len
  | .nil, s => by rw [cpF]
  | .cons lab k fr ix kids rest, s => by
    unfold cpF
    split
    · split <;> simp only [F.len, cpF_len rest s]
    · simp only [F.len, cpF_len rest s]
theorem cpF_asc : ∀ (f : F) (s : List (Option Nd)) (p : Option ByteArray), ascB p (cpF s f) = ascB p f
  | .nil, s, p => by rw [cpF]
  | .cons lab k fr ix kids rest, s, p => by
    unfold cpF
    split
    · split <;> simp only [ascB, cpF_asc rest s (some lab)]
    · simp only [ascB, cpF_asc rest s (some lab)]
theorem cpF_bare : ∀ (f : F) (s : List (Option Nd)), bareB (cpF s f) = bareB f
  | .nil, s => by rw [cpF]
  | .cons lab k fr ix kids rest, s => by
    unfold cpF
    split
    · split <;> rfl
    · rfl
theorem cpF_shape (k : Int) (fr : ByteArray) (ix : Int) (f : F) (s : List (Option Nd)) : shapeB k fr ix (cpF s f) = shapeB k fr ix f := by
  unfold shapeB branchesB
  rw [cpF_len, cpF_asc, cpF_bare]

/-- Every node of the environment is a valid closed type but for its depth. -/
def VaS (s : List (Option Nd)) : Prop := ∀ x, x ∈ s → ∃ U, x = some U ∧ wN U 0 0 = true
theorem VaS.join {s : List (Option Nd)} (hs : VaS s) {m : Nat} (h : m < s.length) : ∃ U, (s[m]?).join = some U ∧ wN U 0 0 = true := by
  rw [List.getElem?_eq_getElem h]
  obtain ⟨U, e, hu⟩ := hs _ (List.getElem_mem h)
  exact ⟨U, by rw [e]; rfl, hu⟩

/-- The copy of a valid tree. -/
theorem cp_w (s : List (Option Nd)) (hs : VaS s) : ∀ (f : F) (j : Nat) (u : Int), 0 ≤ u → wF f ((j + s.length : Nat) : Int) u = true → wF (cpF (kept j ++ s) f) (j : Int) (min u (j : Int)) = true := by
  intro f
  induction f with
  | nil => intro j u _ _; rfl
  | cons lab k fr ix kids rest ihk ihr =>
    intro j u hu h
    simp only [wF, Bool.and_eq_true] at h
    obtain ⟨⟨h1, h2⟩, h3⟩ := h
    have hr := ihr j u hu h3
    by_cases h4 : k = 5
    · subst h4
      have hn := shape_leaf h1 (by decide) (by decide)
      subst hn
      simp only [if_true, Bool.and_eq_true, decide_eq_true_eq] at h2
      simp only [cpF, if_true]
      by_cases hlt : ix.toNat < j
      · rw [kept_get j _ hlt]
        simp only [wF, if_true, Bool.and_eq_true, decide_eq_true_eq]
        exact ⟨⟨h1, by omega, by omega⟩, hr⟩
      · have hx : ∃ U, ((kept j ++ s)[ix.toNat]?).join = some U ∧ wN U 0 0 = true := by
          unfold kept
          rw [List.getElem?_append_right (by simp; omega)]
          exact hs.join (by simp; omega)
        obtain ⟨U, e, hU⟩ := hx
        rw [e]
        have := wN_put U (j : Int) (min u j) hU (by omega)
        simp only [wF, Bool.and_eq_true]
        unfold wN at this
        simp only [Bool.and_eq_true] at this
        exact ⟨this, hr⟩
    · simp only [cpF, if_neg h4]
      simp only [wF, Bool.and_eq_true]
      rw [if_neg h4] at h2
      refine ⟨⟨by rw [cpF_shape]; exact h1, ?_⟩, hr⟩
      rw [if_neg h4]
      by_cases hk3 : k = 4
      · rw [if_pos hk3] at h2
        simp only [if_pos hk3]
        have := ihk (j + 1) (u + 1) (by omega) (by rw [show ((j + 1 + s.length : Nat) : Int) = ((j + s.length : Nat) : Int) + 1 by omega]; exact h2)
        rw [← kept_succ, show min (u + 1) ((j + 1 : Nat) : Int) = min u (j : Int) + 1 by omega] at this
        exact this
      · rw [if_neg hk3] at h2
        simp only [if_neg hk3]
        by_cases hk2 : k = 2 ∨ k = 3
        · rw [if_pos hk2] at h2
          simp only [if_pos hk2]
          have := ihk j 0 (by omega) h2
          rw [show min 0 (j : Int) = 0 by omega] at this
          exact this
        · simp only [if_neg hk2]
/-- The copy of a valid node below closed nodes is valid and closed. -/
theorem cpN_w (s : List (Option Nd)) (hs : VaS s) (g : Nd) (h : wN g (s.length : Int) 0 = true) : wN (cpN s g) 0 0 = true := by
  have := cp_w s hs (.cons ⟨#[]⟩ g.k g.fr g.ix g.kids .nil) 0 0 (by omega) (by simp only [wF, Bool.and_true]; simpa [wN] using h)
  simp only [kept, List.replicate_zero, List.nil_append, cpF] at this
  unfold cpN
  by_cases h4 : g.k = 5
  · simp only [if_pos h4] at this ⊢
    cases hv : (s[g.ix.toNat]?).join with
    | none =>
      rw [hv] at this
      simp only [wF, Bool.and_true] at this
      unfold wN
      exact this
    | some U =>
      rw [hv] at this
      simp only [wF, Bool.and_true] at this
      unfold wN
      exact this
  · simp only [if_neg h4] at this ⊢
    simp only [wF, Bool.and_true] at this
    unfold wN
    exact this

/-- Fewer unguarded recursions. -/
theorem wF_u : ∀ (f : F) (b u v : Int), wF f b u = true → v ≤ u → wF f b v = true := by
  intro f
  induction f with
  | nil => intro b u v _ _; rfl
  | cons lab k fr ix kids rest ihk ihr =>
    intro b u v h huv
    simp only [wF, Bool.and_eq_true] at h ⊢
    obtain ⟨⟨h1, h2⟩, h3⟩ := h
    refine ⟨⟨h1, ?_⟩, ihr _ _ _ h3 huv⟩
    by_cases h4 : k = 5
    · simp only [if_pos h4, Bool.and_eq_true, decide_eq_true_eq] at h2 ⊢
      omega
    · simp only [if_neg h4] at h2 ⊢
      by_cases hk3 : k = 4
      · simp only [if_pos hk3] at h2 ⊢
        exact ihk _ _ _ h2 (by omega)
      · simp only [if_neg hk3] at h2 ⊢
        exact h2
theorem wN_u (g : Nd) (b u v : Int) (h : wN g b u = true) (huv : v ≤ u) : wN g b v = true := by
  have := wF_u (.cons ⟨#[]⟩ g.k g.fr g.ix g.kids .nil) b u v (by simp only [wF, Bool.and_true]; exact h) huv
  simp only [wF, Bool.and_true] at this
  exact this

/-- The copy of a list, node by node. -/
theorem cpF_cons (s : List (Option Nd)) (lab : ByteArray) (k : Int) (fr : ByteArray) (ix : Int) (kids rest : F) :
    cpF s (.cons lab k fr ix kids rest) = .cons lab (cpN s ⟨k, fr, ix, kids⟩).k (cpN s ⟨k, fr, ix, kids⟩).fr (cpN s ⟨k, fr, ix, kids⟩).ix (cpN s ⟨k, fr, ix, kids⟩).kids (cpF s rest) := by
  conv => lhs; unfold cpF
  unfold cpN
  simp only
  by_cases h4 : k = 5
  · simp only [if_pos h4]
    cases (s[ix.toNat]?).join <;> rfl
  · simp only [if_neg h4]
theorem cpF_app (s : List (Option Nd)) (g : F) : ∀ f : F, cpF s (f.app g) = (cpF s f).app (cpF s g)
  | .nil => by rw [F.app, cpF, F.app]
  | .cons lab k fr ix kids rest => by rw [F.app, cpF_cons, cpF_cons, cpF_app s g rest, F.app]
theorem hF_app (g : F) : ∀ f : F, hF (f.app g) = max (hF f) (hF g)
  | .nil => by simp [F.app, hF]
  | .cons lab k fr ix kids rest => by simp only [F.app, hF, hF_app g rest]; omega
theorem subF_cons (U : Nd) (lab : ByteArray) (k : Int) (fr : ByteArray) (ix : Int) (kids rest : F) (i : Int) :
    subF U (.cons lab k fr ix kids rest) i = .cons lab (subN U ⟨k, fr, ix, kids⟩ i).k (subN U ⟨k, fr, ix, kids⟩ i).fr (subN U ⟨k, fr, ix, kids⟩ i).ix (subN U ⟨k, fr, ix, kids⟩ i).kids (subF U rest i) := by
  conv => lhs; unfold subF
  unfold subN
  simp only
  split <;> rfl
theorem subF_app (U : Nd) (g : F) (i : Int) : ∀ f : F, subF U (f.app g) i = (subF U f i).app (subF U g i)
  | .nil => by rw [F.app, subF, F.app]
  | .cons lab k fr ix kids rest => by rw [F.app, subF_cons, subF_cons, subF_app U g i rest, F.app]
theorem subF_len (U : Nd) (i : Int) : ∀ f : F, (subF U f i).len = f.len
  | .nil => rfl
  | .cons lab k fr ix kids rest => by rw [subF_cons]; simp only [F.len, subF_len U i rest]

/-- How high a copy may get. -/
theorem cpF_h (B : Nat) : ∀ (f : F) (s : List (Option Nd)), (∀ U, some U ∈ s → hN U ≤ B) → hF (cpF s f) ≤ hF f + B := by
  intro f
  induction f with
  | nil => intro s _; simp [cpF, hF]
  | cons lab k fr ix kids rest ihk ihr =>
    intro s hs
    have hr := ihr s hs
    unfold cpF
    by_cases h4 : k = 5
    · simp only [if_pos h4]
      cases hv : (s[ix.toNat]?).join with
      | none =>
        have := ihk s hs
        simp only [hF]
        omega
      | some U =>
        have := hs U (mem_of_join hv)
        unfold hN at this
        simp only [hF]
        omega
    · simp only [if_neg h4, hF]
      have : hF (cpF (if k = 4 then none :: s else s) kids) ≤ hF kids + B := by
        by_cases h3 : k = 4
        · rw [if_pos h3]
          refine ihk _ (fun U hU => hs U ?_)
          rcases List.mem_cons.1 hU with h | h
          · cases h
          · exact h
        · rw [if_neg h3]
          exact ihk _ hs
      omega
theorem cpN_h (B : Nat) (g : Nd) (s : List (Option Nd)) (hs : ∀ U, some U ∈ s → hN U ≤ B) : hN (cpN s g) ≤ hN g + B := by
  obtain ⟨gk, gf, gi, gq⟩ := g
  have := cpF_h B (.cons ⟨#[]⟩ gk gf gi gq .nil) s hs
  rw [cpF_cons] at this
  simp only [hF, cpF] at this
  simp only [hN]
  omega

/-- The step of the model's loop for one node. -/
theorem sub_cpN (U : Nd) (s : List (Option Nd)) (hs : ClS s) (g : Nd) (b : Int) (h : scN g b = true) : subN U (cpN (none :: s) g) 0 = cpN (some U :: s) g := by
  have := sub_cp U s hs (.cons ⟨#[]⟩ g.k g.fr g.ix g.kids .nil) 0 b (by simp only [scF, Bool.and_true]; exact h)
  simp only [kept, List.replicate_zero, List.nil_append] at this
  rw [cpF_cons, cpF_cons, subF_cons] at this
  simp only [F.cons.injEq] at this
  obtain ⟨_, h1, h2, h3, h4, _⟩ := this
  have e : ∀ a b : Nd, a.k = b.k → a.fr = b.fr → a.ix = b.ix → a.kids = b.kids → a = b := by
    intro a b
    cases a
    cases b
    simp only [Nd.mk.injEq]
    exact fun h1 h2 h3 h4 => ⟨h1, h2, h3, h4⟩
  exact e _ _ h1 h2 h3 h4

/-- In scope from valid. -/
theorem sc_of_w : ∀ (f : F) (b u : Int), 0 ≤ u → wF f b u = true → scF f b = true := by
  intro f b u hu h
  have h2 := vldF_w f b u (hF f : Int) hu (by omega)
  rw [h, Bool.true_and] at h2
  exact sc_of_vld f b u _ hu (by rw [h2]; exact decide_eq_true (by omega))
theorem scN_of_w (g : Nd) (b u : Int) (hu : 0 ≤ u) (h : wN g b u = true) : scN g b = true := by
  have := sc_of_w (.cons ⟨#[]⟩ g.k g.fr g.ix g.kids .nil) b u hu (by simp only [wF, Bool.and_true]; exact h)
  simp only [scF, Bool.and_true] at this
  exact this
theorem VaS.cl {s : List (Option Nd)} (hs : VaS s) : ClS s := by
  intro U hU
  obtain ⟨V, e, hv⟩ := hs _ hU
  cases e
  exact scN_of_w U 0 0 (by omega) hv

/-- The recursions at the root unfolded: the environment's nodes are closed. -/
def unfN : Nat → List (Option Nd) → Nd → Nd
  | 0, s, g => cpN s g
  | n + 1, s, g => if g.k = 4 then (match g.kids with | .cons _ k fr ix kids _ => unfN n (some (cpN s g) :: s) ⟨k, fr, ix, kids⟩ | .nil => cpN s g) else cpN s g
/-- The unfolding of a node. -/
def unf (g : Nd) : Nd := unfN (g.kids.sz + 1) [] g

theorem unfN_w : ∀ (n : Nat) (s : List (Option Nd)) (g : Nd), VaS s → wN g (s.length : Int) (s.length : Int) = true → wN (unfN n s g) 0 0 = true := by
  intro n
  induction n with
  | zero => intro s g hs h; exact cpN_w s hs g (wN_u _ _ _ _ h (by omega))
  | succ n ih =>
    intro s g hs h
    have hc := cpN_w s hs g (wN_u _ _ _ _ h (by omega))
    unfold unfN
    by_cases h3 : g.k = 4
    · rw [if_pos h3]
      cases hk : g.kids with
      | nil => exact hc
      | cons lab k fr ix kids rest =>
        simp only
        refine ih _ _ ?_ ?_
        · intro x hx
          rcases List.mem_cons.1 hx with rfl | hx
          · exact ⟨_, rfl, hc⟩
          · exact hs x hx
        · unfold wN at h
          simp only [Bool.and_eq_true] at h
          have h2 := h.2
          rw [if_neg (by omega), if_pos h3, hk] at h2
          simp only [wF, Bool.and_eq_true] at h2
          unfold wN
          simp only [Bool.and_eq_true]
          rw [show (((some (cpN s g) :: s).length : Nat) : Int) = (s.length : Int) + 1 by simp]
          exact h2.1
    · rw [if_neg h3]
      exact hc
end Go.Proofs.Ytpjbffggeegdaaa.Lo

/- A slice of branches of the call's own that grows by append: its cells and the tree that it reads as. -/
namespace Go.Proofs.Ytpjbffggeegdaaa.Lo
open Go.RowKit

/-- The row's cells stand at another place. -/
theorem OwRow.moved {w w' : World} : ∀ (f : F) (b o b' o' : Nat) (bs : List Nat), OwRow w b o f bs → (∀ i, i < 5 * f.len → w'.cell? ⟨b', o' + i, none⟩ = w.cell? ⟨b, o + i, none⟩) → Same w w' bs → OwRow w' b' o' f bs := by
  intro f
  induction f with
  | nil => intro b o b' o' bs h _ _; exact h
  | cons lab k fr ix kids rest ihk ihr =>
    intro b o b' o' bs hr hc hsame
    obtain ⟨h2, h3, h4, h5, c0, c1, c2, c3, ks, rs, rfl, ⟨a, cap, c5, e1, e2, hs⟩, hrest⟩ := hr
    have q : ∀ i, i < 5 → w'.cell? ⟨b', o' + i, none⟩ = w.cell? ⟨b, o + i, none⟩ := fun i hi => hc i (by simp only [F.len]; omega)
    refine ⟨h2, h3, h4, h5, (q 0 (by omega)).trans c0, (q 1 (by omega)).trans c1, (q 2 (by omega)).trans c2, (q 3 (by omega)).trans c3, ks, rs, rfl, ⟨a, cap, (q 4 (by omega)).trans c5, e1, e2, ?_⟩,
      ihr _ _ _ _ _ hrest (fun i hi => by rw [Nat.add_assoc, Nat.add_assoc]; exact hc (5 + i) (by simp only [F.len]; omega)) (fun x hx => hsame x (List.mem_append_right _ hx))⟩
    rcases hs with hs | ⟨b2, n, ks', e3, rfl, hf, hne, e4⟩
    · exact Or.inl hs
    · have hb' : w'.heap[b2]? = w.heap[b2]? := hsame b2 (by simp)
      refine Or.inr ⟨b2, n, ks', e3, rfl, ?_, hne, e4.same _ _ _ _ (fun i _ => Same.cell hb') (fun x hx => hsame x (by simp [hx]))⟩
      obtain ⟨cs, t, hh, hn⟩ := hf
      exact ⟨cs, t, hb'.trans hh, hn⟩

/-- The slice that grows: nil, or a row of its own block, from base on, the blocks below it from base on too, each named once. -/
def Gr (w : World) (base : Nat) (v : Value) (f : F) (bs : List Nat) : Prop :=
  (f = .nil ∧ v = .slice none 0 0 ∧ bs = []) ∨
  ∃ g cap cur bs', v = .slice (some ⟨g, 0, none⟩) f.len cap ∧ base ≤ g ∧ w.heap[g]? = some (.cells cur ( /- t -/ 65) (0, 0)) ∧ f.len ≤ cap ∧ cap ≤ maxLen ∧ cur.size = cap * 5 ∧
    f ≠ .nil ∧ bs = g :: bs' ∧ OwRow w g 0 f bs' ∧ (∀ b, b ∈ bs' → base ≤ b) ∧ (g :: bs').Nodup

theorem Gr.nil (w : World) (base : Nat) : Gr w base (.slice none 0 0) .nil [] := Or.inl ⟨rfl, rfl, rfl⟩
theorem Gr.ow {w : World} {base : Nat} {v : Value} {f : F} {bs : List Nat} (h : Gr w base v f bs) : Ow w v f bs := by
  rcases h with ⟨rfl, rfl, rfl⟩ | ⟨g, cap, cur, bs', rfl, h1, h2, h3, h4, h5, h6, rfl, h7, h8, h9⟩
  · exact ⟨none, 0, rfl, Nat.le_refl _, Nat.zero_le _, Or.inl ⟨rfl, rfl⟩⟩
  · exact ⟨_, cap, rfl, h3, h4, Or.inr ⟨g, cap * 5, bs', rfl, rfl, ⟨cur, _, h2, h5⟩, h6, h7⟩⟩
theorem Gr.ge {w : World} {base : Nat} {v : Value} {f : F} {bs : List Nat} (h : Gr w base v f bs) : ∀ b, b ∈ bs → base ≤ b := by
  rcases h with ⟨rfl, rfl, rfl⟩ | ⟨g, cap, cur, bs', rfl, h1, h2, h3, h4, h5, h6, rfl, h7, h8, h9⟩
  · intro b hb; simp at hb
  · intro b hb
    rcases List.mem_cons.1 hb with rfl | hb
    · exact h1
    · exact h8 b hb
theorem Gr.nodup {w : World} {base : Nat} {v : Value} {f : F} {bs : List Nat} (h : Gr w base v f bs) : bs.Nodup := by
  rcases h with ⟨rfl, rfl, rfl⟩ | ⟨g, cap, cur, bs', rfl, h1, h2, h3, h4, h5, h6, rfl, h7, h8, h9⟩
  · exact List.nodup_nil
  · exact h9
theorem Gr.val {w : World} {base : Nat} {v : Value} {f : F} {bs : List Nat} (h : Gr w base v f bs) : ∃ a cap, v = .slice a f.len cap := h.ow.val
theorem Gr.lt {w : World} {base : Nat} {v : Value} {f : F} {bs : List Nat} (h : Gr w base v f bs) : ∀ b, b ∈ bs → b < w.heap.size := h.ow.lt
/-- The block is one of them. -/
theorem Gr.block {w : World} {base : Nat} {v : Value} {f : F} {bs : List Nat} (h : Gr w base v f bs) : ∀ g, v.ownBlock = some g → g ∈ bs := by
  rcases h with ⟨rfl, rfl, rfl⟩ | ⟨g, cap, cur, bs', rfl, h1, h2, h3, h4, h5, h6, rfl, h7, h8, h9⟩
  · intro g hg; simp [Value.ownBlock] at hg
  · intro g' hg
    simp only [Value.ownBlock, Option.some.injEq] at hg
    simp [hg]
theorem Gr.same {w w' : World} {base : Nat} {v : Value} {f : F} {bs : List Nat} (h : Gr w base v f bs) (hs : Same w w' bs) : Gr w' base v f bs := by
  rcases h with h | ⟨g, cap, cur, bs', rfl, h1, h2, h3, h4, h5, h6, rfl, h7, h8, h9⟩
  · exact Or.inl h
  · have hg : w'.heap[g]? = w.heap[g]? := hs g (by simp)
    exact Or.inr ⟨g, cap, cur, bs', rfl, h1, hg.trans h2, h3, h4, h5, h6, rfl, h7.same _ _ _ _ (fun i _ => Same.cell hg) (fun x hx => hs x (by simp [hx])), h8, h9⟩
theorem Gr.below {w w' : World} {base : Nat} {v : Value} {f : F} {bs : List Nat} (h : Gr w base v f bs) (hb : Below w.heap.size w w') : Gr w' base v f bs := h.same (Same.of_below hb h.lt)

/-- The cells of the row. -/
def grXs (w : World) (v : Value) (f : F) : List Value :=
  match v with
  | .slice (some a) _ _ => match w.heap[a.block]? with
    | some (.cells cur _ _) => cur.toList.take (f.len * 5)
    | _ => []
  | _ => []
theorem Gr.owns {w : World} {base : Nat} {v : Value} {f : F} {bs : List Nat} (h : Gr w base v f bs) : w.ownsRow base ( /- t -/ 65) 5 v f.len (grXs w v f) := by
  rcases h with ⟨rfl, rfl, rfl⟩ | ⟨g, cap, cur, bs', rfl, h1, h2, h3, h4, h5, h6, rfl, h7, h8, h9⟩
  · exact ⟨by simp [grXs, F.len], Or.inl ⟨rfl, rfl⟩⟩
  · have hx : grXs w (.slice (some ⟨g, 0, none⟩) f.len cap) f = cur.toList.take (f.len * 5) := by
      unfold grXs
      simp only [h2]
    rw [hx]
    refine ⟨?_, Or.inr ⟨g, cap, cur, rfl, h1, h2, h3, h4, h5, rfl⟩⟩
    rw [List.length_take, Array.length_toList, h5]
    omega

theorem ownsRow_cell {w : World} {base e n : Nat} {g cap : Nat} {xs : List Value} (h : w.ownsRow base e 5 (.slice (some ⟨g, 0, none⟩) n cap) n xs) (hn : 0 < n) (i : Nat) (hi : i < n * 5) :
    ∃ cur, w.heap[g]? = some (.cells cur e (0, 0)) ∧ n ≤ cap ∧ cap ≤ maxLen ∧ cur.size = cap * 5 ∧ base ≤ g ∧ w.cell? ⟨g, i, none⟩ = xs[i]? := by
  obtain ⟨hl, h | ⟨g', cap', cur, hv, h1, h2, h3, h4, h5, h6⟩⟩ := h
  · omega
  · simp only [Value.slice.injEq, Option.some.injEq, Addr.mk.injEq, true_and] at hv
    obtain ⟨⟨rfl, _⟩, rfl⟩ := hv
    refine ⟨cur, h2, h3, h4, h5, h1, ?_⟩
    rw [← h6, List.getElem?_take]
    rw [if_pos hi]
    simp [World.cell?, h2]

/-- One branch more. -/
theorem Gr.push {w w' : World} {base : Nat} {v : Value} {f : F} {bs : List Nat} (h : Gr w base v f bs) {lab fr : ByteArray} {k ix : Int} {u : Value} {kids : F} {ks : List Nat} (hu : Ow w u kids ks) (hks : ∀ b, b ∈ ks → base ≤ b) (hnd : ks.Nodup) (hdj : ∀ b, b ∈ bs → b ∉ ks)
    (hl : lab.size ≤ maxLen) (hf : fr.size ≤ maxLen) (hk : (Lit.int .i64 k).wf = true) (hi : (Lit.int .i64 ix).wf = true)
    {g cap : Nat} (hw' : w'.ownsRow base ( /- t -/ 65) 5 (.slice (some ⟨g, 0, none⟩) (f.len + 1) cap) (f.len + 1) (grXs w v f ++ [.string lab, .int .i64 k, .string fr, .int .i64 ix, u]))
    (hgr : w.grownBy w' v.ownBlock) (hg : v.ownBlock = some g ∨ g = w.heap.size) :
    ∃ bs', Gr w' base (.slice (some ⟨g, 0, none⟩) (f.len + 1) cap) (f.app (.cons lab k fr ix kids .nil)) bs' ∧ (∀ b, b ∈ bs' → b ∈ bs ∨ b ∈ ks ∨ b = w.heap.size) := by
  obtain ⟨cur, c1, c2, c3, c4, c5, _⟩ := ownsRow_cell hw' (by omega) 0 (by omega)
  have hcell : ∀ i, i < (f.len + 1) * 5 → w'.cell? ⟨g, i, none⟩ = (grXs w v f ++ [.string lab, .int .i64 k, .string fr, .int .i64 ix, u])[i]? := fun i hi => by
    obtain ⟨_, _, _, _, _, _, hh⟩ := ownsRow_cell hw' (by omega) i hi
    exact hh
  have hxl : (grXs w v f).length = f.len * 5 := h.owns.1
  have hn : ∀ j, j < 5 → w'.cell? ⟨g, 0 + f.len * 5 + j, none⟩ = ([.string lab, .int .i64 k, .string fr, .int .i64 ix, u] : List Value)[j]? := fun j hj => by
    rw [show 0 + f.len * 5 + j = f.len * 5 + j by omega, hcell _ (by omega), List.getElem?_append_right (by omega)]
    rw [show f.len * 5 + j - (grXs w v f).length = j by omega]
  have hsks : Same w w' ks := fun b hb => hgr.block b (hu.lt b hb) (fun e => hdj b (h.block b e.symm) hb)
  have hul := hu.lt
  obtain ⟨ua, uc, rfl, e1, e2, hkk⟩ := hu.same hsks
  have hnew : OwRow w' g (0 + 5 * f.len) (.cons lab k fr ix kids .nil) ks := by
    rw [show 0 + 5 * f.len = 0 + f.len * 5 by omega]
    exact ⟨hl, hf, hk, hi, hn 0 (by omega), hn 1 (by omega), hn 2 (by omega), hn 3 (by omega), ks, [], by simp, ⟨ua, uc, hn 4 (by omega), e1, e2, hkk⟩, rfl⟩
  have hlen : (f.app (.cons lab k fr ix kids .nil)).len = f.len + 1 := by rw [F.len_app]; rfl
  have hne : f.app (.cons lab k fr ix kids .nil) ≠ .nil := by
    intro e
    rw [e] at hlen
    simp [F.len] at hlen
  rcases h with ⟨rfl, rfl, rfl⟩ | ⟨g0, cap0, cur0, bs0, rfl, h1, h2, h3, h4, h5, h6, rfl, h7, h8, h9⟩
  · have hgg : g = w.heap.size := by
      rcases hg with hg | hg
      · simp [Value.ownBlock] at hg
      · exact hg
    refine ⟨g :: ks, Or.inr ⟨g, cap, cur, ks, by rw [hlen], c5, c1, by rw [hlen]; exact c2, c3, c4, hne, rfl, ?_, hks, List.nodup_cons.2 ⟨fun hm => ?_, hnd⟩⟩, fun b hb => ?_⟩
    · simpa [F.app, F.len] using hnew
    · have := hul g hm
      omega
    · rcases List.mem_cons.1 hb with rfl | hb
      · exact Or.inr (Or.inr hgg)
      · exact Or.inr (Or.inl hb)
  · have hsame : Same w w' bs0 := fun b hb => hgr.block b (h7.lt _ _ _ _ b hb) (fun e => by
      simp only [Value.ownBlock, Option.some.injEq] at e
      subst e
      exact (List.nodup_cons.1 h9).1 hb)
    have hold : OwRow w' g 0 f bs0 := by
      refine h7.moved _ _ _ _ _ _ (fun i hi => ?_) hsame
      rw [Nat.zero_add, hcell i (by omega), List.getElem?_append_left (by omega)]
      have hx : grXs w (.slice (some ⟨g0, 0, none⟩) f.len cap0) f = cur0.toList.take (f.len * 5) := by
        unfold grXs
        simp only [h2]
      rw [hx, List.getElem?_take, if_pos (by omega)]
      simp [World.cell?, h2]
    have hgn : g ∉ bs0 ∧ g ∉ ks := by
      rcases hg with hg | hg
      · simp only [Value.ownBlock, Option.some.injEq] at hg
        subst hg
        exact ⟨(List.nodup_cons.1 h9).1, hdj _ (by simp)⟩
      · constructor
        · intro hm
          have := h7.lt _ _ _ _ g hm
          omega
        · intro hm
          have := hul g hm
          omega
    refine ⟨g :: (bs0 ++ ks), Or.inr ⟨g, cap, cur, bs0 ++ ks, by rw [hlen], c5, c1, by rw [hlen]; exact c2, c3, c4, hne, rfl, OwRow.app _ _ _ _ _ _ hold hnew, fun b hb => ?_, List.nodup_cons.2 ⟨fun hm => ?_, List.nodup_append.2 ⟨(List.nodup_cons.1 h9).2, hnd, fun x hx y hy => ?_⟩⟩⟩, fun b hb => ?_⟩
    · rcases List.mem_append.1 hb with hb | hb
      · exact h8 b hb
      · exact hks b hb
    · rcases List.mem_append.1 hm with hm | hm
      · exact hgn.1 hm
      · exact hgn.2 hm
    · rintro rfl
      exact hdj x (by simp [hx]) hy
    · rcases List.mem_cons.1 hb with rfl | hb
      · rcases hg with hg | hg
        · simp only [Value.ownBlock, Option.some.injEq] at hg
          exact Or.inl (by simp [hg])
        · exact Or.inr (Or.inr hg)
      · rcases List.mem_append.1 hb with hb | hb
        · exact Or.inl (by simp [hb])
        · exact Or.inr (Or.inl hb)
end Go.Proofs.Ytpjbffggeegdaaa.Lo

/- What is made in new memory: slices, nodes, branches. -/
namespace Go.Proofs.Ytpjbffggeegdaaa.Lo
open Go.RowKit

theorem run_make_rowN {P : Program} (t e : TypeId) (i : TypeInfo) (z : Value) (ht : P.underlying t = some (.slice e)) (hi : P.info? e = some i) (hz : i.zero = some z)
    (kl kc : IntKind) (n c : Nat) (hnc : n ≤ c) (hbytes : i.bytes * c ≤ 281474976710656) (h63 : c ≤ 9223372036854775807) (w : World) :
    (Instr.makeSlice t (.int kl (n : Int)) (.int kc (c : Int))).run P w = .ok (.slice (some ⟨w.heap.size, 0, none⟩) n c) (w.alloc (.cells (madeCells z.cells (c * i.size)) e)) := by
  have hb : (i.bytes : Int) * (c : Int) ≤ 281474976710656 := by
    have h : ((i.bytes * c : Nat) : Int) ≤ 281474976710656 := by omega
    rwa [Int.natCast_mul] at h
  have hr := run_make (P := P) w t e i z ht hi hz kl kc n c (by omega) (by omega) hb (by omega)
  simp only [Int.toNat_natCast] at hr
  exact hr
theorem Try.info65 : (Try.prog.info? ( /- t -/ 65)).map (fun i => (i.zero, i.size, i.bytes)) = some (some (.agg #[.string ⟨#[]⟩, .int .i64 0, .string ⟨#[]⟩, .int .i64 0, .slice none 0 0]), 5, 72) := by kernel_rfl
/-- The cells of a new row. -/
def newRow (n : Nat) : Array Value := madeCells #[.string ⟨#[]⟩, .int .i64 0, .string ⟨#[]⟩, .int .i64 0, .slice none 0 0] (n * 5)
theorem make52 (n : Nat) (hn : n ≤ 1048576) (w : World) : (Instr.makeSlice ( /- t -/ 23) (.int .i64 (n : Int)) (.int .i64 (n : Int))).run Try.prog w = .ok (.slice (some ⟨w.heap.size, 0, none⟩) n n) (w.alloc (.cells (newRow n) ( /- t -/ 65))) := by
  obtain ⟨i0, hi, hz0, hz1, hz2⟩ := info_parts Try.info65
  have := run_make_rowN (P := Try.prog) ( /- t -/ 23) ( /- t -/ 65) i0 _ Try.underlying23 hi hz0 .i64 .i64 n n (Nat.le_refl _) (by rw [hz2]; omega) (by omega) w
  rw [hz1] at this
  exact this

/-- A slice of the call's own that reads as f. -/
def MadeS (f : F) (w : World) (e : Ending) (w' : World) : Prop :=
  ∃ u bs, e = .returned u ∧ Ow w' u f bs ∧ (∀ b, b ∈ bs → w.heap.size ≤ b) ∧ bs.Nodup ∧ Below w.heap.size w w'

def MadeN (k : Int) (fr : ByteArray) (ix : Int) (f : F) (w : World) (e : Ending) (w' : World) : Prop :=
  ∃ u bs, e = .returned (.agg #[.int .i64 k, .string fr, .int .i64 ix, u]) ∧ Ow w' u f bs ∧ (∀ b, b ∈ bs → w.heap.size ≤ b) ∧ bs.Nodup ∧ Below w.heap.size w w'

def MadeB (lab : ByteArray) (k : Int) (fr : ByteArray) (ix : Int) (f : F) (w : World) (e : Ending) (w' : World) : Prop :=
  ∃ u bs, e = .returned (.agg #[.string lab, .int .i64 k, .string fr, .int .i64 ix, u]) ∧ Ow w' u f bs ∧ (∀ b, b ∈ bs → w.heap.size ≤ b) ∧ bs.Nodup ∧ Below w.heap.size w w'
end Go.Proofs.Ytpjbffggeegdaaa.Lo

/- A region that draws its order and whose last operation waits for all others: what is told of the world need not hold behind that last one. -/
namespace Go.Proofs.Ytpjbffggeegdaaa
open Go

section
variable {P : Program} {ops : Array Oper} {Q : Exit → Act → World → Prop} {md : Region.Mode} {S : World → Prop} {L : Nat}

/-- Whatever order is picked from here on; S holds behind every operation but operation L. -/
def wpAnyT (P : Program) (md : Region.Mode) (ops : Array Oper) (Q : Exit → Act → World → Prop) (S : World → Prop) (L : Nat) : Nat → Array Bool → Act → World → Prop
  | 0, listed, a, w => Region.ready md ops listed = [] ∧ Q .normal a w
  | fuel + 1, listed, a, w =>
    (Region.ready md ops listed = [] → Q .normal a w) ∧
    ∀ i ∈ Region.ready md ops listed, wpOp P ops Q i (fun a' w' => (i ≠ L → S w') ∧ wpAnyT P md ops Q S L fuel (listed.setIfInBounds i true) a' w') a w

theorem wpAny_of_T : ∀ (fuel : Nat) (listed : Array Bool) (a : Act) (w : World), wpAnyT P md ops Q S L fuel listed a w → wpAny P md ops Q fuel listed a w
  | 0, _, _, _, h => h
  | fuel + 1, _, _, _, h => ⟨h.1, fun i hi => wpOp_mono (fun a' w' h' => wpAny_of_T fuel _ a' w' h'.2) (h.2 i hi)⟩

/-- Operation L waits for operation i. -/
def waitsB (md : Region.Mode) (ops : Array Oper) (L i : Nat) : Bool :=
  match ops[L]? with
  | some o => o.after.any fun e => Region.binds md e && e.on == i
  | none => false

theorem waits_not_ready {i : Nat} {listed : Array Bool} (h : waitsB md ops L i = true) (hi : listed.getD i false = false) : L ∉ Region.ready md ops listed := by
  intro hm
  obtain ⟨_, o, ho, hall⟩ := mem_ready.1 hm
  unfold waitsB at h
  rw [ho] at h
  obtain ⟨e, he, hb⟩ := Array.any_eq_true'.1 h
  simp only [Bool.and_eq_true, beq_iff_eq] at hb
  have := hall e he hb.1
  rw [hb.2, hi] at this
  cases this

theorem getD_of_unlisted {i : Nat} {listed : Array Bool} (h : listed.getD i true = false) : listed.getD i false = false := by
  rcases Nat.lt_or_ge i listed.size with h' | h'
  · simpa [h'] using h
  · simp [h'] at h

theorem wpAnyT_first {i : Nat} {oi : Oper} {v : Value} (hi : ops[i]? = some oi) (hL : waitsB md ops L i = true) (hsel : ∀ (j : Nat) (o : Oper) cs b, ops[j]? = some o → o.op ≠ .select cs b)
    (hQ : ∀ c a w, Q (.panic c) (a.put oi.dst v) w → Q (.panic c) a w) :
    ∀ (fuel : Nat) (listed : Array Bool) (a : Act) (w : World),
      (∀ j oj, ops[j]? = some oj → j ≠ i → listed.getD j true = false → (∀ e ∈ oj.after, Region.binds md e = true → e.on ≠ i) → oi.apart ops oj = true) →
      i ∈ Region.ready md ops listed → YieldsIf P ops S oi v a → S w →
      wpAnyT P md ops Q S L fuel (listed.setIfInBounds i true) (a.put oi.dst v) w → wpAnyT P md ops Q S L (fuel + 1) listed a w := by
  intro fuel
  induction fuel with
  | zero =>
    intro listed a w _ hr hy hS H
    refine ⟨fun h => (by rw [h] at hr; cases hr), fun j hj => ?_⟩
    by_cases hji : j = i
    · subst hji; exact hy.wpOp hi hS ⟨fun _ => hS, H⟩
    · have := ready_mono hj hji
      rw [H.1] at this
      cases this
  | succ fuel ih =>
    intro listed a w hfree hr hy hS H
    refine ⟨fun h => (by rw [h] at hr; cases hr), fun j hj => ?_⟩
    by_cases hji : j = i
    · subst hji; exact hy.wpOp hi hS ⟨fun _ => hS, H⟩
    · have h1 := H.2 j (ready_mono hj hji)
      have hjL : j ≠ L := by
        rintro rfl
        exact waits_not_ready hL (getD_of_unlisted (mem_ready.1 hr).1) hj
      obtain ⟨hjun, oj, hoj, hall⟩ := mem_ready.1 hj
      have hnot : ∀ e ∈ oj.after, Region.binds md e = true → e.on ≠ i := fun e he hb heq => by
        have h1 := hall e he hb
        have h0 := (mem_ready.1 hr).1
        rw [heq] at h1
        rcases Nat.lt_or_ge i listed.size with h' | h'
        · simp [h'] at h0 h1; rw [h0] at h1; cases h1
        · simp [Array.getElem?_eq_none h'] at h1
      have h2 := wpOp_putIf hoj (hfree j oj hoj hji hjun hnot) (fun cs b => hsel i oi cs b hi) (fun cs b => hsel j oj cs b hoj) hQ hy h1
      have hfree' : ∀ k ok, ops[k]? = some ok → k ≠ i → (listed.setIfInBounds j true).getD k true = false →
          (∀ e ∈ ok.after, Region.binds md e = true → e.on ≠ i) → oi.apart ops ok = true := fun k ok hk hki hun hno => by
        refine hfree k ok hk hki ?_ hno
        by_cases hjk : j = k
        · subst hjk; exact hjun
        · rw [getD_set_ne true hjk] at hun; exact hun
      refine wpOp_mono (fun a' w' h3 => ⟨h3.2.1, ih (listed.setIfInBounds j true) a' w' hfree' (ready_mono hr (Ne.symm hji)) h3.1 (h3.2.1 hjL) ?_⟩) h2
      rw [Array.setIfInBounds_comm _ _ hji]
      exact h3.2.2

/-- Take number i first. -/
theorem wpAnyT_take {i : Nat} {oi : Oper} {v : Value} {fuel : Nat} {listed : Array Bool} {a : Act} {w : World} (hi : ops[i]? = some oi) (hL : waitsB md ops L i = true)
    (hs : Region.noSelect ops = true) (hf : Region.free md ops listed i = true) (hr : (Region.ready md ops listed).contains i = true)
    (hQ : ∀ c a w, Q (.panic c) (a.put oi.dst v) w → Q (.panic c) a w) (hS : S w) (hy : YieldsIf P ops S oi v a)
    (h : wpAnyT P md ops Q S L fuel (listed.setIfInBounds i true) (a.put oi.dst v) w) : wpAnyT P md ops Q S L (fuel + 1) listed a w :=
  wpAnyT_first hi hL (Region.noSelect_spec hs) hQ fuel listed a w (Region.free_spec hi hf) (by simpa using hr) hy hS h

/-- The only one that may come up. -/
theorem wpAnyT_one {i : Nat} {o : Oper} {fuel : Nat} {listed : Array Bool} {a : Act} {w : World} (hr : Region.ready md ops listed = [i]) (ho : ops[i]? = some o)
    (h : ∀ K' : Act → World → Prop, Shut (∀ a w, (i ≠ L → S w) → wpAnyT P md ops Q S L fuel (listed.setIfInBounds i true) a w → K' a w) →
      if Region.wanted o (yielded ops a.tmps) = true then Oper.wp P o a w K' Q else K' (a.put o.dst undef) w) : wpAnyT P md ops Q S L (fuel + 1) listed a w := by
  refine ⟨fun h0 => (by rw [hr] at h0; cases h0), fun j hj => ?_⟩
  rw [hr] at hj
  obtain rfl : j = i := by simpa using hj
  exact wpOp_step ho (fun K' hK => h K' (fun a w hS hW => hK a w ⟨hS, hW⟩))

/-- All have come up. -/
theorem wpAnyT_done {listed : Array Bool} {a : Act} {w : World} (hr : Region.ready md ops listed = []) (h : Q .normal a w) :
    ∀ fuel, wpAnyT P md ops Q S L fuel listed a w
  | 0 => ⟨hr, h⟩
  | _ + 1 => ⟨fun _ => h, by rw [hr]; simp⟩

/-- The beginning. -/
theorem wp_region_T {id : Nat} {a : Act} {w : World} (S : World → Prop) (L : Nat) (hm : P.follows .mixedOrders = true) (hS : S w.drew)
    (h : S w.drew → wpAnyT P .any ops Q S L ops.size (Array.replicate ops.size false) a w.drew) : (Code.region id ops true).wp P Q a w :=
  wp_region_any hm (wpAny_of_T _ _ _ _ (h hS))
end
end Go.Proofs.Ytpjbffggeegdaaa

/- l1Substitute of the model: a copy in new memory with a closed type in place of the variables with an index. -/
namespace Go.Proofs.Ytpjbffggeegdaaa.Lo
open Go.RowKit

/-- The fields fit into values. -/
def Fit (g : Nd) : Prop := g.fr.size ≤ maxLen ∧ (Lit.int .i64 g.k).wf = true ∧ (Lit.int .i64 g.ix).wf = true

theorem Box4.frozen {w : World} {b : Nat} {v0 v1 v2 v3 : Value} (h : Box4 w b v0 v1 v2 v3) (o : Nat) : w.frozen? ⟨b, o, none⟩ = false := by
  obtain ⟨t, h⟩ := h
  simp [World.frozen?, h]
theorem Box4.setOther {w : World} {b : Nat} {v0 v1 v2 v3 : Value} (h : Box4 w b v0 v1 v2 v3) {p : Addr} (hp : b ≠ p.block) (u : Value) : Box4 (w.setCell p u) b v0 v1 v2 v3 := h.same (Below.heap_setCell _ _ _ _ hp)
theorem Box4.set3 {w : World} {b : Nat} {v0 v1 v2 v3 : Value} (h : Box4 w b v0 v1 v2 v3) (u : Value) : Box4 (w.setCell ⟨b, 3, none⟩ u) b v0 v1 v2 u := by
  obtain ⟨t, h⟩ := h
  exact ⟨t, by simp [World.setCell, Array.getElem?_modify, h]⟩

theorem shape_len4 {k : Int} {fr : ByteArray} {ix : Int} {kids : F} (h : shapeB k fr ix kids = true) : kids.len ≤ 4 := by
  by_cases h2 : k = 2 ∨ k = 3
  · unfold shapeB branchesB at h
    rw [if_neg (by omega), if_pos h2] at h
    simp at h
    omega
  · by_cases h4 : k = 4
    · subst h4
      simp [shapeB] at h
      omega
    · rw [shape_leaf h h2 h4]
      exact Nat.zero_le _

theorem wF_app (g : F) (b u : Int) : ∀ f : F, wF (f.app g) b u = (wF f b u && wF g b u)
  | .nil => by simp [F.app, wF]
  | .cons lab k fr ix kids rest => by simp only [F.app, wF, wF_app g b u rest, Bool.and_assoc]
/-- Below a valid node lie valid nodes, three at most. -/
theorem kids_w {g : Nd} {b u : Int} (h : wN g b u = true) (hu : 0 ≤ u) : g.kids.len ≤ 4 ∧ ∃ b' u', 0 ≤ u' ∧ wF g.kids b' u' = true := by
  unfold wN at h
  simp only [Bool.and_eq_true] at h
  obtain ⟨h1, h2⟩ := h
  refine ⟨shape_len4 h1, ?_⟩
  by_cases h4 : g.k = 5
  · exact ⟨0, 0, by omega, by rw [shape_leaf h1 (by omega) (by omega)]; rfl⟩
  · rw [if_neg h4] at h2
    by_cases h3 : g.k = 4
    · rw [if_pos h3] at h2
      exact ⟨_, _, by omega, h2⟩
    · rw [if_neg h3] at h2
      by_cases hk2 : g.k = 2 ∨ g.k = 3
      · rw [if_pos hk2] at h2
        exact ⟨_, _, by omega, h2⟩
      · exact ⟨0, 0, by omega, by rw [shape_leaf h1 hk2 h3]; rfl⟩

theorem subN_fit {U g : Nd} {i : Int} (hg : Fit g) (hu : Fit U) : Fit (subN U g i) := by
  unfold subN
  split
  · exact hu
  · exact hg

/-- U's own copy. -/
def CopyOk (U : Nd) : Prop := ∀ (w : World) (su : Value), Sl w su U.kids →
  Calls Try.prog 27 #[.agg #[.int .i64 U.k, .string U.fr, .int .i64 U.ix, su], .agg #[.int .i64 0, .string ⟨#[]⟩, .int .i64 0, .slice none 0 0], .int .i64 (-1)] w (MadeN U.k U.fr U.ix U.kids w)

def SubAt (n : Nat) : Prop := ∀ (w : World) (k ix i : Int) (fr : ByteArray) (sv : Value) (kids : F) (U : Nd) (su : Value), kids.sz < n → Sl w sv kids → Sl w su U.kids → Fit ⟨k, fr, ix, kids⟩ → Fit U →
  -1 ≤ i → i + 1 + hF kids ≤ 1000000 → (∃ b u, 0 ≤ u ∧ wN ⟨k, fr, ix, kids⟩ b u = true) → (i = -1 ∨ CopyOk U) →
  Calls Try.prog 27 #[.agg #[.int .i64 k, .string fr, .int .i64 ix, sv], .agg #[.int .i64 U.k, .string U.fr, .int .i64 U.ix, su], .int .i64 i] w
    (MadeN (subN U ⟨k, fr, ix, kids⟩ i).k (subN U ⟨k, fr, ix, kids⟩ i).fr (subN U ⟨k, fr, ix, kids⟩ i).ix (subN U ⟨k, fr, ix, kids⟩ i).kids w)

set_option maxHeartbeats 1000000 in
set_option maxRecDepth 100000 in
/-- The variable itself. -/
theorem sub_var (w : World) (i : Int) (fr : ByteArray) (sv : Value) (kids : F) (U : Nd) (su : Value) (hsu : Sl w su U.kids) (hc : CopyOk U) :
    Calls Try.prog 27 #[.agg #[.int .i64 5, .string fr, .int .i64 i, sv], .agg #[.int .i64 U.k, .string U.fr, .int .i64 U.ix, su], .int .i64 i] w
    (MadeN (subN U ⟨5, fr, i, kids⟩ i).k (subN U ⟨5, fr, i, kids⟩ i).fr (subN U ⟨5, fr, i, kids⟩ i).ix (subN U ⟨5, fr, i, kids⟩ i).kids w) := by
  have he : subN U ⟨5, fr, i, kids⟩ i = U := by unfold subN; rw [if_pos (And.intro rfl rfl)]
  rw [he]
  have HC := hide hc
  have HS := hide hsu
  clear hc hsu he
  go_enter Try.func27, Try.ntmps27
  go_wp2_with fail
  refine (HC.out _ su (HS.out.still (Still.of_below ?_))).mono ?_
  · exact ((alloc_below _ _).alloc (by simp) _).alloc (by simp; omega) _
  rintro e w1 ⟨u, bs, rfl, how, hge, hnd, hb⟩
  obtain ⟨ua, uc, rfl⟩ := how.val
  have HO := hide how
  have HG := hide hge
  clear how hge
  obtain ⟨hc, hf⟩ := bcell hb
  have hz := hb.size
  simp at hz
  go_wp2_with fail
  refine bodyPost_ret (v := .agg #[.int .i64 U.k, .string U.fr, .int .i64 U.ix, .slice ua U.kids.len uc]) (by simp [results, Try.results27, go_sem, hc]) rfl ?_
  have hB : Below w.heap.size w w1 := ((((alloc_below w _).alloc (by simp) _).alloc (by simp; omega) _).trans (hb.mono (by simp; omega)))
  have q : ∀ b, b ∈ bs → w.heap.size + 3 ≤ b := fun b h => by have := HG.out b h; simp at this; omega
  refine ⟨_, bs, rfl, HO.out.same ?_, fun b h => by have := q b h; omega, hnd, ?_⟩
  · repeat (refine Same.setCell ?_ (fun b h => by have := q b h; simp; omega) _)
    exact Same.refl _ _
  · repeat (refine Below.setCell ?_ (by first | (simp; done) | (simp; omega)) _)
    exact hB

/-- What holds at each round's head. -/
def SubRel (w : World) (U : Nd) (k ix : Int) (fr : ByteArray) (sv su : Value) (f : F) (i : Int) (a : Option Addr) (iv : Value) (wr : World) : Prop :=
  ∃ p g v bs, f = p.app g ∧ iv = .int .i64 (p.len : Nat) ∧ At w a p.len g ∧ Box4 wr w.heap.size (.int .i64 k) (.string fr) (.int .i64 ix) sv ∧
    Box4 wr (w.heap.size + 1) (.int .i64 U.k) (.string U.fr) (.int .i64 U.ix) su ∧
    Box4 wr (w.heap.size + 2) (.int .i64 0) (.string ⟨#[]⟩) (.int .i64 0) (.slice none 0 0) ∧
    Box4 wr (w.heap.size + 3) (.int .i64 k) (.string fr) (.int .i64 ix) v ∧ Gr wr (w.heap.size + 4) v (subF U p i) bs ∧ Below w.heap.size w wr

/-- Three boxes of one make, one behind the other. -/
theorem three_new (w : World) (v0 v1 v2 v3 u0 u1 u2 u3 x0 x1 x2 x3 : Value) (t : TypeId) :
    Box4 (((w.alloc (.cells #[v0, v1, v2, v3] t)).alloc (.cells #[u0, u1, u2, u3] t)).alloc (.cells #[x0, x1, x2, x3] t)) w.heap.size v0 v1 v2 v3 ∧
    Box4 (((w.alloc (.cells #[v0, v1, v2, v3] t)).alloc (.cells #[u0, u1, u2, u3] t)).alloc (.cells #[x0, x1, x2, x3] t)) (w.heap.size + 1) u0 u1 u2 u3 ∧
    Box4 (((w.alloc (.cells #[v0, v1, v2, v3] t)).alloc (.cells #[u0, u1, u2, u3] t)).alloc (.cells #[x0, x1, x2, x3] t)) (w.heap.size + 2) x0 x1 x2 x3 ∧
    (((w.alloc (.cells #[v0, v1, v2, v3] t)).alloc (.cells #[u0, u1, u2, u3] t)).alloc (.cells #[x0, x1, x2, x3] t)).heap.size = w.heap.size + 3 ∧
    Below w.heap.size w (((w.alloc (.cells #[v0, v1, v2, v3] t)).alloc (.cells #[u0, u1, u2, u3] t)).alloc (.cells #[x0, x1, x2, x3] t)) := by
  have h1 := Box4.now w v0 v1 v2 v3 t
  have h2 := Box4.now (w.alloc (.cells #[v0, v1, v2, v3] t)) u0 u1 u2 u3 t
  have h3 := Box4.now ((w.alloc (.cells #[v0, v1, v2, v3] t)).alloc (.cells #[u0, u1, u2, u3] t)) x0 x1 x2 x3 t
  rw [show (w.alloc (.cells #[v0, v1, v2, v3] t)).heap.size = w.heap.size + 1 from by simp] at h2
  rw [show ((w.alloc (.cells #[v0, v1, v2, v3] t)).alloc (.cells #[u0, u1, u2, u3] t)).heap.size = w.heap.size + 2 from by simp] at h3
  exact ⟨(h1.below (alloc_below _ _)).below (alloc_below _ _), h2.below (alloc_below _ _), h3, by simp, (((alloc_below w _).alloc (by simp) _).alloc (by simp; omega) _)⟩

set_option maxHeartbeats 2000000 in
set_option maxRecDepth 100000 in
theorem sub_loop (n : Nat) (ih : SubAt n) (w : World) (k ix i : Int) (fr : ByteArray) (sv : Value) (kids : F) (U : Nd) (su : Value) (hn : kids.sz < n + 1) (hs : Sl w sv kids) (hsu : Sl w su U.kids) (hfit : Fit ⟨k, fr, ix, kids⟩) (hfu : Fit U)
    (hi1 : -1 ≤ i) (hi2 : i + 1 + hF kids ≤ 1000000) (hw : ∃ b u, 0 ≤ u ∧ wN ⟨k, fr, ix, kids⟩ b u = true) (hc : i = -1 ∨ CopyOk U) (hne : ¬ (k = 5 ∧ ix = i)) (I : Int) (hI : I = bump k i) :
    Calls Try.prog 27 #[.agg #[.int .i64 k, .string fr, .int .i64 ix, sv], .agg #[.int .i64 U.k, .string U.fr, .int .i64 U.ix, su], .int .i64 i] w
    (MadeN k fr ix (subF U kids I) w) := by
  have HBI := hide hI
  clear hI
  obtain ⟨b0, u0, hu0, hw0⟩ := hw
  obtain ⟨hlen, b1, u1, hu1, hw1⟩ := kids_w hw0 hu0
  simp only at hlen hw1
  obtain ⟨a, cap, rfl, hl, hat⟩ := hs.at
  have HH := hide (And.intro hn (And.intro hi2 (And.intro hw1 (And.intro hc (And.intro hsu (And.intro hat (And.intro hfit hfu)))))))
  clear hs hn hi2 hw0 hw1 hc hsu hat hfit hfu hl
  go_enter Try.func27, Try.ntmps27
  go_upto_region 1 with fail
  go_cut [2, 17] from 9 to 17 (fun v2 v17 wc => v2 = .int .i64 i ∧ v17 = .bool false ∧ Box4 wc w.heap.size (.int .i64 k) (.string fr) (.int .i64 ix) (.slice a kids.len cap) ∧
    Box4 wc (w.heap.size + 1) (.int .i64 U.k) (.string U.fr) (.int .i64 U.ix) su ∧
    Box4 wc (w.heap.size + 2) (.int .i64 0) (.string ⟨#[]⟩) (.int .i64 0) (.slice none 0 0) ∧ wc.heap.size = w.heap.size + 3 ∧ Below w.heap.size w wc)
  case first =>
    by_cases h4 : k = 5
    · subst h4
      have hq : (ix == i) = false := beq_eq_false_iff_ne.2 (fun e => hne ⟨rfl, e⟩)
      go_wp2_with fail
      go_meet
      case rel => exact ⟨rfl, rfl, three_new _ _ _ _ _ _ _ _ _ _ _ _ _ _⟩
    · have hq : (k == 5) = false := beq_eq_false_iff_ne.2 h4
      go_wp2_with fail
      go_meet
      case rel => exact ⟨rfl, rfl, three_new _ _ _ _ _ _ _ _ _ _ _ _ _ _⟩
  case rest =>
    obtain ⟨rfl, rfl, hx, hy, hz, hsz, hbw⟩ := hcut
    obtain ⟨x0, x1, x2, x3⟩ := hx.cells
    have hxl := hx.lt
    have HB := hide (And.intro hx (And.intro hy (And.intro hz hbw)))
    clear hx hy hz hbw
    go_upto_region 4 with fail
    go_cut [34] from 28 to 33 (fun v36 wd => ∃ bb : Bool, v36 = .bool bb ∧ Hid (bb = decide (k = 4 ∧ 0 ≤ i)) ∧ wd = wc.alloc (.cells #[.int .i64 k, .string fr, .int .i64 ix, .slice none 0 0] ( /- t -/ 25)))
    case first =>
      by_cases h3 : k = 4
      · subst h3
        by_cases h0 : 0 ≤ i
        · have hd : decide ((4 : Int) = 4 ∧ 0 ≤ i) = true := decide_eq_true ⟨rfl, h0⟩
          go_wp2_with fail
          go_meet
          case rel => exact ⟨true, by simp, hide hd.symm, rfl⟩
        · have hd : decide ((4 : Int) = 4 ∧ 0 ≤ i) = false := decide_eq_false (fun h => h0 h.2)
          go_wp2_with fail
          go_meet
          case rel => exact ⟨false, by simp, hide hd.symm, rfl⟩
      · have hq : (k == 4) = false := beq_eq_false_iff_ne.2 h3
        go_wp2_with fail
        go_meet
        case rel => exact ⟨false, by simp, hide (decide_eq_false (fun h => h3 h.1)).symm, rfl⟩
    case rest =>
      obtain ⟨bb, rfl, hbb, rfl⟩ := hcut
      go_upto_if 34 with fail
      go_cut [2] from 35 to 36 (fun v2 wd => v2 = .int .i64 I ∧ wd = wc.alloc (.cells #[.int .i64 k, .string fr, .int .i64 ix, .slice none 0 0] ( /- t -/ 25)))
      case first =>
        have hbi : i ≤ 1000000 := by have := HH.out.2.1; omega
        by_cases h3 : k = 4 ∧ 0 ≤ i
        · have hd : bb = true := hbb.out.trans (decide_eq_true h3)
          subst hd
          have e : I = i + 1 := by rw [HBI.out]; unfold bump; rw [if_pos h3]
          have h30 := h3.2
          go_wp2_with fail
          go_meet
          case rel => exact ⟨by rw [e], by rw [h3.1]⟩
        · have hd : bb = false := hbb.out.trans (decide_eq_false h3)
          subst hd
          have e : I = i := by rw [HBI.out]; unfold bump; rw [if_neg h3]
          go_wp2_with fail
          go_meet
          case rel => exact ⟨by rw [e], rfl⟩
      case rest =>
        obtain ⟨rfl, rfl⟩ := hcut
        obtain ⟨hx, hy, hz, hbw⟩ := HB.out
        have hbd := alloc_below wc (.cells #[.int .i64 k, .string fr, .int .i64 ix, .slice none 0 0] ( /- t -/ 25))
        have hx := hx.below hbd
        have hy := hy.below hbd
        have hz := hz.below hbd
        have ho := Box4.now wc (.int .i64 k) (.string fr) (.int .i64 ix) (.slice none 0 0) ( /- t -/ 25)
        rw [hsz] at ho
        have hbe := hbw.trans (hbd.mono hbw.size)
        have HST : Hid (SubRel w U k ix fr (.slice a kids.len cap) su kids I a (.int .i64 0) (wc.alloc (.cells #[.int .i64 k, .string fr, .int .i64 ix, .slice none 0 0] ( /- t -/ 25)))) :=
          hide ⟨.nil, kids, _, [], rfl, rfl, HH.out.2.2.2.2.2.1, hx, hy, hz, ho, Gr.nil _ _, hbe⟩
        clear hx hy hz hbw hbd ho hbe x0 x1 x2 x3 hxl HB
        obtain ⟨i0, hi, hz0, hz1, hz2⟩ := info_parts Try.info65
        have HI := hide (And.intro hi (And.intro hz0 (And.intro hz1 hz2)))
        clear hi hz0 hz1 hz2
        go_wp2_with fail
        clear hsz
        go_loopw [8] (fun iv wr => SubRel w U k ix fr (.slice a kids.len cap) su kids I a iv wr) (fun iv _ => kids.len - (intOf iv).toNat)
        case atStart => exact HST.out
        case round =>
          obtain ⟨p, g, v, bs, hfe, rfl, hg, hx, hy, hz, ho, hgr, hb⟩ := hrel
          have x4 := hx.cells.2.2.2
          have hxl := hx.lt
          cases g with
          | nil =>
            have hge : kids.len ≤ p.len := by rw [hfe, F.app_nil]; exact Nat.le_refl _
            have hple : p.len ≤ kids.len := by rw [hfe, F.app_nil]; exact Nat.le_refl _
            rw [F.app_nil] at hfe
            obtain ⟨va, vc, rfl⟩ := hgr.val
            obtain ⟨o0, o1, o2, o3⟩ := ho.cells
            obtain ⟨z0, z1, z2, z3⟩ := hz.cells
            have fz := hz.frozen
            have hol := ho.lt
            have hzl := hz.lt
            have HG := hide hgr
            have HB := hide hb
            have HE := hide hfe
            clear hgr hb hfe hx hy hz ho hg
            go_wp2_with fail
            refine bodyPost_ret (v := .agg #[.int .i64 k, .string fr, .int .i64 ix, .slice va (subF U p I).len vc]) (by simp [results, Try.results27, go_sem, *]) rfl ?_
            have hge := HG.out.ge
            rw [HE.out]
            refine ⟨_, bs, rfl, HG.out.ow.same ?_, fun b h => by have := hge b h; omega, HG.out.nodup, ?_⟩
            · repeat (refine Same.setCell ?_ (fun b h => by have := hge b h; simp; omega) _)
              exact Same.refl _ _
            · repeat (refine Below.setCell ?_ (by first | (simp; done) | (simp; omega)) _)
              exact HB.out
          | cons lab kd fr' ix' kids' rest =>
            have hlt : p.len < kids.len := by rw [hfe, F.len_app]; simp only [F.len]; omega
            obtain ⟨b', o, rfl, l1, l2, l3, l4, c0, c1, c2, c3, ⟨sv', c4, hsv⟩, -⟩ := (hg.still (Still.of_below hb)).head
            obtain ⟨y0, y1, y2, y3⟩ := hy.cells
            obtain ⟨hn, hi2, hw1, hc, hsu, hat, hfit, hfu⟩ := HH.out
            obtain ⟨N, hN⟩ : ∃ N, N = subN U ⟨kd, fr', ix', kids'⟩ I := ⟨_, rfl⟩
            have hbs : -1 ≤ I ∧ I ≤ i + 1 ∧ (i = -1 → I = -1) := by
              rw [HBI.out]
              unfold bump
              split <;> omega
            have hsz2 : kids'.sz < n ∧ 1 + hF kids' ≤ hF kids ∧ wN ⟨kd, fr', ix', kids'⟩ b1 u1 = true := by
              rw [hfe, F.sz_app] at hn
              rw [hfe, hF_app]
              rw [hfe, wF_app] at hw1
              simp only [F.sz, hF, wF, Bool.and_eq_true] at hn hw1 ⊢
              exact ⟨by omega, by omega, by unfold wN; simp only [Bool.and_eq_true]; exact hw1.2.1⟩
            have HCALL : Hid (∀ w', Sl w' sv' kids' → Sl w' su U.kids → Calls Try.prog 27 #[.agg #[.int .i64 kd, .string fr', .int .i64 ix', sv'], .agg #[.int .i64 U.k, .string U.fr, .int .i64 U.ix, su], .int .i64 I] w' (MadeN N.k N.fr N.ix N.kids w')) := hide (fun w' h1 h2 => by
              rw [hN]
              refine ih w' kd ix' I fr' sv' kids' U su hsz2.1 h1 h2 ⟨l2, l3, l4⟩ hfu hbs.1 (by omega) ⟨b1, u1, hu1, hsz2.2.2⟩ ?_
              rcases hc with hc | hc
              · exact Or.inl (hbs.2.2 hc)
              · exact Or.inr hc)
            have HFN : Hid (Fit N) := hide (by rw [hN]; exact subN_fit ⟨l2, l3, l4⟩ hfu)
            have hdr : Still wr wr.drew := fun _ _ h => h
            have HSV := hide (hsv.still hdr)
            have HSU := hide ((hsu.still (Still.of_below hb)).still hdr)
            have hpl : p.len ≤ 4 := by omega
            have HSL : Hid ((subF U p I).len ≤ 4) := hide (by rw [subF_len]; exact hpl)
            have HL := hide l1
            have hyl := hy.lt
            have hol := ho.lt
            have hbl := World.block_lt_of_cell? _ _ c0
            have hbw : b' < w.heap.size := by
              obtain ⟨b2, o2, e2, _, _, _, _, q0, _⟩ := hg.head
              simp only [Option.some.injEq, Addr.mk.injEq, and_true] at e2
              rw [e2.1]
              exact World.block_lt_of_cell? _ _ q0
            have o4 := ho.cells.2.2.2
            have HO := hide ho
            have HGR := hide (hgr.below (w' := wr.drew) (Below.refl _ _).drew)
            have HB := hide hb
            have HE := hide hfe
            have HNN := hide hN
            have HR := hide (And.intro hx (And.intro hy (And.intro hz hg)))
            clear hx hy hz ho hgr hb hfe hN hg hsu hsv l1 l2 l3 l4 hn hi2 hw1 hc hat hfit hfu hsz2 hdr
            go_wp2_with fail
            refine wp_region_T (fun w' => w'.cell? ⟨w.heap.size, 3, none⟩ = some (.slice (some ⟨b', o, none⟩) kids.len cap) ∧ w'.cell? ⟨w.heap.size + 3, 3, none⟩ = some v ∧
                w'.cell? ⟨b', o + p.len * 5, none⟩ = some (.string lab) ∧ w'.cell? ⟨b', o + p.len * 5 + 1, none⟩ = some (.int .i64 kd) ∧ w'.cell? ⟨b', o + p.len * 5 + 2, none⟩ = some (.string fr') ∧ w'.cell? ⟨b', o + p.len * 5 + 3, none⟩ = some (.int .i64 ix') ∧ w'.cell? ⟨b', o + p.len * 5 + 4, none⟩ = some sv' ∧
                w'.cell? ⟨w.heap.size + 1, 0, none⟩ = some (.int .i64 U.k) ∧ w'.cell? ⟨w.heap.size + 1, 1, none⟩ = some (.string U.fr) ∧ w'.cell? ⟨w.heap.size + 1, 2, none⟩ = some (.int .i64 U.ix) ∧ w'.cell? ⟨w.heap.size + 1, 3, none⟩ = some su) 21 (by kernel_rfl) ⟨x4, o4, c0, c1, c2, c3, c4, y0, y1, y2, y3⟩ (fun hHeld => ?_)
            refine wpAnyT_take (L := 21) (i := 0) (v := ?v0) rfl (by kernel_rfl) (by kernel_rfl) (by kernel_rfl) (by kernel_rfl) (fun _ _ _ h => h) hHeld (Or.inl ⟨by rfl, ?hy0⟩) ?rest0
            case hy0 => ((intro w' hw'); (try dsimp only at hw'); (go_simp); (try with_reducible rfl))
            (try simp only [Act.put]); (try simp only [List.setIfInBounds_toArray]); (try simp only [List.set_cons_zero]); (try simp only [List.set_cons_succ])
            refine wpAnyT_take (L := 21) (i := 1) (v := ?v1) rfl (by kernel_rfl) (by kernel_rfl) (by kernel_rfl) (by kernel_rfl) (fun _ _ _ h => h) hHeld (Or.inl ⟨by rfl, ?hy1⟩) ?rest1
            case hy1 => ((intro w' hw'); (try dsimp only at hw'); (go_simp); (try with_reducible rfl))
            (try simp only [Act.put]); (try simp only [List.setIfInBounds_toArray]); (try simp only [List.set_cons_zero]); (try simp only [List.set_cons_succ])
            refine wpAnyT_take (L := 21) (i := 2) (v := ?v2) rfl (by kernel_rfl) (by kernel_rfl) (by kernel_rfl) (by kernel_rfl) (fun _ _ _ h => h) hHeld (Or.inl ⟨by rfl, ?hy2⟩) ?rest2
            case hy2 => ((intro w' hw'); (try dsimp only at hw'); (go_simp); (try with_reducible rfl))
            (try simp only [Act.put]); (try simp only [List.setIfInBounds_toArray]); (try simp only [List.set_cons_zero]); (try simp only [List.set_cons_succ])
            refine wpAnyT_take (L := 21) (i := 3) (v := ?v3) rfl (by kernel_rfl) (by kernel_rfl) (by kernel_rfl) (by kernel_rfl) (fun _ _ _ h => h) hHeld (Or.inl ⟨by rfl, ?hy3⟩) ?rest3
            case hy3 => ((intro w' hw'); (try dsimp only at hw'); (go_simp); (try with_reducible rfl))
            (try simp only [Act.put]); (try simp only [List.setIfInBounds_toArray]); (try simp only [List.set_cons_zero]); (try simp only [List.set_cons_succ])
            refine wpAnyT_take (L := 21) (i := 4) (v := ?v4) rfl (by kernel_rfl) (by kernel_rfl) (by kernel_rfl) (by kernel_rfl) (fun _ _ _ h => h) hHeld (Or.inl ⟨by rfl, ?hy4⟩) ?rest4
            case hy4 => ((intro w' hw'); (try dsimp only at hw'); (go_simp); (try with_reducible rfl))
            (try simp only [Act.put]); (try simp only [List.setIfInBounds_toArray]); (try simp only [List.set_cons_zero]); (try simp only [List.set_cons_succ])
            refine wpAnyT_take (L := 21) (i := 5) (v := ?v5) rfl (by kernel_rfl) (by kernel_rfl) (by kernel_rfl) (by kernel_rfl) (fun _ _ _ h => h) hHeld (Or.inl ⟨by rfl, ?hy5⟩) ?rest5
            case hy5 => ((intro w' hw'); (try dsimp only at hw'); (go_simp); (try with_reducible rfl))
            (try simp only [Act.put]); (try simp only [List.setIfInBounds_toArray]); (try simp only [List.set_cons_zero]); (try simp only [List.set_cons_succ])
            refine wpAnyT_take (L := 21) (i := 6) (v := ?v6) rfl (by kernel_rfl) (by kernel_rfl) (by kernel_rfl) (by kernel_rfl) (fun _ _ _ h => h) hHeld (Or.inl ⟨by rfl, ?hy6⟩) ?rest6
            case hy6 => ((intro w' hw'); (try dsimp only at hw'); (go_simp); (try with_reducible rfl))
            (try simp only [Act.put]); (try simp only [List.setIfInBounds_toArray]); (try simp only [List.set_cons_zero]); (try simp only [List.set_cons_succ])
            refine wpAnyT_take (L := 21) (i := 7) (v := ?v7) rfl (by kernel_rfl) (by kernel_rfl) (by kernel_rfl) (by kernel_rfl) (fun _ _ _ h => h) hHeld (Or.inl ⟨by rfl, ?hy7⟩) ?rest7
            case hy7 => ((intro w' hw'); (try dsimp only at hw'); (go_simp); (try with_reducible rfl))
            (try simp only [Act.put]); (try simp only [List.setIfInBounds_toArray]); (try simp only [List.set_cons_zero]); (try simp only [List.set_cons_succ])
            refine wpAnyT_take (L := 21) (i := 8) (v := ?v8) rfl (by kernel_rfl) (by kernel_rfl) (by kernel_rfl) (by kernel_rfl) (fun _ _ _ h => h) hHeld (Or.inl ⟨by rfl, ?hy8⟩) ?rest8
            case hy8 => ((intro w' hw'); (try dsimp only at hw'); (go_simp); (try with_reducible rfl))
            (try simp only [Act.put]); (try simp only [List.setIfInBounds_toArray]); (try simp only [List.set_cons_zero]); (try simp only [List.set_cons_succ])
            refine wpAnyT_take (L := 21) (i := 9) (v := ?v9) rfl (by kernel_rfl) (by kernel_rfl) (by kernel_rfl) (by kernel_rfl) (fun _ _ _ h => h) hHeld (Or.inl ⟨by rfl, ?hy9⟩) ?rest9
            case hy9 => ((intro w' hw'); (try dsimp only at hw'); (go_simp); (try with_reducible rfl))
            (try simp only [Act.put]); (try simp only [List.setIfInBounds_toArray]); (try simp only [List.set_cons_zero]); (try simp only [List.set_cons_succ])
            refine wpAnyT_take (L := 21) (i := 10) (v := ?v10) rfl (by kernel_rfl) (by kernel_rfl) (by kernel_rfl) (by kernel_rfl) (fun _ _ _ h => h) hHeld (Or.inl ⟨by rfl, ?hy10⟩) ?rest10
            case hy10 => ((intro w' hw'); (try dsimp only at hw'); (go_simp); (try with_reducible rfl))
            (try simp only [Act.put]); (try simp only [List.setIfInBounds_toArray]); (try simp only [List.set_cons_zero]); (try simp only [List.set_cons_succ])
            refine wpAnyT_take (L := 21) (i := 11) (v := ?v11) rfl (by kernel_rfl) (by kernel_rfl) (by kernel_rfl) (by kernel_rfl) (fun _ _ _ h => h) hHeld (Or.inl ⟨by rfl, ?hy11⟩) ?rest11
            case hy11 => ((intro w' hw'); (try dsimp only at hw'); (go_simp); (try with_reducible rfl))
            (try simp only [Act.put]); (try simp only [List.setIfInBounds_toArray]); (try simp only [List.set_cons_zero]); (try simp only [List.set_cons_succ])
            refine wpAnyT_take (L := 21) (i := 12) (v := ?v12) rfl (by kernel_rfl) (by kernel_rfl) (by kernel_rfl) (by kernel_rfl) (fun _ _ _ h => h) hHeld (Or.inl ⟨by rfl, ?hy12⟩) ?rest12
            case hy12 => ((intro w' hw'); (try dsimp only at hw'); (go_simp); (try with_reducible rfl))
            (try simp only [Act.put]); (try simp only [List.setIfInBounds_toArray]); (try simp only [List.set_cons_zero]); (try simp only [List.set_cons_succ])
            refine wpAnyT_take (L := 21) (i := 13) (v := ?v13) rfl (by kernel_rfl) (by kernel_rfl) (by kernel_rfl) (by kernel_rfl) (fun _ _ _ h => h) hHeld (Or.inl ⟨by rfl, ?hy13⟩) ?rest13
            case hy13 => ((intro w' hw'); (try dsimp only at hw'); (go_simp); (try with_reducible rfl))
            (try simp only [Act.put]); (try simp only [List.setIfInBounds_toArray]); (try simp only [List.set_cons_zero]); (try simp only [List.set_cons_succ])
            refine wpAnyT_take (L := 21) (i := 14) (v := ?v14) rfl (by kernel_rfl) (by kernel_rfl) (by kernel_rfl) (by kernel_rfl) (fun _ _ _ h => h) hHeld (Or.inl ⟨by rfl, ?hy14⟩) ?rest14
            case hy14 => ((intro w' hw'); (try dsimp only at hw'); (go_simp); (try with_reducible rfl))
            (try simp only [Act.put]); (try simp only [List.setIfInBounds_toArray]); (try simp only [List.set_cons_zero]); (try simp only [List.set_cons_succ])
            refine wpAnyT_take (L := 21) (i := 15) (v := ?v15) rfl (by kernel_rfl) (by kernel_rfl) (by kernel_rfl) (by kernel_rfl) (fun _ _ _ h => h) hHeld (Or.inl ⟨by rfl, ?hy15⟩) ?rest15
            case hy15 => ((intro w' hw'); (try dsimp only at hw'); (go_simp); (try with_reducible rfl))
            (try simp only [Act.put]); (try simp only [List.setIfInBounds_toArray]); (try simp only [List.set_cons_zero]); (try simp only [List.set_cons_succ])
            refine wpAnyT_one (L := 21) (i := 16) (by kernel_rfl) rfl (fun K hK => ?_)
            go_simp
            go_at_call 27
            (with_reducible refine (HCALL.out _ ?_ ?_).mono ?_)
            · exact HSV.out
            · exact HSU.out
            rintro e w5 ⟨u, ks, rfl, how, hks, hknd, hb5⟩
            obtain ⟨ua, uc, rfl⟩ := how.val
            have hst := Still.of_below hb5
            have HD5 := hide (And.intro (hst _ _ x4) (And.intro (hst _ _ o4) (And.intro (hst _ _ c0) (And.intro (hst _ _ c1) (And.intro (hst _ _ c2) (And.intro (hst _ _ c3) (And.intro (hst _ _ c4) (And.intro (hst _ _ y0) (And.intro (hst _ _ y1) (And.intro (hst _ _ y2) (hst _ _ y3)))))))))))
            refine hK.out _ _ (fun _ => HD5.out) ?_
            clear hK K
            refine wpAnyT_take (L := 21) (i := 17) (v := ?v17) rfl (by kernel_rfl) (by kernel_rfl) (by kernel_rfl) (by kernel_rfl) (fun _ _ _ h => h) HD5.out (Or.inl ⟨by rfl, ?hy17⟩) ?rest17
            case hy17 => ((intro w' hw'); (try dsimp only at hw'); (go_simp); (try with_reducible rfl))
            (try simp only [Act.put]); (try simp only [List.setIfInBounds_toArray]); (try simp only [List.set_cons_zero]); (try simp only [List.set_cons_succ])
            refine wpAnyT_one (L := 21) (i := 18) (by kernel_rfl) rfl (fun K hK => ?_)
            go_simp
            have hst2 := Still.of_below (alloc_below w5 (.cells #[.string lab, .int .i64 N.k, .string N.fr, .int .i64 N.ix, .slice ua N.kids.len uc] ( /- t -/ 65)))
            obtain ⟨s0, s1, s2, s3, s4, s5, s6, s7, s8, s9, s10⟩ := HD5.out
            have HD6 := hide (And.intro (hst2 _ _ s0) (And.intro (hst2 _ _ s1) (And.intro (hst2 _ _ s2) (And.intro (hst2 _ _ s3) (And.intro (hst2 _ _ s4) (And.intro (hst2 _ _ s5) (And.intro (hst2 _ _ s6) (And.intro (hst2 _ _ s7) (And.intro (hst2 _ _ s8) (And.intro (hst2 _ _ s9) (hst2 _ _ s10)))))))))))
            refine hK.out _ _ (fun _ => HD6.out) ?_
            clear hK K
            (try simp only [Act.put]); (try simp only [List.setIfInBounds_toArray]); (try simp only [List.set_cons_zero]); (try simp only [List.set_cons_succ])
            refine wpAnyT_one (L := 21) (i := 19) (by kernel_rfl) rfl (fun K hK => ?_)
            have hgr5 := (HGR.out.below hb5).below (alloc_below w5 (.cells #[.string lab, .int .i64 N.k, .string N.fr, .int .i64 N.ix, .slice ua N.kids.len uc] ( /- t -/ 65)))
            refine step_append_lies _ (by rfl) _ _ _ (by rfl) (w.heap.size + 4) ( /- t -/ 65) i0 _ 5 72 Try.underlying23 HI.out.1 HI.out.2.1 HI.out.2.2.1 HI.out.2.2.2 rfl (by omega) v (subF U p I).len (grXs (w5.alloc (.cells #[.string lab, .int .i64 N.k, .string N.fr, .int .i64 N.ix, .slice ua N.kids.len uc] ( /- t -/ 65))) v (subF U p I)) (by rfl) hgr5.owns
              ⟨w5.heap.size, 0, none⟩ 1 1 [.string lab, .int .i64 N.k, .string N.fr, .int .i64 N.ix, .slice ua N.kids.len uc] (by rfl) (by rfl) (World.news_of_block (cs := #[.string lab, .int .i64 N.k, .string N.fr, .int .i64 N.ix, .slice ua N.kids.len uc]) (t := ( /- t -/ 65)) (fr := (0, 0)) (heap_alloc_new w5 _)) (by simp [Value.oneCell'])
              (by omega) (by have := HSL.out; unfold maxLen; omega) (by have := HSL.out; omega) (by have := hb5.size; simp at this ⊢; omega) _ rfl ?_
            intro gg cp w6 hown6 hgrow6 hat6 hlt6
            have hfar : ∀ (b o : Nat) (x : Value), b < w.heap.size + 4 → (w5.alloc (.cells #[.string lab, .int .i64 N.k, .string N.fr, .int .i64 N.ix, .slice ua N.kids.len uc] ( /- t -/ 65))).cell? ⟨b, o, none⟩ = some x → w6.cell? ⟨b, o, none⟩ = some x := fun b o x hb he => by
              rw [hgrow6.cell_far ⟨b, o, none⟩ (World.block_lt_of_cell? _ _ he) (fun e => by have := hgr5.ge b (hgr5.block b e.symm); omega)]
              exact he
            obtain ⟨s0, s1, s2, s3, s4, s5, s6, s7, s8, s9, s10⟩ := HD6.out
            have HD7 := hide (And.intro (hfar _ _ _ (by omega) s0) (And.intro (hfar _ _ _ (by omega) s1) (And.intro (hfar _ _ _ (by omega) s2) (And.intro (hfar _ _ _ (by omega) s3) (And.intro (hfar _ _ _ (by omega) s4) (And.intro (hfar _ _ _ (by omega) s5) (And.intro (hfar _ _ _ (by omega) s6) (And.intro (hfar _ _ _ (by omega) s7) (And.intro (hfar _ _ _ (by omega) s8) (And.intro (hfar _ _ _ (by omega) s9) (hfar _ _ _ (by omega) s10)))))))))))
            refine hK.out _ _ (fun _ => HD7.out) ?_
            clear hK K
            (try simp only [Act.put]); (try simp only [List.setIfInBounds_toArray]); (try simp only [List.set_cons_zero]); (try simp only [List.set_cons_succ])
            refine wpAnyT_take (L := 21) (i := 20) (v := ?v20) rfl (by kernel_rfl) (by kernel_rfl) (by kernel_rfl) (by kernel_rfl) (fun _ _ _ h => h) HD7.out (Or.inl ⟨by rfl, ?hy20⟩) ?rest20
            case hy20 => ((intro w' hw'); (try dsimp only at hw'); (go_simp); (try with_reducible rfl))
            (try simp only [Act.put]); (try simp only [List.setIfInBounds_toArray]); (try simp only [List.set_cons_zero]); (try simp only [List.set_cons_succ])
            have ho6 : Box4 w6 (w.heap.size + 3) (.int .i64 k) (.string fr) (.int .i64 ix) v := (((HO.out.same (w' := wr.drew) rfl).below hb5).below (alloc_below w5 (.cells #[.string lab, .int .i64 N.k, .string N.fr, .int .i64 N.ix, .slice ua N.kids.len uc] ( /- t -/ 65)))).same (hgrow6.block _ (by have := hb5.size; simp at this ⊢; omega) (fun e => by have := hgr5.ge _ (hgr5.block _ e.symm); omega))
            have o4 := ho6.cells.2.2.2
            have fo := ho6.frozen
            refine wpAnyT_one (L := 21) (i := 21) (by kernel_rfl) rfl (fun K hK => ?_)
            go_simp
            refine hK.out _ _ (fun h => absurd rfl h) ?_
            refine wpAnyT_done (by kernel_rfl) ?_ _
            clear hK K
            have hD : Below w.heap.size w w6 := by
              have h1 := HB.out.drew
              have h2 := h1.trans (hb5.mono h1.size)
              have h3 := h2.alloc h2.size (.cells #[.string lab, .int .i64 N.k, .string N.fr, .int .i64 N.ix, .slice ua N.kids.len uc] ( /- t -/ 65))
              exact ⟨hgrow6.os.trans h3.os, hgrow6.tape.trans h3.tape, hgrow6.output.trans h3.output, Nat.le_trans h3.size hgrow6.size, fun b hb => (hgrow6.block b (Nat.lt_of_lt_of_le hb h3.size) (fun e => by have := hgr5.ge b (hgr5.block b e.symm); omega)).trans (h3.block b hb)⟩
            have hou := how.same (Same.of_below (alloc_below w5 (.cells #[.string lab, .int .i64 N.k, .string N.fr, .int .i64 N.ix, .slice ua N.kids.len uc] ( /- t -/ 65))) how.lt)
            obtain ⟨q1, q2, q3⟩ := HFN.out
            have hwr : w.heap.size + 4 ≤ wr.heap.size := by have := hol; omega
            obtain ⟨bs', hpush, -⟩ := Gr.push hgr5 (k := N.k) (ix := N.ix) hou (fun b hb => by have := hks b hb; simp at this; omega) hknd
              (fun b hb hb2 => by have h1 := HGR.out.lt b hb; have h2 := hks b hb2; omega) HL.out q1 q2 q3 hown6 hgrow6 (by rcases hat6 with h | h; exact Or.inl h; exact Or.inr h)
            obtain ⟨hx, hy, hz, hg⟩ := HR.out
            have far : ∀ b, b < w.heap.size + 3 → (w6.setCell ⟨w.heap.size + 3, 3, none⟩ (.slice (some ⟨gg, 0, none⟩) ((subF U p I).len + 1) cp)).heap[b]? = wr.heap[b]? := fun b hb => by
              have h5 := hb5.size
              simp at h5
              rw [Below.heap_setCell _ _ _ _ (by simp; omega), hgrow6.block b (by simp; omega) (fun e => by have := hgr5.ge b (hgr5.block b e.symm); omega), Below.heap_alloc _ _ _ (by omega), hb5.block b (by simp; omega)]
              rfl
            have hEQ : (subF U p I).app (.cons lab N.k N.fr N.ix N.kids .nil) = subF U (p.app (.cons lab kd fr' ix' kids' .nil)) I := by
              rw [subF_app, subF_cons, HNN.out]
              rfl
            rw [hEQ] at hpush
            have HREL : Hid (SubRel w U k ix fr (.slice (some ⟨b', o, none⟩) kids.len cap) su kids I (some ⟨b', o, none⟩) (.int .i64 ((p.len + 1 : Nat) : Int)) (w6.setCell ⟨w.heap.size + 3, 3, none⟩ (.slice (some ⟨gg, 0, none⟩) ((subF U p I).len + 1) cp))) := hide
              ⟨p.app (.cons lab kd fr' ix' kids' .nil), rest, _, bs', by rw [HE.out, F.app_assoc]; rfl, by rw [F.len_app]; rfl, by rw [F.len_app]; exact hg.tail, hx.same (far _ (by omega)), hy.same (far _ (by omega)), hz.same (far _ (by omega)), ho6.set3 _,
                hpush.same (fun b hb => Below.heap_setCell _ _ _ _ (by have := hpush.ge b hb; simp; omega)), hD.setCell (by simp) _⟩
            clear hpush hx hy hz hg far hEQ hou hD hown6 hgrow6 hat6 hgr5 how hks hknd
            go_wp2_with fail
            go_roundw
            case rel => exact HREL.out
            case measure => simp [intOf]; omega

theorem sub_all : ∀ n, SubAt n := by
  intro n
  induction n with
  | zero => intro w k ix i fr sv kids U su hn; omega
  | succ n ih =>
    intro w k ix i fr sv kids U su hn hs hsu hfit hfu hi1 hi2 hw hc
    by_cases hv : k = 5 ∧ ix = i
    · obtain ⟨rfl, rfl⟩ := hv
      refine sub_var w ix fr sv kids U su hsu ?_
      rcases hc with hc | hc
      · obtain ⟨b, u, hu, h⟩ := hw
        have := scN_of_w _ b u hu h
        simp only [scN, if_true, Bool.and_eq_true, decide_eq_true_eq] at this
        omega
      · exact hc
    · have e : subN U ⟨k, fr, ix, kids⟩ i = ⟨k, fr, ix, subF U kids (bump k i)⟩ := by unfold subN; rw [if_neg hv]
      rw [e]
      exact sub_loop n ih w k ix i fr sv kids U su hn hs hsu hfit hfu hi1 hi2 hw hc hv _ rfl

/-- A copy. -/
theorem copy_ok (U : Nd) (b u : Int) (hu0 : 0 ≤ u) (hb0 : 0 ≤ b) (hw : wN U b u = true) (hf : Fit U) (hh : hN U ≤ 1000000) : CopyOk U := by
  intro w su hs
  have := sub_all (U.kids.sz + 1) w U.k U.ix (-1) U.fr su U.kids ⟨0, ⟨#[]⟩, 0, .nil⟩ (.slice none 0 0) (Nat.lt_succ_self _) hs Sl.nil hf ⟨by decide, by decide, by decide⟩ (by omega) (by unfold hN at hh; omega) ⟨b, u, hu0, hw⟩ (Or.inl rfl)
  have e := subN_far ⟨0, ⟨#[]⟩, 0, .nil⟩ U b (-1) (scN_of_w U b u hu0 hw) (Or.inr (by omega)) hb0
  rw [show (⟨U.k, U.fr, U.ix, U.kids⟩ : Nd) = U from rfl, e] at this
  exact this

end Go.Proofs.Ytpjbffggeegdaaa.Lo

/- l1Copy, l1Unfold and UnfoldGlobal of the model. -/
namespace Go.Proofs.Ytpjbffggeegdaaa.Lo
open Go.RowKit

theorem Box4.setAll {w : World} {b : Nat} {v0 v1 v2 v3 : Value} (h : Box4 w b v0 v1 v2 v3) (u0 u1 u2 u3 : Value) :
    Box4 ((((w.setCell ⟨b, 0, none⟩ u0).setCell ⟨b, 1, none⟩ u1).setCell ⟨b, 2, none⟩ u2).setCell ⟨b, 3, none⟩ u3) b u0 u1 u2 u3 := by
  obtain ⟨t, h⟩ := h
  exact ⟨t, by simp [World.setCell, Array.getElem?_modify, h]⟩

theorem shape_rcu {fr : ByteArray} {ix : Int} {kids : F} (h : shapeB 4 fr ix kids = true) : ∃ lab k' fr' ix' kids', kids = .cons lab k' fr' ix' kids' .nil ∧ lab.toList = [] := by
  unfold shapeB at h
  rw [if_neg (by decide), if_neg (by decide), if_pos rfl] at h
  simp only [Bool.and_eq_true, decide_eq_true_eq] at h
  obtain ⟨⟨_, hl⟩, hb⟩ := h
  cases kids with
  | nil => simp [F.len] at hl
  | cons lab k' fr' ix' kids' rest =>
    have hr : rest = .nil := nil_of_len (by simp only [F.len] at hl; omega)
    subst hr
    exact ⟨lab, k', fr', ix', kids', rfl, List.isEmpty_iff.1 hb⟩

theorem kept_none (j m : Nat) : ((kept j)[m]?).join = none := by
  unfold kept
  rw [List.getElem?_replicate]
  split <;> rfl
theorem cp_kept : ∀ (f : F) (j : Nat), cpF (kept j) f = f := by
  intro f
  induction f with
  | nil => intro j; rw [cpF]
  | cons lab k fr ix kids rest ihk ihr =>
    intro j
    unfold cpF
    by_cases h4 : k = 5
    · simp only [if_pos h4, kept_none, ihk j, ihr j]
    · simp only [if_neg h4, ihr j]
      by_cases h3 : k = 4
      · rw [if_pos h3, show none :: kept j = kept (j + 1) from rfl, ihk]
      · rw [if_neg h3, ihk]
theorem cpN_nil (g : Nd) : cpN [] g = g := by
  obtain ⟨k, fr, ix, kids⟩ := g
  have := cp_kept (.cons ⟨#[]⟩ k fr ix kids .nil) 0
  rw [show kept 0 = ([] : List (Option Nd)) from rfl, cpF_cons] at this
  simp only [F.cons.injEq] at this
  obtain ⟨_, h1, h2, h3, h4, _⟩ := this
  cases hc : cpN [] ⟨k, fr, ix, kids⟩
  rw [hc] at h1 h2 h3 h4
  simp only at h1 h2 h3 h4
  rw [h1, h2, h3, h4]

theorem cpN_fit {s : List (Option Nd)} {g : Nd} (hs : ∀ U, some U ∈ s → Fit U) (hg : Fit g) : Fit (cpN s g) := by
  unfold cpN
  split
  · split
    · rename_i U hU
      exact hs U (mem_of_join hU)
    · exact hg
  · exact hg

/-- A valid node in a place without a guarded recursion is no variable. -/
theorem not_var {g : Nd} {b : Int} (h : wN g b b = true) : g.k ≠ 5 := by
  intro h4
  unfold wN at h
  simp only [Bool.and_eq_true] at h
  have := h.2
  rw [if_pos h4] at this
  simp only [Bool.and_eq_true, decide_eq_true_eq] at this
  omega
theorem cpN_k {s : List (Option Nd)} {g : Nd} (h : g.k ≠ 5) : cpN s g = ⟨g.k, g.fr, g.ix, cpF (if g.k = 4 then none :: s else s) g.kids⟩ := by
  unfold cpN
  rw [if_neg h]

/-- A recursion: its one branch. -/
theorem rec_kid {g : Nd} {b u : Int} (h : wN g b u = true) (h3 : g.k = 4) : ∃ lab k fr ix kids, g.kids = .cons lab k fr ix kids .nil ∧ wN ⟨k, fr, ix, kids⟩ (b + 1) (u + 1) = true := by
  unfold wN at h
  simp only [Bool.and_eq_true] at h
  obtain ⟨h1, h2⟩ := h
  rw [h3] at h1
  obtain ⟨lab, k', fr', ix', kids', e, _⟩ := shape_rcu h1
  rw [if_neg (by omega), if_pos h3, e] at h2
  simp only [wF, Bool.and_true] at h2
  exact ⟨lab, k', fr', ix', kids', e, h2⟩

/-- What holds at each head of the unfolding loop. -/
structure UlIs (T : Nd) (n : Nat) (s : List (Option Nd)) (N : Nd) : Prop where
  eq : unfN n s N = T
  sz : N.kids.sz < n
  va : VaS s
  w : wN N (s.length : Int) (s.length : Int) = true
  hs : ∀ U, some U ∈ s → hN U ≤ 41 * s.length
  h : s.length + hN N ≤ 41
  fit : ∀ U, some U ∈ s → Fit U

theorem UlIs.start {g : Nd} (hw : wN g 0 0 = true) (hh : hN g ≤ 40) : UlIs (unf g) (g.kids.sz + 1) [] g :=
  ⟨rfl, Nat.lt_succ_self _, fun x hx => by simp at hx, hw, fun U hU => by simp at hU, by simp; omega, fun U hU => by simp at hU⟩
/-- One recursion more. -/
theorem UlIs.step {T : Nd} {n : Nat} {s : List (Option Nd)} {N : Nd} (h : UlIs T (n + 1) s N) (h3 : N.k = 4) (hf : Fit (cpN s N)) {lab : ByteArray} {k : Int} {fr : ByteArray} {ix : Int} {kids : F} (hk : N.kids = .cons lab k fr ix kids .nil)
    (hw : wN ⟨k, fr, ix, kids⟩ ((s.length : Int) + 1) ((s.length : Int) + 1) = true) : UlIs T n (some (cpN s N) :: s) ⟨k, fr, ix, kids⟩ := by
  have hc := cpN_w s h.va N (wN_u _ _ _ _ h.w (by omega))
  have hh := cpN_h (41 * s.length) N s h.hs
  have h2 := h.h
  have hkh : hN N = 1 + (1 + hF kids) := by unfold hN; rw [hk]; simp [hF]
  have hsz := h.sz
  rw [hk] at hsz
  simp only [F.sz] at hsz
  refine ⟨?_, by simp only; omega, ?_, ?_, ?_, ?_, ?_⟩
  · have := h.eq
    unfold unfN at this
    rw [if_pos h3, hk] at this
    exact this
  · intro x hx
    rcases List.mem_cons.1 hx with rfl | hx
    · exact ⟨_, rfl, hc⟩
    · exact h.va x hx
  · rw [show (((some (cpN s N) :: s).length : Nat) : Int) = (s.length : Int) + 1 by simp]
    exact hw
  · intro U hU
    simp only [List.length_cons]
    rcases List.mem_cons.1 hU with hU | hU
    · cases hU
      omega
    · have := h.hs U hU
      omega
  · simp only [List.length_cons]
    unfold hN at hkh h2 ⊢
    simp only
    omega
  · intro U hU
    rcases List.mem_cons.1 hU with hU | hU
    · cases hU
      exact hf
    · exact h.fit U hU
theorem UlIs.stop {T : Nd} {n : Nat} {s : List (Option Nd)} {N : Nd} (h : UlIs T n s N) (h3 : N.k ≠ 4) : cpN s N = T := by
  have h1 := h.eq
  have h2 := h.sz
  cases n with
  | zero => omega
  | succ n =>
    unfold unfN at h1
    rw [if_neg h3] at h1
    exact h1

set_option maxHeartbeats 1000000 in
set_option maxRecDepth 100000 in
theorem copy_calls (w : World) (U : Nd) (su : Value) (hsu : Sl w su U.kids) (hc : CopyOk U) :
    Calls Try.prog 28 #[.agg #[.int .i64 U.k, .string U.fr, .int .i64 U.ix, su]] w (MadeN U.k U.fr U.ix U.kids w) := by
  have HC := hide hc
  have HS := hide hsu
  clear hc hsu
  go_enter Try.func28, Try.ntmps28
  go_wp2_with fail
  refine (HC.out _ su (HS.out.still (Still.of_below ?_))).mono ?_
  · exact (alloc_below _ _).alloc (by simp) _
  rintro e w1 ⟨u, bs, rfl, how, hge, hnd, hb⟩
  obtain ⟨ua, uc, rfl⟩ := how.val
  have HO := hide how
  have HG := hide hge
  clear how hge
  obtain ⟨hc, hf⟩ := bcell hb
  have hz := hb.size
  simp at hz
  go_wp2_with fail
  refine bodyPost_ret (v := .agg #[.int .i64 U.k, .string U.fr, .int .i64 U.ix, .slice ua U.kids.len uc]) (by simp [results, Try.results28, go_sem, hc]) rfl ?_
  have hB : Below w.heap.size w w1 := (((alloc_below w _).alloc (by simp) _).trans (hb.mono (by simp; omega)))
  have q : ∀ b, b ∈ bs → w.heap.size + 2 ≤ b := fun b h => by have := HG.out b h; simp at this; omega
  refine ⟨_, bs, rfl, HO.out.same ?_, fun b h => by have := q b h; omega, hnd, ?_⟩
  · repeat (refine Same.setCell ?_ (fun b h => by have := q b h; simp; omega) _)
    exact Same.refl _ _
  · repeat (refine Below.setCell ?_ (by first | (simp; done) | (simp; omega)) _)
    exact hB

end Go.Proofs.Ytpjbffggeegdaaa.Lo

/- What a drawing leaves: a tree in memory of its own, the source asked some more. -/
namespace Go.Proofs.Ytpjbffggeegdaaa.Lo
open Go.RowKit

/-- All indices are one digit. -/
def smF : F → Prop
  | .nil => True
  | .cons _ _ _ ix kids rest => (0 ≤ ix ∧ ix ≤ 9) ∧ smF kids ∧ smF rest
def smN (N : Nd) : Prop := (0 ≤ N.ix ∧ N.ix ≤ 9) ∧ smF N.kids
theorem smF_app (g : F) : ∀ f : F, smF (f.app g) ↔ smF f ∧ smF g
  | .nil => by simp [F.app, smF]
  | .cons lab k fr ix kids rest => by simp only [F.app, smF, smF_app g rest, and_assoc]

/-- The result of a drawing. -/
structure DrN (w : World) (rb : Nat) (cv : Value) (l : List Nat) (p K S : Nat) (N : Nd) (u : Value) (bs : List Nat) (w' : World) : Prop where
  own : Ow w' u N.kids bs
  ge : ∀ b, b ∈ bs → w.heap.size ≤ b
  nd : bs.Nodup
  only : Only rb w w'
  rd : ∃ p', p' ≤ p + K ∧ Rd w' rb cv l p'
  fit : Fit N
  sz : N.kids.sz ≤ S
def DrP (Q : Nd → Prop) (w : World) (rb : Nat) (cv : Value) (l : List Nat) (p K S : Nat) (e : Ending) (w' : World) : Prop :=
  ∃ N u bs, e = .returned (.agg #[.int .i64 N.k, .string N.fr, .int .i64 N.ix, u]) ∧ Q N ∧ DrN w rb cv l p K S N u bs w'

/-- The result is put into its box and read out of it. -/
theorem dr_fin {w w2 : World} {rb : Nat} {cv : Value} {l : List Nat} {p p' K S : Nat} (h : Rd w rb cv l p) (ho : Only rb w w2) (h2 : Rd w2 rb cv l p') (hp : p' ≤ p + K) {N : Nd} {u : Value} {bs : List Nat}
    (how : Ow w2 u N.kids bs) (b : Nat) (hbw : w.heap.size ≤ b) (hge : ∀ x, x ∈ bs → b < x) (hnd : bs.Nodup) (hf : Fit N) (hs : N.kids.sz ≤ S) (v0 v1 v2 v3 : Value) :
    DrN w rb cv l p K S N u bs ((((w2.setCell ⟨b, 0, none⟩ v0).setCell ⟨b, 1, none⟩ v1).setCell ⟨b, 2, none⟩ v2).setCell ⟨b, 3, none⟩ v3) := by
  have hlt := h.lt
  have hne : ∀ x, x ≠ b → ((((w2.setCell ⟨b, 0, none⟩ v0).setCell ⟨b, 1, none⟩ v1).setCell ⟨b, 2, none⟩ v2).setCell ⟨b, 3, none⟩ v3).heap[x]? = w2.heap[x]? := fun x hx =>
    (Below.heap_setCell _ _ _ _ hx).trans ((Below.heap_setCell _ _ _ _ hx).trans ((Below.heap_setCell _ _ _ _ hx).trans (Below.heap_setCell _ _ _ _ hx)))
  have hO : Only rb w ((((w2.setCell ⟨b, 0, none⟩ v0).setCell ⟨b, 1, none⟩ v1).setCell ⟨b, 2, none⟩ v2).setCell ⟨b, 3, none⟩ v3) :=
    (((ho.setCell (Or.inr hbw) _).setCell (Or.inr hbw) _).setCell (Or.inr hbw) _).setCell (Or.inr hbw) _
  refine ⟨how.same (fun x hx => hne x (by have := hge x hx; omega)), fun x hx => by have := hge x hx; omega, hnd, hO, ⟨p', hp, h.fin h2 hO (hne rb (by omega))⟩, hf, hs⟩

/-- Where a drawing stands: its result's box is empty yet. -/
structure St (w : World) (rb : Nat) (cv : Value) (l : List Nat) (p : Nat) (W : World) (q : Nat) : Prop where
  start : Rd w rb cv l p
  only : Only rb w W
  rd : Rd W rb cv l q
  box : Box4 W w.heap.size (.int .i64 0) (.string ⟨#[]⟩) (.int .i64 0) (.slice none 0 0)
theorem St.new {w : World} {rb : Nat} {cv : Value} {l : List Nat} {p : Nat} (h : Rd w rb cv l p) (t : TypeId) :
    St w rb cv l p (w.alloc (.cells #[.int .i64 0, .string ⟨#[]⟩, .int .i64 0, .slice none 0 0] t)) p :=
  ⟨h, (Only.refl _ _).alloc _, h.below (alloc_below w _), Box4.now w _ _ _ _ t⟩
theorem St.on {w : World} {rb : Nat} {cv : Value} {l : List Nat} {p : Nat} {W W' : World} {q q' : Nat} (h : St w rb cv l p W q) (ho : Only rb W W') (hr : Rd W' rb cv l q') : St w rb cv l p W' q' := by
  have hl := h.start.lt
  have hb := h.box.lt
  exact ⟨h.start, h.only.trans ho, hr, h.box.same (ho.block _ hb (by omega))⟩
theorem St.ask {w : World} {rb : Nat} {cv : Value} {l : List Nat} {p : Nat} {W W' : World} {q : Nat} (h : St w rb cv l p W q) (ha : Ask W rb cv l q W') : St w rb cv l p W' (q + 1) := h.on ha.only ha.rd
/-- It ends with a leaf. -/
theorem St.leaf {w : World} {rb : Nat} {cv : Value} {l : List Nat} {p : Nat} {W : World} {q K S : Nat} (h : St w rb cv l p W q) (hq : q ≤ p + K) (k ix : Int) (hk : (Lit.int .i64 k).wf = true) (h0 : 0 ≤ ix) (h9 : ix ≤ 9) (v0 v1 v2 v3 : Value) :
    DrP smN w rb cv l p K S (.returned (.agg #[.int .i64 k, .string ⟨#[]⟩, .int .i64 ix, .slice none 0 0]))
      ((((W.setCell ⟨w.heap.size, 0, none⟩ v0).setCell ⟨w.heap.size, 1, none⟩ v1).setCell ⟨w.heap.size, 2, none⟩ v2).setCell ⟨w.heap.size, 3, none⟩ v3) := by
  have hi : (Lit.int .i64 ix).wf = true := by simp [Lit.wf, IntKind.min, IntKind.max, IntKind.bits, IntKind.signed]; omega
  exact ⟨⟨k, ⟨#[]⟩, ix, .nil⟩, .slice none 0 0, [], rfl, ⟨⟨h0, h9⟩, trivial⟩,
    dr_fin (N := ⟨k, ⟨#[]⟩, ix, .nil⟩) h.start h.only h.rd hq ⟨none, 0, rfl, Nat.le_refl _, Nat.zero_le _, Or.inl ⟨rfl, rfl⟩⟩ w.heap.size (Nat.le_refl _) (fun x hx => absurd hx List.not_mem_nil) List.nodup_nil ⟨show (0 : Nat) ≤ maxLen from Nat.zero_le _, hk, hi⟩ (Nat.zero_le _) v0 v1 v2 v3⟩
end Go.Proofs.Ytpjbffggeegdaaa.Lo

/- l2Random of the model: its leaves. -/
namespace Go.Proofs.Ytpjbffggeegdaaa.Lo
open Go.RowKit

set_option maxHeartbeats 1000000 in
set_option maxRecDepth 100000 in
/-- No level is left. -/
theorem rand_zero (w : World) (rb : Nat) (cv : Value) (l : List Nat) (p S : Nat) (h : Rd w rb cv l p) (hp : p + 9 ≤ 1000000) (b u d : Int) (hd : d < 1) (hu : 0 ≤ u) (hb : b ≤ 3) :
    Calls Try.prog 34 #[.pointer (some ⟨rb, 0, none⟩), .int .i64 b, .int .i64 u, .int .i64 d] w (DrP smN w rb cv l p 9 S) := by
  have HS := hide (St.new h ( /- t -/ 25))
  clear h
  go_enter Try.func34, Try.ntmps34
  go_upto_region 1 with fail
  generalize w.alloc (.cells #[.int .i64 0, .string ⟨#[]⟩, .int .i64 0, .slice none 0 0] ( /- t -/ 25)) = W at *
  by_cases hbu : u < b
  case neg =>
    obtain ⟨x0, x1, x2, x3⟩ := HS.out.box.cells
    have fx := HS.out.box.frozen
    have lx := HS.out.box.lt
    go_wp2_with fail
    refine bodyPost_ret (v := .agg #[.int .i64 1, .string ⟨#[]⟩, .int .i64 (0), .slice none 0 0]) (by simp [results, Try.results34, go_sem, *]) rfl ?_
    exact HS.out.leaf (by omega) 1 0 (by decide) (by omega) (by omega) _ _ _ _
  case pos =>
    go_wp2_with fail
    refine (pick_calls _ rb cv l _ HS.out.rd (by omega) 2 (by omega)).mono ?_
    rintro e wA ⟨va, rfl, hva, hask⟩
    have HA := hide (HS.out.ask hask)
    clear hask
    by_cases hv0 : va = 0
    case neg =>
      have hv1 : ((va : Int) == 0) = false := beq_eq_false_iff_ne.2 (by omega)
      have hv2 : ¬ (va : Int) = 0 := by omega
      obtain ⟨x0, x1, x2, x3⟩ := HA.out.box.cells
      have fx := HA.out.box.frozen
      have lx := HA.out.box.lt
      go_wp2_with fail
      refine bodyPost_ret (v := .agg #[.int .i64 1, .string ⟨#[]⟩, .int .i64 (0), .slice none 0 0]) (by simp [results, Try.results34, go_sem, *]) rfl ?_
      exact HA.out.leaf (by omega) 1 0 (by decide) (by omega) (by omega) _ _ _ _
    case pos =>
      subst hv0
      go_wp2_with fail
      refine (pick_calls _ rb cv l _ HA.out.rd (by omega) (b - u) (by omega)).mono ?_
      rintro e wB ⟨vb, rfl, hvb, hask⟩
      have HB := hide (HA.out.ask hask)
      clear hask
      have hix : u + (vb : Int) ≤ 9 := by omega
      obtain ⟨x0, x1, x2, x3⟩ := HB.out.box.cells
      have fx := HB.out.box.frozen
      have lx := HB.out.box.lt
      go_wp2_with fail
      refine bodyPost_ret (v := .agg #[.int .i64 5, .string ⟨#[]⟩, .int .i64 (u + (vb : Int)), .slice none 0 0]) (by simp [results, Try.results34, go_sem, *]) rfl ?_
      exact HB.out.leaf (by omega) 5 (u + (vb : Int)) (by decide) (by omega) (by omega) _ _ _ _
end Go.Proofs.Ytpjbffggeegdaaa.Lo

/- The text of a valid tree. -/
namespace Go.Proofs.Ytpjbffggeegdaaa
open Go.RowKit

def bdot : ByteArray := ⟨#[46]⟩
def bhash : ByteArray := ⟨#[35]⟩
def bat : ByteArray := ⟨#[64]⟩
def bopen : ByteArray := ⟨#[123]⟩
def bbar : ByteArray := ⟨#[124]⟩
def bclose : ByteArray := ⟨#[125]⟩
def bdec (ix : Int) : ByteArray := ⟨(Lib.decDigits ix.toNat).toArray⟩

/-- The text of a node, the texts of its branches and of its body given. -/
def nodeT (k : Int) (fr tq : ByteArray) (ix : Int) (tb tr : ByteArray) : ByteArray :=
  if k = 1 then bdot else if k = 4 then bhash ++ bdec ix else if k = 3 then bat ++ tr else fr ++ tq ++ tb ++ bclose

/-- Which text of a list is meant: that of all branches, the first of them behind a brace; that of branches behind a bar; that of the first one's node alone. -/
inductive Md where
  | first | more | body

def txF : F → Md → ByteArray
  | .nil, _ => ⟨#[]⟩
  | .cons lab k fr tq ix kids rest, m =>
    match m with
    | .body => nodeT k fr tq ix (txF kids .first) (txF kids .body)
    | .first => bopen ++ lab ++ nodeT k fr tq ix (txF kids .first) (txF kids .body) ++ txF rest .more
    | .more => bbar ++ lab ++ nodeT k fr tq ix (txF kids .first) (txF kids .body) ++ txF rest .more
def txN (k : Int) (fr tq : ByteArray) (ix : Int) (kids : F) : ByteArray := nodeT k fr tq ix (txF kids .first) (txF kids .body)

theorem bytes_assoc (a b c : ByteArray) : a ++ b ++ c = a ++ (b ++ c) := ByteArray.append_assoc
theorem bytes_nil (a : ByteArray) : a ++ ⟨#[]⟩ = a := by
  show a ++ ByteArray.empty = a
  exact ByteArray.append_empty
theorem strCells_append (a b : ByteArray) : Lib.strCells (a ++ b) = Lib.strCells a ++ Lib.strCells b := by
  simp [Lib.strCells, ByteArray.data_append]

theorem decDigits_small {i : Nat} (h : i < 40) : (Lib.decDigits i).length ≤ 2 := by
  unfold Lib.decDigits
  split
  · simp
  · rw [List.length_append]
    unfold Lib.decDigits
    rw [dif_pos (by omega)]
    simp

theorem toList_length (s : ByteArray) : s.toList.length = s.size := by
  rw [ByteArray.toList_eq]
  rfl
theorem role_size {s : ByteArray} (h : roleB s = true) : s.size = 1 := by
  have h2 : s.toList.length = 1 := by
    simp only [roleB, Bool.or_eq_true, beq_iff_eq] at h
    rcases h with (h | h) | h <;> rw [h] <;> rfl
  rw [← h2]
  exact (toList_length s).symm
theorem lab_size {s : ByteArray} (h : labB s = true) : s.size = 1 := by
  unfold labB at h
  split at h
  · rename_i c e
    have : s.data.toList.length = 1 := by rw [e]; rfl
    rw [← toList_length, ByteArray.toList_eq]
    exact this
  · cases h

/-- A valid node's kinds. -/
theorem node_kinds {k : Int} {fr tq : ByteArray} {ix : Int} {kids : F} {b u d : Int} {vr vm : Bool} (hu : 0 ≤ u) (h : nodeB k fr tq ix kids b u d vr vm = true) :
    1 ≤ d ∧ shapeB k fr tq ix kids = true ∧ (k = 1 ∨ (k = 4 ∧ 0 ≤ ix ∧ ix < b ∧ kids = .nil) ∨ (k = 3 ∧ vr = true) ∨ (k = 2 ∧ vm = true)) := by
  rw [nodeB_shape _ _ _ _ _ _ _ _ hu] at h
  simp only [Bool.and_eq_true, decide_eq_true_eq] at h
  obtain ⟨⟨h1, h2⟩, h3⟩ := h
  refine ⟨h1, h2, ?_⟩
  by_cases k1 : k = 1
  · exact Or.inl k1
  by_cases k4 : k = 4
  · subst k4
    simp only [if_pos, Bool.and_eq_true, decide_eq_true_eq] at h3
    refine Or.inr (Or.inl ⟨rfl, by omega, h3.2, ?_⟩)
    have h4 : (fr.toList.isEmpty && tq.toList.isEmpty && decide (0 ≤ ix) && decide (kids.len = 0)) = true := h2
    simp only [Bool.and_eq_true, decide_eq_true_eq] at h4
    exact nil_of_len h4.2
  by_cases k3 : k = 3
  · subst k3
    exact Or.inr (Or.inr (Or.inl ⟨rfl, by simpa using h3⟩))
  by_cases k2 : k = 2
  · subst k2
    exact Or.inr (Or.inr (Or.inr ⟨rfl, by simpa using h3⟩))
  simp [shapeB, k1, k2, k3, k4] at h2

theorem asc_labels : ∀ (f : F) (p : Option ByteArray) (lab : ByteArray) (k : Int) (fr tq : ByteArray) (ix : Int) (kids rest : F), f = .cons lab k fr tq ix kids rest → ascB p f = true → labB lab = true ∧ ascB (some lab) rest = true := by
  rintro f p lab k fr tq ix kids rest rfl h
  simp only [ascB, Bool.and_eq_true] at h
  exact ⟨h.1.1, h.2⟩

/-- The labels of the list are of one letter each. -/
def oneF : F → Prop
  | .nil => True
  | .cons lab _ _ _ _ _ rest => lab.size = 1 ∧ oneF rest
theorem oneF_of_asc : ∀ (f : F) (p : Option ByteArray), ascB p f = true → oneF f := by
  intro f
  induction f with
  | nil => intro p _; trivial
  | cons lab k fr tq ix kids rest _ ihr =>
    intro p h
    simp only [ascB, Bool.and_eq_true] at h
    exact ⟨lab_size h.1.1, ihr _ h.2⟩

theorem nodeT_size {k : Int} {fr tq : ByteArray} {ix : Int} {kids : F} {b u d : Int} (hb : 0 ≤ b) (hu : 0 ≤ u) (hbd : b + d ≤ 40)
    (ih : ∀ (b u d : Int), 0 ≤ b → 0 ≤ u → b + d ≤ 40 → vldF kids b u d = true → (oneF kids → (txF kids .first).size ≤ 5 * kids.sz) ∧ (txF kids .body).size ≤ 3 + 5 * kids.sz ∧ (kids ≠ .nil → (txF kids .body).size + 2 ≤ 5 * kids.sz))
    (h : vldN k fr tq ix kids b u d = true) : (txN k fr tq ix kids).size ≤ 3 + 5 * kids.sz := by
  unfold vldN at h
  obtain ⟨hd, hsh, hk⟩ := node_kinds hu h
  unfold txN nodeT
  rcases hk with rfl | ⟨rfl, h0, h1, rfl⟩ | ⟨rfl, hv⟩ | ⟨rfl, hv⟩
  · rw [if_pos rfl]
    show 1 ≤ _
    omega
  · rw [if_neg (by decide), if_pos rfl, ByteArray.size_append]
    have h2 : (bdec ix).size = (Lib.decDigits ix.toNat).length := by simp [bdec, ByteArray.size]
    have h3 : (Lib.decDigits ix.toNat).length ≤ 2 := decDigits_small (by omega)
    have h4 : bhash.size = 1 := rfl
    omega
  · rw [if_neg (by decide), if_neg (by decide), if_pos rfl, ByteArray.size_append]
    have h4 : bat.size = 1 := rfl
    have hl : kids ≠ .nil := by
      rintro rfl
      simp [shapeB, F.len] at hsh
    have := (ih (b + 1) (u + 1) (d - 1) (by omega) (by omega) (by omega) hv).2.2 hl
    omega
  · rw [if_neg (by decide), if_neg (by decide), if_neg (by decide), ByteArray.size_append, ByteArray.size_append, ByteArray.size_append]
    have h4 : bclose.size = 1 := rfl
    have hs : (roleB fr && roleB tq && !(fr.toList == tq.toList) && ix == 0 && branchesB kids) = true := hsh
    simp only [Bool.and_eq_true] at hs
    have h5 := role_size hs.1.1.1.1
    have h6 := role_size hs.1.1.1.2
    have hbr := hs.2
    unfold branchesB at hbr
    simp only [Bool.and_eq_true] at hbr
    have := (ih b 0 (d - 1) hb (by omega) (by omega) hv).1 (oneF_of_asc _ _ hbr.1)
    omega

theorem txF_size : ∀ (f : F) (b u d : Int), 0 ≤ b → 0 ≤ u → b + d ≤ 40 → vldF f b u d = true →
    (oneF f → (txF f .first).size ≤ 5 * f.sz) ∧ (txF f .body).size ≤ 3 + 5 * f.sz ∧ (f ≠ .nil → (txF f .body).size + 2 ≤ 5 * f.sz) ∧ (oneF f → (txF f .more).size ≤ 5 * f.sz) := by
  intro f
  induction f with
  | nil =>
    intro b u d _ _ _ _
    exact ⟨fun _ => Nat.le_refl _, Nat.zero_le _, fun h => absurd rfl h, fun _ => Nat.le_refl _⟩
  | cons lab k fr tq ix kids rest ihk ihr =>
    intro b u d hb hu hbd h
    simp only [vldF, Bool.and_eq_true] at h
    obtain ⟨hn, hr⟩ := h
    have hT := nodeT_size hb hu hbd (fun b' u' d' h1 h2 h3 h4 => ⟨(ihk b' u' d' h1 h2 h3 h4).1, (ihk b' u' d' h1 h2 h3 h4).2.1, (ihk b' u' d' h1 h2 h3 h4).2.2.1⟩) hn
    have hR := (ihr b u d hb hu hbd hr).2.2.2
    have h1 : bopen.size = 1 := rfl
    have h2 : bbar.size = 1 := rfl
    have hB : txF (.cons lab k fr tq ix kids rest) .body = txN k fr tq ix kids := rfl
    have hF : txF (.cons lab k fr tq ix kids rest) .first = bopen ++ lab ++ txN k fr tq ix kids ++ txF rest .more := rfl
    have hM : txF (.cons lab k fr tq ix kids rest) .more = bbar ++ lab ++ txN k fr tq ix kids ++ txF rest .more := rfl
    rw [hB, hF, hM]
    simp only [ByteArray.size_append, F.sz]
    refine ⟨fun ho => ?_, by omega, fun _ => by omega, fun ho => ?_⟩
    · have h5 := ho.1
      have := hR ho.2
      omega
    · have h5 := ho.1
      have := hR ho.2
      omega
theorem txN_size {k : Int} {fr tq : ByteArray} {ix : Int} {kids : F} {b u d : Int} (hb : 0 ≤ b) (hu : 0 ≤ u) (hbd : b + d ≤ 40) (h : vldN k fr tq ix kids b u d = true) :
    (txN k fr tq ix kids).size ≤ 3 + 5 * kids.sz :=
  nodeT_size hb hu hbd (fun b' u' d' h1 h2 h3 h4 => ⟨(txF_size kids b' u' d' h1 h2 h3 h4).1, (txF_size kids b' u' d' h1 h2 h3 h4).2.1, (txF_size kids b' u' d' h1 h2 h3 h4).2.2.1⟩) h

def md (k : Nat) : Md := if k = 0 then .first else .more
def sepB (k : Nat) : ByteArray := if k = 0 then bopen else bbar
theorem txF_md (lab : ByteArray) (k : Int) (fr tq : ByteArray) (ix : Int) (kids rest : F) (i : Nat) : txF (.cons lab k fr tq ix kids rest) (md i) = sepB i ++ lab ++ txN k fr tq ix kids ++ txF rest (md (i + 1)) := by
  have h2 : md (i + 1) = .more := if_neg (by omega)
  rw [h2]
  unfold md sepB
  split <;> rfl
theorem sepB_size (i : Nat) : (sepB i).size = 1 := by unfold sepB; split <;> rfl

/-- The text that FormatGlobal gives. -/
def textN (k : Int) (fr tq : ByteArray) (ix : Int) (kids : F) : ByteArray := if okN k fr tq ix kids then txN k fr tq ix kids else ⟨#[]⟩

end Go.Proofs.Ytpjbffggeegdaaa

/- The text of a valid local type. -/
namespace Go.Proofs.Ytpjbffggeegdaaa.Lo
open Go.RowKit

/-- Send or receive. -/
def mark (k : Int) : ByteArray := if k = 2 then ⟨#[33]⟩ else ⟨#[63]⟩
theorem mark_size (k : Int) : (mark k).size = 1 := by unfold mark; split <;> rfl

/-- The text of a node, the texts of its branches and of its body given. -/
def nodeT (k : Int) (fr : ByteArray) (ix : Int) (tb tr : ByteArray) : ByteArray :=
  if k = 1 then bdot else if k = 5 then bhash ++ bdec ix else if k = 4 then bat ++ tr else fr ++ mark k ++ tb ++ bclose

def txF : F → Md → ByteArray
  | .nil, _ => ⟨#[]⟩
  | .cons lab k fr ix kids rest, m =>
    match m with
    | .body => nodeT k fr ix (txF kids .first) (txF kids .body)
    | .first => bopen ++ lab ++ nodeT k fr ix (txF kids .first) (txF kids .body) ++ txF rest .more
    | .more => bbar ++ lab ++ nodeT k fr ix (txF kids .first) (txF kids .body) ++ txF rest .more
def txN (k : Int) (fr : ByteArray) (ix : Int) (kids : F) : ByteArray := nodeT k fr ix (txF kids .first) (txF kids .body)

/-- A valid node's kinds. -/
theorem node_kinds {k : Int} {fr : ByteArray} {ix : Int} {kids : F} {b u d : Int} {vr va : Bool} (hu : 0 ≤ u) (h : nodeB k fr ix kids b u d vr va = true) :
    1 ≤ d ∧ shapeB k fr ix kids = true ∧ (k = 1 ∨ (k = 5 ∧ 0 ≤ ix ∧ ix < b ∧ kids = .nil) ∨ (k = 4 ∧ vr = true) ∨ ((k = 2 ∨ k = 3) ∧ va = true)) := by
  rw [nodeB_shape] at h
  simp only [Bool.and_eq_true, decide_eq_true_eq] at h
  obtain ⟨⟨h1, h2⟩, h3⟩ := h
  refine ⟨h1, h2, ?_⟩
  by_cases k1 : k = 1
  · exact Or.inl k1
  by_cases k5 : k = 5
  · subst k5
    simp only [if_pos, Bool.and_eq_true, decide_eq_true_eq] at h3
    refine Or.inr (Or.inl ⟨rfl, by omega, h3.2, ?_⟩)
    have h4 : (fr.toList.isEmpty && decide (kids.len = 0)) = true := h2
    simp only [Bool.and_eq_true, decide_eq_true_eq] at h4
    exact nil_of_len h4.2
  by_cases k4 : k = 4
  · subst k4
    exact Or.inr (Or.inr (Or.inl ⟨rfl, by simpa using h3⟩))
  by_cases k2 : k = 2 ∨ k = 3
  · rw [if_neg k5, if_neg k4, if_pos k2] at h3
    exact Or.inr (Or.inr (Or.inr ⟨k2, h3⟩))
  simp [shapeB, k1, k2, k4, k5] at h2

theorem shape_act {k : Int} {fr : ByteArray} {ix : Int} {kids : F} (hk : k = 2 ∨ k = 3) (h : shapeB k fr ix kids = true) : roleB fr = true ∧ ix = 0 ∧ branchesB kids = true := by
  have h' : (roleB fr && ix == 0 && branchesB kids) = true := by
    rcases hk with rfl | rfl <;> exact h
  simp only [Bool.and_eq_true, beq_iff_eq] at h'
  exact ⟨h'.1.1, h'.1.2, h'.2⟩
theorem shape_end {fr : ByteArray} {ix : Int} {kids : F} (h : shapeB 1 fr ix kids = true) : fr.toList = [] ∧ ix = 0 ∧ kids = .nil := by
  have h' : (fr.toList.isEmpty && ix == 0 && decide (kids.len = 0)) = true := h
  simp only [Bool.and_eq_true, List.isEmpty_iff, beq_iff_eq, decide_eq_true_eq] at h'
  exact ⟨h'.1.1, h'.1.2, nil_of_len h'.2⟩
theorem shape_var {fr : ByteArray} {ix : Int} {kids : F} (h : shapeB 5 fr ix kids = true) : fr.toList = [] ∧ kids = .nil := by
  have h' : (fr.toList.isEmpty && decide (kids.len = 0)) = true := h
  simp only [Bool.and_eq_true, List.isEmpty_iff, decide_eq_true_eq] at h'
  exact ⟨h'.1, nil_of_len h'.2⟩
theorem shape_rec {fr : ByteArray} {ix : Int} {kids : F} (h : shapeB 4 fr ix kids = true) : fr.toList = [] ∧ ix = 0 ∧ ∃ lab k' fr' ix' kids', kids = .cons lab k' fr' ix' kids' .nil ∧ lab.toList = [] := by
  have h' : (fr.toList.isEmpty && ix == 0 && decide (kids.len = 1) && bareB kids) = true := h
  simp only [Bool.and_eq_true, List.isEmpty_iff, beq_iff_eq, decide_eq_true_eq] at h'
  refine ⟨h'.1.1.1, h'.1.1.2, ?_⟩
  obtain ⟨⟨-, hl⟩, hb⟩ := h'
  cases kids with
  | nil => simp [F.len] at hl
  | cons lab k' fr' ix' kids' rest =>
    have hr : rest = .nil := nil_of_len (by simp only [F.len] at hl; omega)
    subst hr
    exact ⟨lab, k', fr', ix', kids', rfl, List.isEmpty_iff.1 hb⟩

theorem asc_labels : ∀ (f : F) (p : Option ByteArray) (lab : ByteArray) (k : Int) (fr : ByteArray) (ix : Int) (kids rest : F), f = .cons lab k fr ix kids rest → ascB p f = true → labB lab = true ∧ ascB (some lab) rest = true := by
  rintro f p lab k fr ix kids rest rfl h
  simp only [ascB, Bool.and_eq_true] at h
  exact ⟨h.1.1, h.2⟩

/-- The labels of the list are of one letter each. -/
def oneF : F → Prop
  | .nil => True
  | .cons lab _ _ _ _ rest => lab.size = 1 ∧ oneF rest
theorem oneF_of_asc : ∀ (f : F) (p : Option ByteArray), ascB p f = true → oneF f := by
  intro f
  induction f with
  | nil => intro p _; trivial
  | cons lab k fr ix kids rest _ ihr =>
    intro p h
    simp only [ascB, Bool.and_eq_true] at h
    exact ⟨lab_size h.1.1, ihr _ h.2⟩

theorem nodeT_size {k : Int} {fr : ByteArray} {ix : Int} {kids : F} {b u d : Int} (hb : 0 ≤ b) (hu : 0 ≤ u) (hbd : b + d ≤ 40)
    (ih : ∀ (b u d : Int), 0 ≤ b → 0 ≤ u → b + d ≤ 40 → vldF kids b u d = true → (oneF kids → (txF kids .first).size ≤ 5 * kids.sz) ∧ (txF kids .body).size ≤ 3 + 5 * kids.sz ∧ (kids ≠ .nil → (txF kids .body).size + 2 ≤ 5 * kids.sz))
    (h : vldN k fr ix kids b u d = true) : (txN k fr ix kids).size ≤ 3 + 5 * kids.sz := by
  unfold vldN at h
  obtain ⟨hd, hsh, hk⟩ := node_kinds hu h
  unfold txN nodeT
  rcases hk with rfl | ⟨rfl, h0, h1, rfl⟩ | ⟨rfl, hv⟩ | ⟨hkk, hv⟩
  · rw [if_pos rfl]
    show 1 ≤ _
    omega
  · rw [if_neg (by decide), if_pos rfl, ByteArray.size_append]
    have h2 : (bdec ix).size = (Lib.decDigits ix.toNat).length := by simp [bdec, ByteArray.size]
    have h3 : (Lib.decDigits ix.toNat).length ≤ 2 := decDigits_small (by omega)
    have h4 : bhash.size = 1 := rfl
    omega
  · rw [if_neg (by decide), if_neg (by decide), if_pos rfl, ByteArray.size_append]
    have h4 : bat.size = 1 := rfl
    have hl : kids ≠ .nil := by
      rintro rfl
      simp [shapeB, F.len] at hsh
    have := (ih (b + 1) (u + 1) (d - 1) (by omega) (by omega) (by omega) hv).2.2 hl
    omega
  · rw [if_neg (by omega), if_neg (by omega), if_neg (by omega), ByteArray.size_append, ByteArray.size_append, ByteArray.size_append]
    have h4 : bclose.size = 1 := rfl
    obtain ⟨hs1, -, hbr⟩ := shape_act hkk hsh
    have h5 := role_size hs1
    have h6 := mark_size k
    unfold branchesB at hbr
    simp only [Bool.and_eq_true] at hbr
    have := (ih b 0 (d - 1) hb (by omega) (by omega) hv).1 (oneF_of_asc _ _ hbr.1)
    omega

theorem txF_size : ∀ (f : F) (b u d : Int), 0 ≤ b → 0 ≤ u → b + d ≤ 40 → vldF f b u d = true →
    (oneF f → (txF f .first).size ≤ 5 * f.sz) ∧ (txF f .body).size ≤ 3 + 5 * f.sz ∧ (f ≠ .nil → (txF f .body).size + 2 ≤ 5 * f.sz) ∧ (oneF f → (txF f .more).size ≤ 5 * f.sz) := by
  intro f
  induction f with
  | nil =>
    intro b u d _ _ _ _
    exact ⟨fun _ => Nat.le_refl _, Nat.zero_le _, fun h => absurd rfl h, fun _ => Nat.le_refl _⟩
  | cons lab k fr ix kids rest ihk ihr =>
    intro b u d hb hu hbd h
    simp only [vldF, Bool.and_eq_true] at h
    obtain ⟨hn, hr⟩ := h
    have hT := nodeT_size hb hu hbd (fun b' u' d' h1 h2 h3 h4 => ⟨(ihk b' u' d' h1 h2 h3 h4).1, (ihk b' u' d' h1 h2 h3 h4).2.1, (ihk b' u' d' h1 h2 h3 h4).2.2.1⟩) hn
    have hR := (ihr b u d hb hu hbd hr).2.2.2
    have h1 : bopen.size = 1 := rfl
    have h2 : bbar.size = 1 := rfl
    have hB : txF (.cons lab k fr ix kids rest) .body = txN k fr ix kids := rfl
    have hF : txF (.cons lab k fr ix kids rest) .first = bopen ++ lab ++ txN k fr ix kids ++ txF rest .more := rfl
    have hM : txF (.cons lab k fr ix kids rest) .more = bbar ++ lab ++ txN k fr ix kids ++ txF rest .more := rfl
    rw [hB, hF, hM]
    simp only [ByteArray.size_append, F.sz]
    refine ⟨fun ho => ?_, by omega, fun _ => by omega, fun ho => ?_⟩
    · have h5 := ho.1
      have := hR ho.2
      omega
    · have h5 := ho.1
      have := hR ho.2
      omega
theorem txN_size {k : Int} {fr : ByteArray} {ix : Int} {kids : F} {b u d : Int} (hb : 0 ≤ b) (hu : 0 ≤ u) (hbd : b + d ≤ 40) (h : vldN k fr ix kids b u d = true) :
    (txN k fr ix kids).size ≤ 3 + 5 * kids.sz :=
  nodeT_size hb hu hbd (fun b' u' d' h1 h2 h3 h4 => ⟨(txF_size kids b' u' d' h1 h2 h3 h4).1, (txF_size kids b' u' d' h1 h2 h3 h4).2.1, (txF_size kids b' u' d' h1 h2 h3 h4).2.2.1⟩) h

theorem txF_md (lab : ByteArray) (k : Int) (fr : ByteArray) (ix : Int) (kids rest : F) (i : Nat) : txF (.cons lab k fr ix kids rest) (md i) = sepB i ++ lab ++ txN k fr ix kids ++ txF rest (md (i + 1)) := by
  have h2 : md (i + 1) = .more := if_neg (by omega)
  rw [h2]
  unfold md sepB
  split <;> rfl
/-- The text that FormatLocal gives. -/
def textN (k : Int) (fr : ByteArray) (ix : Int) (kids : F) : ByteArray := if okN k fr ix kids then txN k fr ix kids else ⟨#[]⟩

end Go.Proofs.Ytpjbffggeegdaaa.Lo

/- Rows of nodes of local types: slices that read as lists of nodes, and rows of the call's own. -/
namespace Go.Proofs.Ytpjbffggeegdaaa.Lo.Ne
open Go.RowKit

structure Nd where
  k : Int
  fr : ByteArray
  ix : Int
  kids : F

def Nd.wt (n : Nd) : Nat := n.fr.size + (n.kids.len + n.kids.wt)
def wtL : List Nd → Nat
  | [] => 0
  | n :: r => n.wt + wtL r
theorem wtL_app (g : List Nd) : ∀ l : List Nd, wtL (l ++ g) = wtL l + wtL g
  | [] => by simp [wtL]
  | n :: r => by simp only [List.cons_append, wtL, wtL_app g r]; omega
theorem wt_mem {n : Nd} : ∀ {l : List Nd}, n ∈ l → n.wt ≤ wtL l
  | m :: r, h => by
    rcases List.mem_cons.1 h with rfl | h
    · simp only [wtL]; omega
    · have := wt_mem h
      simp only [wtL]; omega

/-- A node of a local type in four cells. -/
def elL : El Nd where
  st := 4
  P w b o n := n.fr.size ≤ maxLen ∧ (Lit.int .i64 n.k).wf = true ∧ (Lit.int .i64 n.ix).wf = true ∧
    w.cell? ⟨b, o, none⟩ = some (.int .i64 n.k) ∧ w.cell? ⟨b, o + 1, none⟩ = some (.string n.fr) ∧ w.cell? ⟨b, o + 2, none⟩ = some (.int .i64 n.ix) ∧
    ∃ sv, w.cell? ⟨b, o + 3, none⟩ = some sv ∧ Sl w sv n.kids
  still h := fun ⟨l1, l2, l3, c0, c1, c2, sv, c3, hs⟩ => ⟨l1, l2, l3, h _ _ c0, h _ _ c1, h _ _ c2, sv, h _ _ c3, hs.still h⟩
theorem AtL.head {w : World} {a : Option Addr} {i : Nat} {k ix : Int} {fr : ByteArray} {kids : F} {rest : List Nd} (h : AtG elL w a i (⟨k, fr, ix, kids⟩ :: rest)) :
    ∃ b o, a = some ⟨b, o, none⟩ ∧ fr.size ≤ maxLen ∧ (Lit.int .i64 k).wf = true ∧ (Lit.int .i64 ix).wf = true ∧
    w.cell? ⟨b, o + i * 4, none⟩ = some (.int .i64 k) ∧ w.cell? ⟨b, o + i * 4 + 1, none⟩ = some (.string fr) ∧ w.cell? ⟨b, o + i * 4 + 2, none⟩ = some (.int .i64 ix) ∧
    ∃ sv, w.cell? ⟨b, o + i * 4 + 3, none⟩ = some sv ∧ Sl w sv kids := h.head

/-- A row of nodes, and the blocks below are named. -/
def OwL (w : World) (b : Nat) : Nat → List Nd → List Nat → Prop
  | _, [], bs => bs = []
  | o, n :: r, bs => n.fr.size ≤ maxLen ∧ (Lit.int .i64 n.k).wf = true ∧ (Lit.int .i64 n.ix).wf = true ∧
      w.cell? ⟨b, o, none⟩ = some (.int .i64 n.k) ∧ w.cell? ⟨b, o + 1, none⟩ = some (.string n.fr) ∧ w.cell? ⟨b, o + 2, none⟩ = some (.int .i64 n.ix) ∧
      ∃ ks rs, bs = ks ++ rs ∧ (∃ sv, w.cell? ⟨b, o + 3, none⟩ = some sv ∧ Ow w sv n.kids ks) ∧ OwL w b (o + 4) r rs
/-- A slice of nodes reads as the list, and its blocks are these. -/
def OwS (w : World) (v : Value) (l : List Nd) (bs : List Nat) : Prop :=
  ∃ a cap, v = .slice a l.length cap ∧ l.length ≤ cap ∧ cap ≤ maxLen ∧
    ((l = [] ∧ bs = []) ∨ ∃ b n bs', a = some ⟨b, 0, none⟩ ∧ bs = b :: bs' ∧ Free w b n ∧ l ≠ [] ∧ OwL w b 0 l bs')

theorem OwL.row {w : World} {b : Nat} : ∀ {l : List Nd} {o : Nat} {bs : List Nat}, OwL w b o l bs → RowG elL w b o l
  | [], _, _, _ => trivial
  | _ :: _, _, _, ⟨l1, l2, l3, c0, c1, c2, _, _, _, ⟨sv, c3, hs⟩, hr⟩ => ⟨⟨l1, l2, l3, c0, c1, c2, sv, c3, hs.sl⟩, OwL.row hr⟩
theorem OwS.sl {w : World} {v : Value} {l : List Nd} {bs : List Nat} (h : OwS w v l bs) : SlG elL w v l := by
  obtain ⟨a, cap, e0, e1, e2, hs⟩ := h
  refine ⟨a, cap, e0, e1, e2, ?_⟩
  rcases hs with ⟨hs, _⟩ | ⟨b', n, ks', e3, _, _, _, e4⟩
  · exact Or.inl hs
  · exact Or.inr ⟨b', 0, e3, e4.row⟩
theorem OwS.val {w : World} {v : Value} {l : List Nd} {bs : List Nat} (h : OwS w v l bs) : ∃ a cap, v = .slice a l.length cap := by
  obtain ⟨a, cap, e0, _⟩ := h
  exact ⟨a, cap, e0⟩
theorem OwL.same {w w' : World} {b : Nat} : ∀ {l : List Nd} {o : Nat} {bs : List Nat}, OwL w b o l bs → (∀ i, i < 4 * l.length → w'.cell? ⟨b, o + i, none⟩ = w.cell? ⟨b, o + i, none⟩) → Same w w' bs → OwL w' b o l bs
  | [], _, _, h, _, _ => h
  | n :: r, o, bs, ⟨l1, l2, l3, c0, c1, c2, ks, rs, e, ⟨sv, c3, hs⟩, hr⟩, hc, hsame => by
    subst e
    have q : ∀ i, i < 4 → w'.cell? ⟨b, o + i, none⟩ = w.cell? ⟨b, o + i, none⟩ := fun i hi => hc i (by simp only [List.length_cons]; omega)
    exact ⟨l1, l2, l3, (q 0 (by omega)).trans c0, (q 1 (by omega)).trans c1, (q 2 (by omega)).trans c2, ks, rs, rfl, ⟨sv, (q 3 (by omega)).trans c3, hs.same (fun x hx => hsame x (List.mem_append_left _ hx))⟩,
      OwL.same hr (fun i hi => by rw [Nat.add_assoc]; exact hc (4 + i) (by simp only [List.length_cons]; omega)) (fun x hx => hsame x (List.mem_append_right _ hx))⟩
theorem OwS.same {w w' : World} {v : Value} {l : List Nd} {bs : List Nat} (hs : OwS w v l bs) (h : Same w w' bs) : OwS w' v l bs := by
  obtain ⟨a, cap, e0, e1, e2, hs⟩ := hs
  refine ⟨a, cap, e0, e1, e2, ?_⟩
  rcases hs with hs | ⟨b', n, ks', e3, rfl, hf, hne, e4⟩
  · exact Or.inl hs
  · have hb' : w'.heap[b']? = w.heap[b']? := h b' (by simp)
    exact Or.inr ⟨b', n, ks', e3, rfl, hf.same hb', hne, e4.same (fun i _ => Same.cell hb') (fun x hx => h x (by simp [hx]))⟩
theorem OwL.lt {w : World} {b : Nat} : ∀ {l : List Nd} {o : Nat} {bs : List Nat}, OwL w b o l bs → ∀ x, x ∈ bs → x < w.heap.size
  | [], _, _, h, x, hx => by cases h; simp at hx
  | n :: r, o, bs, ⟨l1, l2, l3, c0, c1, c2, ks, rs, e, ⟨sv, c3, hs⟩, hr⟩, x, hx => by
    subst e
    rcases List.mem_append.1 hx with hx | hx
    · exact hs.lt x hx
    · exact OwL.lt hr x hx
theorem OwS.lt {w : World} {v : Value} {l : List Nd} {bs : List Nat} (hs : OwS w v l bs) : ∀ x, x ∈ bs → x < w.heap.size := by
  intro x hx
  obtain ⟨a, cap, e0, e1, e2, hs⟩ := hs
  rcases hs with ⟨_, rfl⟩ | ⟨b', n, ks', e3, rfl, hf, hne, e4⟩
  · simp at hx
  · rcases List.mem_cons.1 hx with rfl | hx
    · exact hf.lt
    · exact e4.lt x hx
theorem OwL.app {w : World} {b : Nat} : ∀ {l g : List Nd} {o : Nat} {bs cs : List Nat}, OwL w b o l bs → OwL w b (o + 4 * l.length) g cs → OwL w b o (l ++ g) (bs ++ cs)
  | [], g, o, bs, cs, h, hg => by cases h; simpa using hg
  | n :: r, g, o, bs, cs, ⟨l1, l2, l3, c0, c1, c2, ks, rs, e, hs, hr⟩, hg => by
    subst e
    exact ⟨l1, l2, l3, c0, c1, c2, ks, rs ++ cs, by rw [List.append_assoc], hs, OwL.app hr (by rw [show o + 4 + 4 * r.length = o + 4 * (r.length + 1) by omega]; exact hg)⟩
/-- The element i of a row: its cells, and the blocks below it. -/
theorem OwL.get {w : World} {b : Nat} : ∀ {l : List Nd} {o i : Nat} {bs : List Nat} {n : Nd}, OwL w b o l bs → l[i]? = some n →
    w.cell? ⟨b, o + i * 4, none⟩ = some (.int .i64 n.k) ∧ w.cell? ⟨b, o + i * 4 + 1, none⟩ = some (.string n.fr) ∧ w.cell? ⟨b, o + i * 4 + 2, none⟩ = some (.int .i64 n.ix) ∧
      ∃ sv ks, w.cell? ⟨b, o + i * 4 + 3, none⟩ = some sv ∧ Ow w sv n.kids ks ∧ ∀ x, x ∈ ks → x ∈ bs
  | [], _, _, _, _, _, h => by simp at h
  | m :: r, o, 0, bs, n, ⟨_, _, _, c0, c1, c2, ks, rs, e, ⟨sv, c3, hs⟩, _⟩, h => by
    obtain rfl : m = n := by simpa using h
    subst e
    refine ⟨by simpa using c0, by simpa using c1, by simpa using c2, sv, ks, by simpa using c3, hs, fun x hx => List.mem_append_left _ hx⟩
  | m :: r, o, i + 1, bs, n, ⟨_, _, _, _, _, _, ks, rs, e, _, hr⟩, h => by
    subst e
    have := OwL.get (i := i) hr (by simpa using h)
    rw [show o + (i + 1) * 4 = o + 4 + i * 4 by omega]
    obtain ⟨c0, c1, c2, sv, ks', c3, hs, hm⟩ := this
    exact ⟨c0, c1, c2, sv, ks', c3, hs, fun x hx => List.mem_append_right _ (hm x hx)⟩

theorem OwS.get {w : World} {a : Option Addr} {len cap : Nat} {l : List Nd} {bs : List Nat} {i : Nat} {k ix : Int} {fr : ByteArray} {kids : F} (h : OwS w (.slice a len cap) l bs) (hi : l[i]? = some ⟨k, fr, ix, kids⟩) :
    ∃ b o, a = some ⟨b, o, none⟩ ∧ w.cell? ⟨b, o + i * 4, none⟩ = some (.int .i64 k) ∧ w.cell? ⟨b, o + i * 4 + 1, none⟩ = some (.string fr) ∧ w.cell? ⟨b, o + i * 4 + 2, none⟩ = some (.int .i64 ix) ∧
      ∃ sv ks, w.cell? ⟨b, o + i * 4 + 3, none⟩ = some sv ∧ Ow w sv kids ks := by
  obtain ⟨a', c', e, _, _, hr⟩ := h
  injection e with e1 _ _
  subst e1
  rcases hr with ⟨rfl, _⟩ | ⟨b, n, bs', rfl, _, _, _, hr⟩
  · simp at hi
  · obtain ⟨c0, c1, c2, sv, ks, c3, hs, _⟩ := hr.get hi
    exact ⟨b, 0, rfl, c0, c1, c2, sv, ks, c3, hs⟩

/-- Four cells in a row. -/
def set4 (w : World) (b o : Nat) (v0 v1 v2 v3 : Value) : World :=
  (((w.setCell ⟨b, o, none⟩ v0).setCell ⟨b, o + 1, none⟩ v1).setCell ⟨b, o + 2, none⟩ v2).setCell ⟨b, o + 3, none⟩ v3
theorem set4_other (w : World) (b o : Nat) (v0 v1 v2 v3 : Value) (x : Nat) (hx : x ≠ b) : (set4 w b o v0 v1 v2 v3).heap[x]? = w.heap[x]? := by
  unfold set4
  repeat rw [Below.heap_setCell _ _ _ _ hx]
theorem set4_below {B : Nat} {a w : World} (h : Below B a w) (b o : Nat) (hb : B ≤ b) (v0 v1 v2 v3 : Value) : Below B a (set4 w b o v0 v1 v2 v3) := by
  unfold set4
  exact (((h.setCell hb v0).setCell hb v1).setCell hb v2).setCell hb v3
theorem set4_heap {w : World} {b n : Nat} (h : Free w b n) (o : Nat) (ho : o + 4 ≤ n) (v0 v1 v2 v3 : Value) :
    (∀ off, off < o ∨ o + 4 ≤ off → (set4 w b o v0 v1 v2 v3).cell? ⟨b, off, none⟩ = w.cell? ⟨b, off, none⟩) ∧
    (set4 w b o v0 v1 v2 v3).cell? ⟨b, o, none⟩ = some v0 ∧ (set4 w b o v0 v1 v2 v3).cell? ⟨b, o + 1, none⟩ = some v1 ∧
    (set4 w b o v0 v1 v2 v3).cell? ⟨b, o + 2, none⟩ = some v2 ∧ (set4 w b o v0 v1 v2 v3).cell? ⟨b, o + 3, none⟩ = some v3 ∧
    Free (set4 w b o v0 v1 v2 v3) b n := by
  obtain ⟨cs, t, hh, hn⟩ := h
  have key : (set4 w b o v0 v1 v2 v3).heap[b]? = some (.cells ((((cs.setIfInBounds o v0).setIfInBounds (o + 1) v1).setIfInBounds (o + 2) v2).setIfInBounds (o + 3) v3) t (0, 0)) :=
    heap_setCell_same (heap_setCell_same (heap_setCell_same (heap_setCell_same hh _) _) _) _
  refine ⟨fun off hoff => ?_, ?_, ?_, ?_, ?_, _, t, key, by simp [hn]⟩
  · rw [cell_of_heap key, cell_of_heap hh]
    simp only [Array.getElem?_setIfInBounds]
    repeat rw [if_neg (by omega)]
  all_goals
    rw [cell_of_heap key]
    simp [Array.getElem?_setIfInBounds]
    omega

end Go.Proofs.Ytpjbffggeegdaaa.Lo.Ne

/- Texts of local types read back: values. -/
namespace Go.Proofs.Ytpjbffggeegdaaa.Lo.Ne
open Go.RowKit

/-- The bytes of a string. -/
def bl (s : ByteArray) : List UInt8 := s.data.toList
theorem bl_append (a b : ByteArray) : bl (a ++ b) = bl a ++ bl b := by simp [bl, ByteArray.data_append]
theorem bl_length (a : ByteArray) : (bl a).length = a.size := Array.length_toList
theorem bl_inj {a b : ByteArray} (h : bl a = bl b) : a = b := ByteArray.ext (Array.toList_inj.1 h)

def hdC : List UInt8 → UInt8
  | [] => 0
  | c :: _ => c
def nxC (s : List UInt8) (d : UInt8) : Bool :=
  match s with
  | [] => false
  | x :: _ => x == d
/-- One letter as a string, or none. -/
def rlet (c : UInt8) : ByteArray := if roleB ⟨#[c]⟩ then ⟨#[c]⟩ else ⟨#[]⟩
def llet (c : UInt8) : ByteArray := if labB ⟨#[c]⟩ then ⟨#[c]⟩ else ⟨#[]⟩

def ndEnd : Nd := ⟨1, ⟨#[]⟩, 0, .nil⟩
def ndVar (c : UInt8) : Nd := ⟨5, ⟨#[]⟩, (c.toNat : Int) - 48, .nil⟩
def ndRec (N : Nd) : Nd := ⟨4, ⟨#[]⟩, 0, .cons ⟨#[]⟩ N.k N.fr N.ix N.kids .nil⟩
def brn (lab : ByteArray) (N : Nd) : F := .cons lab N.k N.fr N.ix N.kids .nil

mutual
/-- readLocal of the program: so many calls deep at most. -/
def rl : Nat → List UInt8 → Option (Nd × List UInt8)
  | 0, _ => none
  | n + 1, s =>
    if nxC s 46 then some (ndEnd, s.tail)
    else if nxC s 35 then (if 48 ≤ (hdC s.tail).toNat ∧ (hdC s.tail).toNat ≤ 57 then some (ndVar (hdC s.tail), s.tail.tail) else none)
    else if nxC s 64 then (match rl n s.tail with | some (N, t) => some (ndRec N, t) | none => none)
    else if hdC s.tail = 33 ∨ hdC s.tail = 63 then
      (match rlB n 123 s.tail.tail .nil with
        | some (f, t) => some (⟨if hdC s.tail = 63 then 3 else 2, rlet (hdC s), 0, f⟩, t)
        | none => none)
    else none
/-- Its loop over the branches. -/
def rlB : Nat → UInt8 → List UInt8 → F → Option (F × List UInt8)
  | 0, _, _, _ => none
  | n + 1, sep, s, acc =>
    if nxC s sep then
      (match rl n s.tail.tail with
        | some (N, t) => rlB n 124 t (acc.app (brn (llet (hdC s.tail)) N))
        | none => none)
    else if nxC s 125 then some (acc, s.tail) else none
end

theorem rl_end {n : Nat} {s : List UInt8} (h : nxC s 46 = true) : rl (n + 1) s = some (ndEnd, s.tail) := by rw [rl, if_pos h]
theorem rl_var {n : Nat} {s : List UInt8} (h1 : nxC s 46 = false) (h2 : nxC s 35 = true) (h3 : 48 ≤ (hdC s.tail).toNat ∧ (hdC s.tail).toNat ≤ 57) : rl (n + 1) s = some (ndVar (hdC s.tail), s.tail.tail) := by
  rw [rl, if_neg (by rw [h1]; decide), if_pos h2, if_pos h3]
theorem rl_var_no {n : Nat} {s : List UInt8} (h1 : nxC s 46 = false) (h2 : nxC s 35 = true) (h3 : ¬ (48 ≤ (hdC s.tail).toNat ∧ (hdC s.tail).toNat ≤ 57)) : rl (n + 1) s = none := by
  rw [rl, if_neg (by rw [h1]; decide), if_pos h2, if_neg h3]
theorem rl_rec {n : Nat} {s : List UInt8} (h1 : nxC s 46 = false) (h2 : nxC s 35 = false) (h3 : nxC s 64 = true) : rl (n + 1) s = (match rl n s.tail with | some (N, t) => some (ndRec N, t) | none => none) := by
  rw [rl, if_neg (by rw [h1]; decide), if_neg (by rw [h2]; decide), if_pos h3]
theorem rl_act {n : Nat} {s : List UInt8} (h1 : nxC s 46 = false) (h2 : nxC s 35 = false) (h3 : nxC s 64 = false) (h4 : hdC s.tail = 33 ∨ hdC s.tail = 63) : rl (n + 1) s =
    (match rlB n 123 s.tail.tail .nil with
      | some (f, t) => some (⟨if hdC s.tail = 63 then 3 else 2, rlet (hdC s), 0, f⟩, t)
      | none => none) := by
  rw [rl, if_neg (by rw [h1]; decide), if_neg (by rw [h2]; decide), if_neg (by rw [h3]; decide), if_pos h4]
theorem rl_act_no {n : Nat} {s : List UInt8} (h1 : nxC s 46 = false) (h2 : nxC s 35 = false) (h3 : nxC s 64 = false) (h4 : ¬ (hdC s.tail = 33 ∨ hdC s.tail = 63)) : rl (n + 1) s = none := by
  rw [rl, if_neg (by rw [h1]; decide), if_neg (by rw [h2]; decide), if_neg (by rw [h3]; decide), if_neg h4]
theorem rlB_more {n : Nat} {sep : UInt8} {s : List UInt8} {acc : F} (h : nxC s sep = true) : rlB (n + 1) sep s acc =
    (match rl n s.tail.tail with
      | some (N, t) => rlB n 124 t (acc.app (brn (llet (hdC s.tail)) N))
      | none => none) := by rw [rlB, if_pos h]
theorem rlB_end {n : Nat} {sep : UInt8} {s : List UInt8} {acc : F} (h : nxC s sep = false) (h2 : nxC s 125 = true) : rlB (n + 1) sep s acc = some (acc, s.tail) := by
  rw [rlB, if_neg (by rw [h]; decide), if_pos h2]
theorem rlB_no {n : Nat} {sep : UInt8} {s : List UInt8} {acc : F} (h : nxC s sep = false) (h2 : nxC s 125 = false) : rlB (n + 1) sep s acc = none := by
  rw [rlB, if_neg (by rw [h]; decide), if_neg (by rw [h2]; decide)]

/-- All variables' indices are of one digit. -/
def digF : F → Bool
  | .nil => true
  | .cons _ k _ ix kids rest => (k != 5 || decide (ix ≤ 9)) && (digF kids && digF rest)
def digN (N : Nd) : Bool := (N.k != 5 || decide (N.ix ≤ 9)) && digF N.kids

theorem empty_of_list {s : ByteArray} (h : s.toList = []) : s = ⟨#[]⟩ := by
  rw [ByteArray.toList_eq] at h
  exact ByteArray.ext (Array.toList_inj.1 h)
theorem one_byte {s : ByteArray} (h : s.size = 1) : ∃ c, s = ⟨#[c]⟩ := by
  obtain ⟨⟨l⟩⟩ := s
  match l, h with
  | [c], _ => exact ⟨c, rfl⟩
theorem bdec_digit {ix : Int} (h0 : 0 ≤ ix) (h9 : ix ≤ 9) : ∃ c : UInt8, bl (bdec ix) = [c] ∧ (48 ≤ c.toNat ∧ c.toNat ≤ 57) ∧ (c.toNat : Int) - 48 = ix := by
  obtain ⟨i, rfl⟩ := Int.eq_ofNat_of_zero_le h0
  have hi : i < 10 := by omega
  have hd : ∀ i : Fin 10, ∃ c : UInt8, Lib.decDigits i.val = [c] ∧ (48 ≤ c.toNat ∧ c.toNat ≤ 57) ∧ c.toNat = 48 + i.val := by
    rintro ⟨i, hi⟩
    refine ⟨UInt8.ofNat (48 + i), ?_, ?_⟩
    · unfold Lib.decDigits
      match i, hi with
      | 0, _ => rfl
      | 1, _ => rfl
      | 2, _ => rfl
      | 3, _ => rfl
      | 4, _ => rfl
      | 5, _ => rfl
      | 6, _ => rfl
      | 7, _ => rfl
      | 8, _ => rfl
      | 9, _ => rfl
    · have : (UInt8.ofNat (48 + i)).toNat = 48 + i := by rw [UInt8.toNat_ofNat']; omega
      simp only
      omega
  obtain ⟨c, h1, h2, h3⟩ := hd ⟨i, hi⟩
  refine ⟨c, ?_, h2, by simp only at h3; omega⟩
  unfold bl bdec
  simp only [Int.toNat_natCast]
  exact h1
theorem role_letter {c : UInt8} (h : roleB ⟨#[c]⟩ = true) : c = 65 ∨ c = 66 ∨ c = 67 := by
  unfold roleB at h
  simp [ByteArray.toList_eq] at h
  rcases h with (h | h) | h
  · exact Or.inl h
  · exact Or.inr (Or.inl h)
  · exact Or.inr (Or.inr h)
theorem rlet_role {c : UInt8} (h : roleB ⟨#[c]⟩ = true) : rlet c = ⟨#[c]⟩ := if_pos h
theorem llet_lab {c : UInt8} (h : labB ⟨#[c]⟩ = true) : llet c = ⟨#[c]⟩ := if_pos h

/-- What reading back a list of branches owes. -/
def BackF (f : F) : Prop := ∀ (b u d : Int), 0 ≤ u → vldF f b u d = true → digF f = true →
  ((∀ p, ascB p f = true → ∀ (n : Nat) (acc : F) (t : List UInt8), (bl (txF f .more) ++ 125 :: t).length < n → rlB n 124 (bl (txF f .more) ++ 125 :: t) acc = some (acc.app f, t)) ∧
   (∀ p, ascB p f = true → f ≠ .nil → ∀ (n : Nat) (acc : F) (t : List UInt8), (bl (txF f .first) ++ 125 :: t).length < n → rlB n 123 (bl (txF f .first) ++ 125 :: t) acc = some (acc.app f, t)) ∧
   (∀ lab k fr ix kids, f = .cons lab k fr ix kids .nil → ∀ (n : Nat) (t : List UInt8), (bl (txF f .body) ++ t).length < n → rl n (bl (txF f .body) ++ t) = some (⟨k, fr, ix, kids⟩, t)))

theorem back_node {k : Int} {fr : ByteArray} {ix : Int} {kids : F} (ih : BackF kids) {b u d : Int} (hu : 0 ≤ u) (h : vldN k fr ix kids b u d = true) (hd : digN ⟨k, fr, ix, kids⟩ = true)
    (n : Nat) (t : List UInt8) (hn : (bl (txN k fr ix kids) ++ t).length < n) : rl n (bl (txN k fr ix kids) ++ t) = some (⟨k, fr, ix, kids⟩, t) := by
  have hv := h
  unfold vldN at h
  obtain ⟨hd1, hsh, hk⟩ := node_kinds hu h
  unfold digN at hd
  simp only [Bool.and_eq_true] at hd
  cases n with
  | zero => omega
  | succ n =>
  rcases hk with rfl | ⟨rfl, h0, h1, rfl⟩ | ⟨rfl, hr⟩ | ⟨hkk, ha⟩
  · obtain ⟨e1, rfl, rfl⟩ := shape_end hsh
    obtain rfl := empty_of_list e1
    rw [show bl (txN 1 ⟨#[]⟩ 0 .nil) ++ t = 46 :: t from rfl, rl_end rfl]
    rfl
  · obtain ⟨e1, -⟩ := shape_var hsh
    obtain rfl := empty_of_list e1
    have h9 : ix ≤ 9 := by simpa using hd.1
    obtain ⟨c, e2, e3, e4⟩ := bdec_digit h0 h9
    have e5 : bl (txN 5 ⟨#[]⟩ ix .nil) ++ t = 35 :: c :: t := by
      show bl (bhash ++ bdec ix) ++ t = _
      rw [bl_append, e2]
      rfl
    rw [e5, rl_var (s := 35 :: c :: t) rfl rfl e3]
    unfold ndVar
    rw [show hdC (35 :: c :: t).tail = c from rfl, e4]
    rfl
  · obtain ⟨e1, rfl, lab, k', fr', ix', kids', rfl, e2⟩ := shape_rec hsh
    obtain rfl := empty_of_list e1
    obtain rfl := empty_of_list e2
    have e5 : bl (txN 4 ⟨#[]⟩ 0 (.cons ⟨#[]⟩ k' fr' ix' kids' .nil)) ++ t = 64 :: (bl (txF (.cons ⟨#[]⟩ k' fr' ix' kids' .nil) .body) ++ t) := by
      show bl (bat ++ _) ++ t = _
      rw [bl_append]
      rfl
    rw [e5] at hn ⊢
    rw [rl_rec rfl rfl rfl]
    have hb := (ih (b + 1) (u + 1) (d - 1) (by omega) hr hd.2).2.2 _ _ _ _ _ rfl n t (by simp only [List.length_cons] at hn; omega)
    rw [show (64 :: (bl (txF (.cons ⟨#[]⟩ k' fr' ix' kids' .nil) .body) ++ t)).tail = bl (txF (.cons ⟨#[]⟩ k' fr' ix' kids' .nil) .body) ++ t from rfl, hb]
    rfl
  · obtain ⟨e1, rfl, e3⟩ := shape_act hkk hsh
    obtain ⟨c, rfl⟩ := one_byte (role_size e1)
    unfold branchesB at e3
    simp only [Bool.and_eq_true, decide_eq_true_eq] at e3
    have hne : kids ≠ .nil := by rintro rfl; simp [F.len] at e3
    obtain ⟨m, hm1, hm2⟩ : ∃ m : UInt8, bl (mark k) = [m] ∧ ((m = 33 ∧ k = 2) ∨ (m = 63 ∧ k = 3)) := by
      rcases hkk with rfl | rfl
      · exact ⟨33, rfl, Or.inl ⟨rfl, rfl⟩⟩
      · exact ⟨63, rfl, Or.inr ⟨rfl, rfl⟩⟩
    have e5 : bl (txN k ⟨#[c]⟩ 0 kids) ++ t = c :: m :: (bl (txF kids .first) ++ 125 :: t) := by
      unfold txN nodeT
      rw [if_neg (by omega), if_neg (by omega), if_neg (by omega), bl_append, bl_append, bl_append, hm1]
      simp [bl, bclose]
    rw [e5] at hn ⊢
    have hc := role_letter e1
    have c46 : nxC (c :: m :: (bl (txF kids .first) ++ 125 :: t)) 46 = false := by rcases hc with rfl | rfl | rfl <;> rfl
    have c35 : nxC (c :: m :: (bl (txF kids .first) ++ 125 :: t)) 35 = false := by rcases hc with rfl | rfl | rfl <;> rfl
    have c64 : nxC (c :: m :: (bl (txF kids .first) ++ 125 :: t)) 64 = false := by rcases hc with rfl | rfl | rfl <;> rfl
    have hm3 : hdC (c :: m :: (bl (txF kids .first) ++ 125 :: t)).tail = 33 ∨ hdC (c :: m :: (bl (txF kids .first) ++ 125 :: t)).tail = 63 := by
      rcases hm2 with ⟨h, _⟩ | ⟨h, _⟩
      · exact Or.inl h
      · exact Or.inr h
    rw [rl_act c46 c35 c64 hm3]
    have hb := (ih b 0 (d - 1) (by omega) ha hd.2).2.1 none e3.1 hne n .nil t (by simp only [List.length_cons] at hn; omega)
    rw [show (c :: m :: (bl (txF kids .first) ++ 125 :: t)).tail.tail = bl (txF kids .first) ++ 125 :: t from rfl, hb]
    show some ((⟨if m = 63 then 3 else 2, rlet c, 0, kids⟩ : Nd), t) = _
    rw [rlet_role e1]
    rcases hm2 with ⟨rfl, rfl⟩ | ⟨rfl, rfl⟩ <;> rfl

theorem back_all : ∀ f : F, BackF f := by
  intro f
  induction f with
  | nil =>
    intro b u d _ _ _
    refine ⟨fun p _ n acc t hn => ?_, fun p _ h => absurd rfl h, fun lab k fr ix kids e => by cases e⟩
    cases n with
    | zero => omega
    | succ n =>
      rw [show bl (txF .nil .more) ++ 125 :: t = 125 :: t from rfl, rlB_end rfl rfl, F.app_nil]
      rfl
  | cons lab k fr ix kids rest ihk ihr =>
    intro b u d hu hv hd
    simp only [vldF, Bool.and_eq_true] at hv
    have hd0 : digN ⟨k, fr, ix, kids⟩ = true ∧ digF rest = true := by
      simp only [digF, Bool.and_eq_true] at hd
      unfold digN
      simp only [Bool.and_eq_true]
      exact ⟨⟨hd.1, hd.2.1⟩, hd.2.2⟩
    have hN : ∀ (n : Nat) (t : List UInt8), (bl (txN k fr ix kids) ++ t).length < n → rl n (bl (txN k fr ix kids) ++ t) = some (⟨k, fr, ix, kids⟩, t) :=
      fun n t hn => back_node ihk hu (b := b) (d := d) hv.1 hd0.1 n t hn
    have hstep : ∀ (sep : UInt8) (sp : ByteArray), bl sp = [sep] → ∀ p, ascB p (.cons lab k fr ix kids rest) = true → ∀ (n : Nat) (acc : F) (t : List UInt8),
        (bl (sp ++ lab ++ txN k fr ix kids ++ txF rest .more) ++ 125 :: t).length < n → rlB n sep (bl (sp ++ lab ++ txN k fr ix kids ++ txF rest .more) ++ 125 :: t) acc = some (acc.app (.cons lab k fr ix kids rest), t) := by
      intro sep sp hsp p hasc n acc t hn
      have hl := asc_labels _ p lab k fr ix kids rest rfl hasc
      obtain ⟨c, rfl⟩ := one_byte (lab_size hl.1)
      have e5 : bl (sp ++ ⟨#[c]⟩ ++ txN k fr ix kids ++ txF rest .more) ++ 125 :: t = sep :: c :: (bl (txN k fr ix kids) ++ (bl (txF rest .more) ++ 125 :: t)) := by
        rw [bl_append, bl_append, bl_append, hsp]
        simp [bl]
      rw [e5] at hn ⊢
      cases n with
      | zero => omega
      | succ n =>
        simp only [List.length_cons, List.length_append] at hn
        rw [rlB_more (show nxC (sep :: c :: (bl (txN k fr ix kids) ++ (bl (txF rest .more) ++ 125 :: t))) sep = true by simp [nxC])]
        have hb := hN n (bl (txF rest .more) ++ 125 :: t) (by simp only [List.length_append, List.length_cons]; omega)
        rw [show (sep :: c :: (bl (txN k fr ix kids) ++ (bl (txF rest .more) ++ 125 :: t))).tail.tail = bl (txN k fr ix kids) ++ (bl (txF rest .more) ++ 125 :: t) from rfl, hb]
        show rlB n 124 (bl (txF rest .more) ++ 125 :: t) (acc.app (brn (llet c) ⟨k, fr, ix, kids⟩)) = _
        rw [(ihr b u d hu hv.2 hd0.2).1 _ hl.2 n _ t (by simp only [List.length_append, List.length_cons]; omega), llet_lab hl.1]
        unfold brn
        rw [F.app_assoc]
        rfl
    refine ⟨fun p hasc n acc t hn => hstep 124 bbar rfl p hasc n acc t hn, fun p hasc _ n acc t hn => hstep 123 bopen rfl p hasc n acc t hn, fun lab' k' fr' ix' kids' e n t hn => ?_⟩
    injection e with e1 e2 e3 e4 e5 e6
    subst e1 e2 e3 e4 e5 e6
    exact hN n t hn

/-! ### What was read is the text of what came of it -/

theorem nxC_cons {s : List UInt8} {d : UInt8} (h : nxC s d = true) : s = d :: s.tail := by
  cases s with
  | nil => simp [nxC] at h
  | cons x r =>
    have : x = d := by simpa [nxC] using h
    rw [this]
    rfl
theorem rlet_inv {c : UInt8} (h : roleB (rlet c) = true) : rlet c = ⟨#[c]⟩ ∧ roleB ⟨#[c]⟩ = true := by
  unfold rlet at h ⊢
  split at h
  · rename_i h1
    exact ⟨if_pos h1, h1⟩
  · have := role_size h
    cases this
theorem llet_inv {c : UInt8} (h : labB (llet c) = true) : llet c = ⟨#[c]⟩ ∧ labB ⟨#[c]⟩ = true := by
  unfold llet at h ⊢
  split at h
  · rename_i h1
    exact ⟨if_pos h1, h1⟩
  · have := lab_size h
    cases this
theorem hdC_cons {s : List UInt8} (h : hdC s ≠ 0) : s = hdC s :: s.tail := by
  cases s with
  | nil => exact absurd rfl h
  | cons => rfl
theorem role_nz {c : UInt8} (h : roleB ⟨#[c]⟩ = true) : c ≠ 0 := by
  rcases role_letter h with rfl | rfl | rfl <;> decide
theorem lab_nz {c : UInt8} (h : labB ⟨#[c]⟩ = true) : c ≠ 0 := by
  rintro rfl
  revert h
  decide

def SndN (n : Nat) : Prop := ∀ (s : List UInt8) (N : Nd) (t : List UInt8), rl n s = some (N, t) → ∀ (b u d : Int), 0 ≤ u → vldN N.k N.fr N.ix N.kids b u d = true →
  s = bl (txN N.k N.fr N.ix N.kids) ++ t ∧ digN N = true
def SndB (n : Nat) : Prop := ∀ (sep : UInt8) (s : List UInt8) (acc f : F) (t : List UInt8), rlB n sep s acc = some (f, t) → ∃ g, f = acc.app g ∧
  ∀ (p : Option ByteArray) (b u d : Int), 0 ≤ u → vldF g b u d = true → ascB p g = true →
    ((sep = 124 → s = bl (txF g .more) ++ 125 :: t) ∧ (sep = 123 → g ≠ .nil → s = bl (txF g .first) ++ 125 :: t) ∧ digF g = true)

theorem snd_all : ∀ n, SndN n ∧ SndB n := by
  intro n
  induction n with
  | zero => exact ⟨fun s N t h => by simp [rl] at h, fun sep s acc f t h => by simp [rlB] at h⟩
  | succ n ih =>
    constructor
    · intro s N t h b u d hu hv
      cases h46 : nxC s 46 with
      | true =>
        rw [rl_end h46] at h
        injection h with h
        injection h with h1 h2
        subst h1 h2
        refine ⟨?_, rfl⟩
        show s = bl bdot ++ s.tail
        exact nxC_cons h46
      | false =>
      cases h35 : nxC s 35 with
      | true =>
        by_cases hd : 48 ≤ (hdC s.tail).toNat ∧ (hdC s.tail).toNat ≤ 57
        · rw [rl_var h46 h35 hd] at h
          injection h with h
          injection h with h1 h2
          subst h1 h2
          have hnz : hdC s.tail ≠ 0 := by
            intro e
            rw [e] at hd
            revert hd
            decide
          obtain ⟨c, e1, e2, e3⟩ := bdec_digit (ix := ((hdC s.tail).toNat : Int) - 48) (by omega) (by omega)
          have e4 : c = hdC s.tail := UInt8.toNat_inj.1 (by omega)
          refine ⟨?_, ?_⟩
          · show s = bl (bhash ++ bdec (((hdC s.tail).toNat : Int) - 48)) ++ s.tail.tail
            rw [bl_append, e1, e4]
            show s = 35 :: hdC s.tail :: s.tail.tail
            rw [← hdC_cons hnz]
            exact nxC_cons h35
          · show (((5 : Int) != 5 || decide (((hdC s.tail).toNat : Int) - 48 ≤ 9)) && true) = true
            rw [decide_eq_true (by omega)]
            rfl
        · rw [rl_var_no h46 h35 hd] at h
          cases h
      | false =>
      cases h64 : nxC s 64 with
      | true =>
        rw [rl_rec h46 h35 h64] at h
        cases hr : rl n s.tail with
        | none => rw [hr] at h; cases h
        | some q =>
          obtain ⟨M, t'⟩ := q
          rw [hr] at h
          simp only [Option.some.injEq, Prod.mk.injEq] at h
          obtain ⟨rfl, rfl⟩ := h
          have hv2 := hv
          unfold vldN at hv2
          obtain ⟨-, -, hk⟩ := node_kinds hu hv2
          rcases hk with hk | ⟨hk, _⟩ | ⟨-, hr2⟩ | ⟨hk, _⟩
          · exact absurd (show (4 : Int) = 1 from hk) (by decide)
          · exact absurd (show (4 : Int) = 5 from hk) (by decide)
          · simp only [ndRec, vldF, Bool.and_eq_true] at hr2
            obtain ⟨e1, e2⟩ := ih.1 s.tail M t' hr (b + 1) (u + 1) (d - 1) (by omega) hr2.1
            refine ⟨?_, ?_⟩
            · show s = bl (bat ++ txN M.k M.fr M.ix M.kids) ++ t'
              rw [bl_append]
              show s = 64 :: (bl (txN M.k M.fr M.ix M.kids) ++ t')
              rw [← e1]
              exact nxC_cons h64
            · show (((4 : Int) != 5 || decide ((0 : Int) ≤ 9)) && ((M.k != 5 || decide (M.ix ≤ 9)) && (digF M.kids && true))) = true
              unfold digN at e2
              simp only [Bool.and_eq_true] at e2
              rw [e2.1, e2.2]
              rfl
          · rcases hk with hk | hk
            · exact absurd (show (4 : Int) = 2 from hk) (by decide)
            · exact absurd (show (4 : Int) = 3 from hk) (by decide)
      | false =>
        by_cases hm : hdC s.tail = 33 ∨ hdC s.tail = 63
        · rw [rl_act h46 h35 h64 hm] at h
          cases hr : rlB n 123 s.tail.tail .nil with
          | none => rw [hr] at h; cases h
          | some q =>
            obtain ⟨f, t'⟩ := q
            rw [hr] at h
            simp only [Option.some.injEq, Prod.mk.injEq] at h
            obtain ⟨rfl, rfl⟩ := h
            obtain ⟨g, hg, hgs⟩ := ih.2 _ _ _ _ _ hr
            have hfg : f = g := hg
            subst hfg
            have hkk : (if hdC s.tail = 63 then (3 : Int) else 2) = 2 ∨ (if hdC s.tail = 63 then (3 : Int) else 2) = 3 := by split <;> simp
            have hv2 := hv
            unfold vldN at hv2
            obtain ⟨-, hsh, hk⟩ := node_kinds hu hv2
            obtain ⟨e1, -, e3⟩ := shape_act hkk hsh
            unfold branchesB at e3
            simp only [Bool.and_eq_true, decide_eq_true_eq] at e3
            have hne : f ≠ .nil := by rintro rfl; simp [F.len] at e3
            have hva : vldF f b 0 (d - 1) = true := by
              rcases hk with hk | ⟨hk, _⟩ | ⟨hk, _⟩ | ⟨_, h⟩
              · simp only at hk; omega
              · simp only at hk; omega
              · simp only at hk; omega
              · exact h
            obtain ⟨-, q2, q3⟩ := hgs none b 0 (d - 1) (by omega) hva e3.1
            obtain ⟨r1, r2⟩ := rlet_inv e1
            have hs0 := hdC_cons (role_nz r2)
            have hs1 : s.tail = hdC s.tail :: s.tail.tail := hdC_cons (by rcases hm with h | h <;> rw [h] <;> decide)
            refine ⟨?_, ?_⟩
            · unfold txN nodeT
              simp only
              rw [if_neg (by omega), if_neg (by omega), if_neg (by omega), bl_append, bl_append, bl_append, r1]
              have hmk : bl (mark (if hdC s.tail = 63 then (3 : Int) else 2)) = [hdC s.tail] := by
                rcases hm with h | h
                · rw [h]; rfl
                · rw [h]; rfl
              rw [hmk]
              show s = _
              have := q2 rfl hne
              rw [hs0]
              simp only [bl, bclose, List.append_assoc, List.cons_append, List.nil_append]
              congr 1
              rw [hs1]
              congr 1
            · show (((if hdC s.tail = 63 then (3 : Int) else 2) != 5 || decide ((0 : Int) ≤ 9)) && digF f) = true
              rw [q3]
              simp
        · rw [rl_act_no h46 h35 h64 hm] at h
          cases h
    · intro sep s acc f t h
      cases hsep : nxC s sep with
      | false =>
        cases h125 : nxC s 125 with
        | false => rw [rlB_no hsep h125] at h; cases h
        | true =>
          rw [rlB_end hsep h125] at h
          simp only [Option.some.injEq, Prod.mk.injEq] at h
          obtain ⟨rfl, rfl⟩ := h
          exact ⟨.nil, (F.app_nil _).symm, fun p b u d _ _ _ => ⟨fun _ => nxC_cons h125, fun _ h => absurd rfl h, rfl⟩⟩
      | true =>
        rw [rlB_more hsep] at h
        cases hr : rl n s.tail.tail with
        | none => rw [hr] at h; cases h
        | some q =>
          obtain ⟨N, t1⟩ := q
          rw [hr] at h
          obtain ⟨g, hg, hgs⟩ := ih.2 _ _ _ _ _ h
          refine ⟨.cons (llet (hdC s.tail)) N.k N.fr N.ix N.kids g, by rw [hg, F.app_assoc]; rfl, fun p b u d hu hv hasc => ?_⟩
          simp only [vldF, Bool.and_eq_true] at hv
          obtain ⟨hl1, hl2⟩ := asc_labels _ p _ _ _ _ _ _ rfl hasc
          obtain ⟨r1, r2⟩ := llet_inv hl1
          obtain ⟨e1, e2⟩ := ih.1 _ _ _ hr b u d hu hv.1
          obtain ⟨q1, -, q3⟩ := hgs _ b u d hu hv.2 hl2
          have hs0 := nxC_cons hsep
          have hs1 := hdC_cons (lab_nz r2)
          have key : ∀ sp : ByteArray, bl sp = [sep] → s = bl (sp ++ llet (hdC s.tail) ++ txN N.k N.fr N.ix N.kids ++ txF g .more) ++ 125 :: t := by
            intro sp hsp
            rw [bl_append, bl_append, bl_append, hsp, r1, hs0]
            simp only [List.append_assoc, List.cons_append, List.nil_append]
            congr 1
            show s.tail = _
            rw [hs1]
            simp only [bl, List.cons_append, List.nil_append]
            congr 1
            show s.tail.tail = _
            rw [e1, q1 rfl]
            rfl
          refine ⟨fun hsep => key bbar (by rw [hsep]; rfl), fun hsep _ => key bopen (by rw [hsep]; rfl), ?_⟩
          unfold digN at e2
          simp only [Bool.and_eq_true] at e2
          simp only [digF, e2.1, e2.2, q3, Bool.and_self]

end Go.Proofs.Ytpjbffggeegdaaa.Lo.Ne

/- Lists of bytes as strings; a box of four cells. -/
namespace Go.Proofs.Ytpjbffggeegdaaa.Lo.Ne
open Go.RowKit

/-- A list of bytes as a string. -/
def bs (l : List UInt8) : ByteArray := ⟨l.toArray⟩
theorem bs_list (s : ByteArray) : bs s.data.toList = s := by
  apply ByteArray.ext
  simp [bs]
theorem bs_inj {a b : List UInt8} (h : bs a = bs b) : a = b := by
  have := congrArg (fun x => x.data.toList) h
  simpa [bs] using this
theorem bs_append (a b : List UInt8) : bs (a ++ b) = bs a ++ bs b := by
  apply ByteArray.ext
  simp [bs, ByteArray.data_append]
theorem bs_size (a : List UInt8) : (bs a).size = a.length := by simp [bs, ByteArray.size]

theorem box4_frozen {w : World} {b : Nat} {v0 v1 v2 v3 : Value} (h : Box4 w b v0 v1 v2 v3) (o : Nat) : w.frozen? ⟨b, o, none⟩ = false := by
  obtain ⟨t, h⟩ := h
  simp [World.frozen?, h]
theorem box4_set {w : World} {b : Nat} {v0 v1 v2 v3 : Value} (h : Box4 w b v0 v1 v2 v3) (u0 u1 u2 u3 : Value) :
    Box4 ((((w.setCell ⟨b, 0, none⟩ u0).setCell ⟨b, 1, none⟩ u1).setCell ⟨b, 2, none⟩ u2).setCell ⟨b, 3, none⟩ u3) b u0 u1 u2 u3 := by
  obtain ⟨t, h⟩ := h
  exact ⟨t, heap_setCell_same (heap_setCell_same (heap_setCell_same (heap_setCell_same h _) _) _) _⟩
theorem bs_ne (c : UInt8) (r : List UInt8) : ¬ (bs (c :: r)).toList = [] := by
  rw [ByteArray.toList_eq]
  simp [bs]
theorem bs_full (c : UInt8) (r : List UInt8) : (bs (c :: r)).toList.isEmpty = false := by
  rw [ByteArray.toList_eq]
  simp [bs]
end Go.Proofs.Ytpjbffggeegdaaa.Lo.Ne
