/- Rows of nodes of local types: slices that read as lists of nodes, and rows of the call's own. -/
import Derived.Test.YtnlihdcjpeabfaaGreatDoorLTree
import Derived.Test.YtnlihdcjpeabfaaGreatDoorRg
namespace Go.Proofs.YtnlihdcjpeabfaaGreatDoor.Lo.Ne
open Go.RowKit

structure Nd where
  k : Int
  fr : ByteArray
  ix : Int
  kids : F

def Nd.wt (n : Nd) : Nat := n.fr.size + (n.kids.len + n.kids.wt)
def wtL : List Nd → Nat
  | [] => 0
  | n :: r => n.wt + wtL r
theorem wtL_app (g : List Nd) : ∀ l : List Nd, wtL (l ++ g) = wtL l + wtL g
  | [] => by simp [wtL]
  | n :: r => by simp only [List.cons_append, wtL, wtL_app g r]; omega
theorem wt_mem {n : Nd} : ∀ {l : List Nd}, n ∈ l → n.wt ≤ wtL l
  | m :: r, h => by
    rcases List.mem_cons.1 h with rfl | h
    · simp only [wtL]; omega
    · have := wt_mem h
      simp only [wtL]; omega

/-- A node of a local type in four cells. -/
def elL : El Nd where
  st := 4
  P w b o n := n.fr.size ≤ maxLen ∧ (Lit.int .i64 n.k).wf = true ∧ (Lit.int .i64 n.ix).wf = true ∧
    w.cell? ⟨b, o, none⟩ = some (.int .i64 n.k) ∧ w.cell? ⟨b, o + 1, none⟩ = some (.string n.fr) ∧ w.cell? ⟨b, o + 2, none⟩ = some (.int .i64 n.ix) ∧
    ∃ sv, w.cell? ⟨b, o + 3, none⟩ = some sv ∧ Sl w sv n.kids
  still h := fun ⟨l1, l2, l3, c0, c1, c2, sv, c3, hs⟩ => ⟨l1, l2, l3, h _ _ c0, h _ _ c1, h _ _ c2, sv, h _ _ c3, hs.still h⟩
theorem AtL.head {w : World} {a : Option Addr} {i : Nat} {k ix : Int} {fr : ByteArray} {kids : F} {rest : List Nd} (h : AtG elL w a i (⟨k, fr, ix, kids⟩ :: rest)) :
    ∃ b o, a = some ⟨b, o, none⟩ ∧ fr.size ≤ maxLen ∧ (Lit.int .i64 k).wf = true ∧ (Lit.int .i64 ix).wf = true ∧
    w.cell? ⟨b, o + i * 4, none⟩ = some (.int .i64 k) ∧ w.cell? ⟨b, o + i * 4 + 1, none⟩ = some (.string fr) ∧ w.cell? ⟨b, o + i * 4 + 2, none⟩ = some (.int .i64 ix) ∧
    ∃ sv, w.cell? ⟨b, o + i * 4 + 3, none⟩ = some sv ∧ Sl w sv kids := h.head

/-- A row of nodes, and the blocks below are named. -/
def OwL (w : World) (b : Nat) : Nat → List Nd → List Nat → Prop
  | _, [], bs => bs = []
  | o, n :: r, bs => n.fr.size ≤ maxLen ∧ (Lit.int .i64 n.k).wf = true ∧ (Lit.int .i64 n.ix).wf = true ∧
      w.cell? ⟨b, o, none⟩ = some (.int .i64 n.k) ∧ w.cell? ⟨b, o + 1, none⟩ = some (.string n.fr) ∧ w.cell? ⟨b, o + 2, none⟩ = some (.int .i64 n.ix) ∧
      ∃ ks rs, bs = ks ++ rs ∧ (∃ sv, w.cell? ⟨b, o + 3, none⟩ = some sv ∧ Ow w sv n.kids ks) ∧ OwL w b (o + 4) r rs
/-- A slice of nodes reads as the list, and its blocks are these. -/
def OwS (w : World) (v : Value) (l : List Nd) (bs : List Nat) : Prop :=
  ∃ a cap, v = .slice a l.length cap ∧ l.length ≤ cap ∧ cap ≤ maxLen ∧
    ((l = [] ∧ bs = []) ∨ ∃ b n bs', a = some ⟨b, 0, none⟩ ∧ bs = b :: bs' ∧ Free w b n ∧ l ≠ [] ∧ OwL w b 0 l bs')

theorem OwL.row {w : World} {b : Nat} : ∀ {l : List Nd} {o : Nat} {bs : List Nat}, OwL w b o l bs → RowG elL w b o l
  | [], _, _, _ => trivial
  | _ :: _, _, _, ⟨l1, l2, l3, c0, c1, c2, _, _, _, ⟨sv, c3, hs⟩, hr⟩ => ⟨⟨l1, l2, l3, c0, c1, c2, sv, c3, hs.sl⟩, OwL.row hr⟩
theorem OwS.sl {w : World} {v : Value} {l : List Nd} {bs : List Nat} (h : OwS w v l bs) : SlG elL w v l := by
  obtain ⟨a, cap, e0, e1, e2, hs⟩ := h
  refine ⟨a, cap, e0, e1, e2, ?_⟩
  rcases hs with ⟨hs, _⟩ | ⟨b', n, ks', e3, _, _, _, e4⟩
  · exact Or.inl hs
  · exact Or.inr ⟨b', 0, e3, e4.row⟩
theorem OwS.val {w : World} {v : Value} {l : List Nd} {bs : List Nat} (h : OwS w v l bs) : ∃ a cap, v = .slice a l.length cap := by
  obtain ⟨a, cap, e0, _⟩ := h
  exact ⟨a, cap, e0⟩
theorem OwL.same {w w' : World} {b : Nat} : ∀ {l : List Nd} {o : Nat} {bs : List Nat}, OwL w b o l bs → (∀ i, i < 4 * l.length → w'.cell? ⟨b, o + i, none⟩ = w.cell? ⟨b, o + i, none⟩) → Same w w' bs → OwL w' b o l bs
  | [], _, _, h, _, _ => h
  | n :: r, o, bs, ⟨l1, l2, l3, c0, c1, c2, ks, rs, e, ⟨sv, c3, hs⟩, hr⟩, hc, hsame => by
    subst e
    have q : ∀ i, i < 4 → w'.cell? ⟨b, o + i, none⟩ = w.cell? ⟨b, o + i, none⟩ := fun i hi => hc i (by simp only [List.length_cons]; omega)
    exact ⟨l1, l2, l3, (q 0 (by omega)).trans c0, (q 1 (by omega)).trans c1, (q 2 (by omega)).trans c2, ks, rs, rfl, ⟨sv, (q 3 (by omega)).trans c3, hs.same (fun x hx => hsame x (List.mem_append_left _ hx))⟩,
      OwL.same hr (fun i hi => by rw [Nat.add_assoc]; exact hc (4 + i) (by simp only [List.length_cons]; omega)) (fun x hx => hsame x (List.mem_append_right _ hx))⟩
theorem OwS.same {w w' : World} {v : Value} {l : List Nd} {bs : List Nat} (hs : OwS w v l bs) (h : Same w w' bs) : OwS w' v l bs := by
  obtain ⟨a, cap, e0, e1, e2, hs⟩ := hs
  refine ⟨a, cap, e0, e1, e2, ?_⟩
  rcases hs with hs | ⟨b', n, ks', e3, rfl, hf, hne, e4⟩
  · exact Or.inl hs
  · have hb' : w'.heap[b']? = w.heap[b']? := h b' (by simp)
    exact Or.inr ⟨b', n, ks', e3, rfl, hf.same hb', hne, e4.same (fun i _ => Same.cell hb') (fun x hx => h x (by simp [hx]))⟩
theorem OwL.lt {w : World} {b : Nat} : ∀ {l : List Nd} {o : Nat} {bs : List Nat}, OwL w b o l bs → ∀ x, x ∈ bs → x < w.heap.size
  | [], _, _, h, x, hx => by cases h; simp at hx
  | n :: r, o, bs, ⟨l1, l2, l3, c0, c1, c2, ks, rs, e, ⟨sv, c3, hs⟩, hr⟩, x, hx => by
    subst e
    rcases List.mem_append.1 hx with hx | hx
    · exact hs.lt x hx
    · exact OwL.lt hr x hx
theorem OwS.lt {w : World} {v : Value} {l : List Nd} {bs : List Nat} (hs : OwS w v l bs) : ∀ x, x ∈ bs → x < w.heap.size := by
  intro x hx
  obtain ⟨a, cap, e0, e1, e2, hs⟩ := hs
  rcases hs with ⟨_, rfl⟩ | ⟨b', n, ks', e3, rfl, hf, hne, e4⟩
  · simp at hx
  · rcases List.mem_cons.1 hx with rfl | hx
    · exact hf.lt
    · exact e4.lt x hx
theorem OwL.app {w : World} {b : Nat} : ∀ {l g : List Nd} {o : Nat} {bs cs : List Nat}, OwL w b o l bs → OwL w b (o + 4 * l.length) g cs → OwL w b o (l ++ g) (bs ++ cs)
  | [], g, o, bs, cs, h, hg => by cases h; simpa using hg
  | n :: r, g, o, bs, cs, ⟨l1, l2, l3, c0, c1, c2, ks, rs, e, hs, hr⟩, hg => by
    subst e
    exact ⟨l1, l2, l3, c0, c1, c2, ks, rs ++ cs, by rw [List.append_assoc], hs, OwL.app hr (by rw [show o + 4 + 4 * r.length = o + 4 * (r.length + 1) by omega]; exact hg)⟩
/-- The element i of a row: its cells, and the blocks below it. -/
theorem OwL.get {w : World} {b : Nat} : ∀ {l : List Nd} {o i : Nat} {bs : List Nat} {n : Nd}, OwL w b o l bs → l[i]? = some n →
    w.cell? ⟨b, o + i * 4, none⟩ = some (.int .i64 n.k) ∧ w.cell? ⟨b, o + i * 4 + 1, none⟩ = some (.string n.fr) ∧ w.cell? ⟨b, o + i * 4 + 2, none⟩ = some (.int .i64 n.ix) ∧
      ∃ sv ks, w.cell? ⟨b, o + i * 4 + 3, none⟩ = some sv ∧ Ow w sv n.kids ks ∧ ∀ x, x ∈ ks → x ∈ bs
  | [], _, _, _, _, _, h => by simp at h
  | m :: r, o, 0, bs, n, ⟨_, _, _, c0, c1, c2, ks, rs, e, ⟨sv, c3, hs⟩, _⟩, h => by
    obtain rfl : m = n := by simpa using h
    subst e
    refine ⟨by simpa using c0, by simpa using c1, by simpa using c2, sv, ks, by simpa using c3, hs, fun x hx => List.mem_append_left _ hx⟩
  | m :: r, o, i + 1, bs, n, ⟨_, _, _, _, _, _, ks, rs, e, _, hr⟩, h => by
    subst e
    have := OwL.get (i := i) hr (by simpa using h)
    rw [show o + (i + 1) * 4 = o + 4 + i * 4 by omega]
    obtain ⟨c0, c1, c2, sv, ks', c3, hs, hm⟩ := this
    exact ⟨c0, c1, c2, sv, ks', c3, hs, fun x hx => List.mem_append_right _ (hm x hx)⟩

theorem OwS.get {w : World} {a : Option Addr} {len cap : Nat} {l : List Nd} {bs : List Nat} {i : Nat} {k ix : Int} {fr : ByteArray} {kids : F} (h : OwS w (.slice a len cap) l bs) (hi : l[i]? = some ⟨k, fr, ix, kids⟩) :
    ∃ b o, a = some ⟨b, o, none⟩ ∧ w.cell? ⟨b, o + i * 4, none⟩ = some (.int .i64 k) ∧ w.cell? ⟨b, o + i * 4 + 1, none⟩ = some (.string fr) ∧ w.cell? ⟨b, o + i * 4 + 2, none⟩ = some (.int .i64 ix) ∧
      ∃ sv ks, w.cell? ⟨b, o + i * 4 + 3, none⟩ = some sv ∧ Ow w sv kids ks := by
  obtain ⟨a', c', e, _, _, hr⟩ := h
  injection e with e1 _ _
  subst e1
  rcases hr with ⟨rfl, _⟩ | ⟨b, n, bs', rfl, _, _, _, hr⟩
  · simp at hi
  · obtain ⟨c0, c1, c2, sv, ks, c3, hs, _⟩ := hr.get hi
    exact ⟨b, 0, rfl, c0, c1, c2, sv, ks, c3, hs⟩

/-- Four cells in a row. -/
def set4 (w : World) (b o : Nat) (v0 v1 v2 v3 : Value) : World :=
  (((w.setCell ⟨b, o, none⟩ v0).setCell ⟨b, o + 1, none⟩ v1).setCell ⟨b, o + 2, none⟩ v2).setCell ⟨b, o + 3, none⟩ v3
theorem set4_other (w : World) (b o : Nat) (v0 v1 v2 v3 : Value) (x : Nat) (hx : x ≠ b) : (set4 w b o v0 v1 v2 v3).heap[x]? = w.heap[x]? := by
  unfold set4
  repeat rw [Below.heap_setCell _ _ _ _ hx]
theorem set4_below {B : Nat} {a w : World} (h : Below B a w) (b o : Nat) (hb : B ≤ b) (v0 v1 v2 v3 : Value) : Below B a (set4 w b o v0 v1 v2 v3) := by
  unfold set4
  exact (((h.setCell hb v0).setCell hb v1).setCell hb v2).setCell hb v3
theorem set4_heap {w : World} {b n : Nat} (h : Free w b n) (o : Nat) (ho : o + 4 ≤ n) (v0 v1 v2 v3 : Value) :
    (∀ off, off < o ∨ o + 4 ≤ off → (set4 w b o v0 v1 v2 v3).cell? ⟨b, off, none⟩ = w.cell? ⟨b, off, none⟩) ∧
    (set4 w b o v0 v1 v2 v3).cell? ⟨b, o, none⟩ = some v0 ∧ (set4 w b o v0 v1 v2 v3).cell? ⟨b, o + 1, none⟩ = some v1 ∧
    (set4 w b o v0 v1 v2 v3).cell? ⟨b, o + 2, none⟩ = some v2 ∧ (set4 w b o v0 v1 v2 v3).cell? ⟨b, o + 3, none⟩ = some v3 ∧
    Free (set4 w b o v0 v1 v2 v3) b n := by
  obtain ⟨cs, t, hh, hn⟩ := h
  have key : (set4 w b o v0 v1 v2 v3).heap[b]? = some (.cells ((((cs.setIfInBounds o v0).setIfInBounds (o + 1) v1).setIfInBounds (o + 2) v2).setIfInBounds (o + 3) v3) t (0, 0)) :=
    heap_setCell_same (heap_setCell_same (heap_setCell_same (heap_setCell_same hh _) _) _) _
  refine ⟨fun off hoff => ?_, ?_, ?_, ?_, ?_, _, t, key, by simp [hn]⟩
  · rw [cell_of_heap key, cell_of_heap hh]
    simp only [Array.getElem?_setIfInBounds]
    repeat rw [if_neg (by omega)]
  all_goals
    rw [cell_of_heap key]
    simp [Array.getElem?_setIfInBounds]
    omega

end Go.Proofs.YtnlihdcjpeabfaaGreatDoor.Lo.Ne
