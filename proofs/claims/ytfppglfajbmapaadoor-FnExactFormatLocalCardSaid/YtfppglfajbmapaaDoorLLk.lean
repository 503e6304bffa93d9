/- The linked nodes that linkNode makes: what it is that a value is linked as a local type. -/
import Derived.Test.YtfppglfajbmapaaDoorLVal
import Derived.Laws.AppendOwn
namespace Go.Proofs.YtfppglfajbmapaaDoor.Lo
open Go.RowKit

/-- A block with these cells that may be written. -/
def Blk (w : World) (b : Nat) (cs : Array Value) : Prop := ∃ t, w.heap[b]? = some (.cells cs t (0, 0))
theorem Blk.lt {w : World} {b : Nat} {cs : Array Value} (h : Blk w b cs) : b < w.heap.size := by
  obtain ⟨t, h⟩ := h
  exact (Array.getElem?_eq_some_iff.1 h).1
theorem Blk.same {w w' : World} {b : Nat} {cs : Array Value} (h : Blk w b cs) (e : w'.heap[b]? = w.heap[b]?) : Blk w' b cs := by
  obtain ⟨t, h⟩ := h
  exact ⟨t, e.trans h⟩
theorem Blk.below {w w' : World} {b : Nat} {cs : Array Value} (h : Blk w b cs) (hb : Below w.heap.size w w') : Blk w' b cs := h.same (hb.block _ h.lt)
theorem Blk.only {w w' : World} {b c : Nat} {cs : Array Value} (h : Blk w b cs) (hb : Only c w w') (hc : b ≠ c) : Blk w' b cs := h.same (hb.block _ h.lt hc)
theorem Blk.now (w : World) (cs : Array Value) (t : TypeId) : Blk (w.alloc (.cells cs t)) w.heap.size cs :=
  ⟨t, by show (w.heap.push _)[w.heap.size]? = _; simp⟩
theorem Blk.cell {w : World} {b : Nat} {cs : Array Value} (h : Blk w b cs) (o : Nat) : w.cell? ⟨b, o, none⟩ = cs[o]? := by
  obtain ⟨t, h⟩ := h
  simp [World.cell?, h]
theorem Blk.frozen {w : World} {b : Nat} {cs : Array Value} (h : Blk w b cs) (o : Nat) : w.frozen? ⟨b, o, none⟩ = false := by
  obtain ⟨t, h⟩ := h
  simp [World.frozen?, h]
theorem Blk.set {w : World} {b : Nat} {cs : Array Value} (h : Blk w b cs) (o : Nat) (v : Value) : Blk (w.setCell ⟨b, o, none⟩ v) b (cs.setIfInBounds o v) := by
  obtain ⟨t, h⟩ := h
  exact ⟨t, heap_setCell_same h v⟩

/-- What a node's value is; P reads the row of cells below it. ps: the recursions around, the outermost first. -/
def NodeC (w : World) (k : Int) (fr : ByteArray) (ix : Int) (n : Nat) (v : Value) (ps : List Nat) (bs : List Nat) (P : List Nat → List Value → List Nat → Prop) : Prop :=
  (k = 1 ∧ v = .iface ( /- t -/ 193) (.agg #[]) ∧ bs = []) ∨
  (k = 5 ∧ (∃ l, 0 ≤ ix ∧ ix < ps.length ∧ ps[ps.length - 1 - ix.toNat]? = some l ∧ v = .iface ( /- t -/ 196) (.agg #[.pointer (some ⟨l, 0, none⟩)])) ∧ bs = []) ∨
  (k = 4 ∧ ∃ b s u ks, v = .iface ( /- t -/ 194) (.pointer (some ⟨b, 0, none⟩)) ∧ Blk w b #[u] ∧ b ∉ ps ∧ bs = b :: ks ∧ P (ps ++ [b]) [s, u] ks) ∨
  ((k = 2 ∨ k = 3) ∧ ∃ b r cap cs xs ks, v = .iface ( /- t -/ 93) (.pointer (some ⟨b, 0, none⟩)) ∧ Blk w b #[.int .i64 k, .string fr, .slice (some ⟨r, 0, none⟩) n cap] ∧
    n ≤ cap ∧ cap ≤ maxLen ∧ Blk w r cs ∧ cs.toList.take (n * 2) = xs ∧ bs = b :: r :: ks ∧ P ps xs ks)

/-- The row of cells xs, a label and a node each, is linked as the list. -/
def Lk (w : World) : F → List Nat → List Value → List Nat → Prop
  | .nil, _, xs, bs => xs = [] ∧ bs = []
  | .cons lab k fr ix kids rest, ps, xs, bs => ∃ v ys ks rs, xs = .string lab :: v :: ys ∧ bs = ks ++ rs ∧
      NodeC w k fr ix kids.len v ps ks (fun ps' xs' ks' => Lk w kids ps' xs' ks') ∧ Lk w rest ps ys rs
/-- A value is linked as the node. -/
def LkN (w : World) (k : Int) (fr : ByteArray) (ix : Int) (kids : F) (ps : List Nat) (v : Value) (bs : List Nat) : Prop :=
  NodeC w k fr ix kids.len v ps bs (fun ps' xs' ks' => Lk w kids ps' xs' ks')

theorem NodeC.same {w w' : World} {k : Int} {fr : ByteArray} {ix : Int} {n : Nat} {v : Value} {ps bs : List Nat} {P Q : List Nat → List Value → List Nat → Prop}
    (h : NodeC w k fr ix n v ps bs P) (hs : Same w w' bs) (hP : ∀ ps' xs' ks', (∀ b, b ∈ ks' → b ∈ bs) → P ps' xs' ks' → Q ps' xs' ks') : NodeC w' k fr ix n v ps bs Q := by
  rcases h with h | h | ⟨h1, b, s, u, ks, h2, h3, h4, rfl, h6⟩ | ⟨h1, b, r, cap, cs, xs, ks, h2, h3, h4, h5, h6, h7, rfl, h9⟩
  · exact Or.inl h
  · exact Or.inr (Or.inl h)
  · exact Or.inr (Or.inr (Or.inl ⟨h1, b, s, u, ks, h2, h3.same (hs b (by simp)), h4, rfl, hP _ _ _ (fun x hx => by simp [hx]) h6⟩))
  · exact Or.inr (Or.inr (Or.inr ⟨h1, b, r, cap, cs, xs, ks, h2, h3.same (hs b (by simp)), h4, h5, h6.same (hs r (by simp)), h7, rfl, hP _ _ _ (fun x hx => by simp [hx]) h9⟩))

theorem Lk.same {w w' : World} : ∀ (f : F) (ps : List Nat) (xs : List Value) (bs : List Nat), Lk w f ps xs bs → Same w w' bs → Lk w' f ps xs bs := by
  intro f
  induction f with
  | nil => intro ps xs bs h _; exact h
  | cons lab k fr ix kids rest ihk ihr =>
    intro ps xs bs h hs
    obtain ⟨v, ys, ks, rs, e1, rfl, hn, hr⟩ := h
    refine ⟨v, ys, ks, rs, e1, rfl, hn.same (fun b hb => hs b (List.mem_append_left _ hb)) (fun ps' xs' ks' hsub hp => ihk _ _ _ hp (fun b hb => hs b (List.mem_append_left _ (hsub b hb)))), ihr _ _ _ hr (fun b hb => hs b (List.mem_append_right _ hb))⟩

theorem LkN.same {w w' : World} {k : Int} {fr : ByteArray} {ix : Int} {kids : F} {ps : List Nat} {v : Value} {bs : List Nat} (h : LkN w k fr ix kids ps v bs) (hs : Same w w' bs) : LkN w' k fr ix kids ps v bs :=
  NodeC.same h hs (fun _ _ _ hsub hp => Lk.same _ _ _ _ hp (fun b hb => hs b (hsub b hb)))

theorem Lk.lt {w : World} : ∀ (f : F) (ps : List Nat) (xs : List Value) (bs : List Nat), Lk w f ps xs bs → ∀ b, b ∈ bs → b < w.heap.size := by
  intro f
  induction f with
  | nil => intro ps xs bs h b hb; rw [h.2] at hb; simp at hb
  | cons lab k fr ix kids rest ihk ihr =>
    intro ps xs bs h b hb
    obtain ⟨v, ys, ks, rs, e1, rfl, hn, hr⟩ := h
    rcases List.mem_append.1 hb with hb | hb
    · rcases hn with ⟨-, -, rfl⟩ | ⟨-, -, rfl⟩ | ⟨h1, b', s, u, ks', h2, h3, h4, rfl, h6⟩ | ⟨h1, b', r, cap, cs, xs, ks', h2, h3, h4, h5, h6, h7, rfl, h9⟩
      · simp at hb
      · simp at hb
      · rcases List.mem_cons.1 hb with rfl | hb
        · exact h3.lt
        · exact ihk _ _ _ h6 b hb
      · rcases List.mem_cons.1 hb with rfl | hb
        · exact h3.lt
        · rcases List.mem_cons.1 hb with rfl | hb
          · exact h6.lt
          · exact ihk _ _ _ h9 b hb
    · exact ihr _ _ _ hr b hb

theorem LkN.lt {w : World} {k : Int} {fr : ByteArray} {ix : Int} {kids : F} {ps : List Nat} {v : Value} {bs : List Nat} (h : LkN w k fr ix kids ps v bs) : ∀ b, b ∈ bs → b < w.heap.size :=
  Lk.lt (.cons ⟨#[]⟩ k fr ix kids .nil) ps [.string ⟨#[]⟩, v] bs ⟨v, [], bs, [], rfl, by simp, h, rfl, rfl⟩

/-- One branch more. -/
theorem Lk.snoc {w : World} {lab : ByteArray} {k : Int} {fr : ByteArray} {ix : Int} {kids : F} {v : Value} {ks : List Nat} : ∀ (p : F) (ps : List Nat) (xs : List Value) (bs : List Nat), Lk w p ps xs bs → LkN w k fr ix kids ps v ks →
    Lk w (p.app (.cons lab k fr ix kids .nil)) ps (xs ++ [.string lab, v]) (bs ++ ks) := by
  intro p
  induction p with
  | nil =>
    intro ps xs bs h hn
    obtain ⟨rfl, rfl⟩ := h
    exact ⟨v, [], ks, [], rfl, by simp, hn, rfl, rfl⟩
  | cons lab' k' fr' ix' kids' rest ihk ihr =>
    intro ps xs bs h hn
    obtain ⟨v', ys, ks', rs, rfl, rfl, hn', hr⟩ := h
    exact ⟨v', _, ks', rs ++ ks, rfl, by rw [List.append_assoc], hn', ihr _ _ _ hr hn⟩

theorem Lk.length {w : World} : ∀ (f : F) (ps : List Nat) (xs : List Value) (bs : List Nat), Lk w f ps xs bs → xs.length = f.len * 2 := by
  intro f
  induction f with
  | nil => intro ps xs bs h; rw [h.1]; rfl
  | cons lab k fr ix kids rest ihk ihr =>
    intro ps xs bs h
    obtain ⟨v, ys, ks, rs, rfl, rfl, -, hr⟩ := h
    have := ihr _ _ _ hr
    simp only [List.length_cons, F.len]
    omega

/-- What a value of the type linkedNode looks like. -/
theorem LkN.val {w : World} {k : Int} {fr : ByteArray} {ix : Int} {kids : F} {ps : List Nat} {v : Value} {bs : List Nat} (h : LkN w k fr ix kids ps v bs) : ∃ T u, v = .iface T u := by
  rcases h with ⟨-, h, -⟩ | ⟨-, ⟨l, -, -, -, h⟩, -⟩ | ⟨-, b, s, u, ks, h, -⟩ | ⟨-, b, r, cap, cs, xs, ks, h, -⟩ <;> exact ⟨_, _, h⟩

/-! ### The recursions around -/

/-- A slice of pointers to these blocks. -/
def Ps (w : World) (v : Value) (ps : List Nat) : Prop :=
  (ps = [] ∧ v = .slice none 0 0) ∨ ∃ b cap, ps ≠ [] ∧ v = .slice (some ⟨b, 0, none⟩) ps.length cap ∧ ps.length ≤ cap ∧ cap ≤ maxLen ∧ ∀ i l, ps[i]? = some l → w.cell? ⟨b, i, none⟩ = some (.pointer (some ⟨l, 0, none⟩))
theorem Ps.still {w w' : World} (h : Still w w') {v : Value} {ps : List Nat} (hs : Ps w v ps) : Ps w' v ps := by
  rcases hs with hs | ⟨b, cap, h1, h2, h3, h4, h5⟩
  · exact Or.inl hs
  · exact Or.inr ⟨b, cap, h1, h2, h3, h4, fun i l hl => h _ _ (h5 i l hl)⟩
theorem Ps.nil (w : World) : Ps w (.slice none 0 0) [] := Or.inl ⟨rfl, rfl⟩
theorem Ps.only {w w' : World} {c : Nat} {m : Int} (hc : Ctr w c m) (h : Only c w w') {v : Value} {ps : List Nat} (hs : Ps w v ps) : Ps w' v ps := by
  rcases hs with hs | ⟨b, cap, h1, h2, h3, h4, h5⟩
  · exact Or.inl hs
  · refine Or.inr ⟨b, cap, h1, h2, h3, h4, fun i l hl => ?_⟩
    have g0 := h5 i l hl
    have hne : b ≠ c := by
      rintro rfl
      obtain ⟨t, hh⟩ := hc
      simp only [World.cell?, hh] at g0
      cases i with
      | zero => simp at g0
      | succ x => simp at g0
    rw [Same.cell (h.block b (World.block_lt_of_cell? _ _ g0) hne)]
    exact g0
theorem Ps.val {w : World} {v : Value} {ps : List Nat} (h : Ps w v ps) : ∃ a cap, v = .slice a ps.length cap ∧ ps.length ≤ cap ∧ cap ≤ maxLen := by
  rcases h with ⟨rfl, rfl⟩ | ⟨b, cap, h1, h2, h3, h4, h5⟩
  · exact ⟨none, 0, rfl, Nat.le_refl _, Nat.zero_le _⟩
  · exact ⟨_, cap, h2, h3, h4⟩

/-- A row of the call's own that holds these pointers. -/
theorem Ps.of_owns {w : World} {base : Nat} {e : TypeId} {v : Value} {ps : List Nat} (hne : ps ≠ []) (h : w.ownsRow base e 1 v ps.length (ps.map fun l => Value.pointer (some ⟨l, 0, none⟩))) : Ps w v ps := by
  rcases h with ⟨hl, ⟨hv, h0⟩ | ⟨g, cap, cur, hv, hb, hg, h1, h2, h3, h4⟩⟩
  · exact Or.inl ⟨List.eq_nil_of_length_eq_zero h0, hv⟩
  · cases ps with
    | nil => exact absurd rfl hne
    | cons p ps =>
      refine Or.inr ⟨g, cap, by simp, hv, h1, h2, fun i l hl => ?_⟩
      have hh : ((p :: ps).map fun l => Value.pointer (some ⟨l, 0, none⟩))[i]? = some (.pointer (some ⟨l, 0, none⟩)) := by
        rw [List.getElem?_map, hl]; rfl
      rw [← h4, List.getElem?_take] at hh
      rw [cell_of_heap hg]
      split at hh
      · simpa using hh
      · cases hh

/-- As Ps, and it is a row of such pointers' own. -/
def Pt (w : World) (v : Value) (ps : List Nat) : Prop :=
  (ps = [] ∧ v = .slice none 0 0) ∨ ∃ (b cap : Nat) (cs : Array Value), ps ≠ [] ∧ v = .slice (some ⟨b, 0, none⟩) ps.length cap ∧ ps.length ≤ cap ∧ cap ≤ maxLen ∧ w.heap[b]? = some (Obj.cells cs ( /- t -/ 194) (0, 0)) ∧ ∀ i l : Nat, ps[i]? = some l → cs[i]? = some (Value.pointer (some ⟨l, 0, none⟩))
theorem Pt.nil (w : World) : Pt w (.slice none 0 0) [] := Or.inl ⟨rfl, rfl⟩
theorem Pt.ps {w : World} {v : Value} {ps : List Nat} (h : Pt w v ps) : Ps w v ps := by
  rcases h with h | ⟨b, cap, cs, h1, h2, h3, h4, h5, h6⟩
  · exact Or.inl h
  · exact Or.inr ⟨b, cap, h1, h2, h3, h4, fun i l hl => by rw [cell_of_heap h5]; exact h6 i l hl⟩
theorem Pt.keep {w w' : World} {v : Value} {ps : List Nat} (h : Pt w v ps) (hk : ∀ (b : Nat) (cs : Array Value), w.heap[b]? = some (Obj.cells cs ( /- t -/ 194) (0, 0)) → w'.heap[b]? = some (Obj.cells cs ( /- t -/ 194) (0, 0))) : Pt w' v ps := by
  rcases h with h | ⟨b, cap, cs, h1, h2, h3, h4, h5, h6⟩
  · exact Or.inl h
  · exact Or.inr ⟨b, cap, cs, h1, h2, h3, h4, hk b cs h5, h6⟩
theorem Pt.below {w w' : World} {v : Value} {ps : List Nat} (h : Pt w v ps) (hb : Below w.heap.size w w') : Pt w' v ps :=
  h.keep fun b cs hc => by rw [hb.block b (Array.getElem?_eq_some_iff.1 hc).1]; exact hc
theorem Pt.of_owns {w : World} {base : Nat} {v : Value} {ps : List Nat} (hne : ps ≠ []) (h : w.ownsRow base ( /- t -/ 194) 1 v ps.length (ps.map fun l => Value.pointer (some ⟨l, 0, none⟩))) : Pt w v ps := by
  rcases h with ⟨hl, ⟨hv, h0⟩ | ⟨g, cap, cur, hv, hb, hg, h1, h2, h3, h4⟩⟩
  · exact Or.inl ⟨List.eq_nil_of_length_eq_zero h0, hv⟩
  · refine Or.inr ⟨g, cap, cur, hne, hv, h1, h2, hg, fun i l hl => ?_⟩
    have hh : (ps.map fun l => Value.pointer (some ⟨l, 0, none⟩))[i]? = some (.pointer (some ⟨l, 0, none⟩)) := by
      rw [List.getElem?_map, hl]; rfl
    rw [← h4, List.getElem?_take] at hh
    split at hh
    · simpa using hh
    · cases hh

end Go.Proofs.YtfppglfajbmapaaDoor.Lo
